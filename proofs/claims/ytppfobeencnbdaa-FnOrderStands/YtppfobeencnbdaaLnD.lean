/- Contract of the model's l09Line: some line whose texts are short. -/
import Derived.Test.YtppfobeencnbdaaLnR
import Derived.Test.YtppfobeencnbdaaPick
import Derived.Deep.Cut
import Derived.Deep.CutRange
namespace Go.Proofs.Ytppfobeencnbdaa
open Go.ChangeShapes Go.WideShapes Go.ChangeAt Go.RowKit
theorem cells_of_texts {W : World} {g : Nat} {T : List ByteArray} (h : W.heap[g]? = some (.cells (T.map Value.string).toArray 9)) : ∀ (i : Nat) (t : ByteArray), T[i]? = some t → W.cell? ⟨g, i, none⟩ = some (.string t) := fun i t ht => by
  simp [World.cell?, h, ht]
/-- The source and the answer's box. -/
structure DL (B : Nat) (w W : World) : Prop where
  src : IsSrc B W
  kp : Keep B w W
  hB : B < w.heap.size
  rb : W.heap[w.heap.size]? = some (.cells #[.string ⟨#[]⟩, .string ⟨#[]⟩, .int .i64 0, .string ⟨#[]⟩, .int .i64 0, .int .i64 0, .int .i64 0, .int .i64 0] 31)
theorem DL.keep {B : Nat} {w W W' : World} (h : DL B w W) (hk : Keep B W W') (hs : IsSrc B W') : DL B w W' := by
  have hB := h.hB
  exact ⟨hs, h.kp.trans hk, hB, (hk.block _ (Array.getElem?_eq_some_iff.1 h.rb).1 (by omega)).trans h.rb⟩
theorem DL.below {B : Nat} {w W W' : World} (h : DL B w W) (hb : Below W.heap.size W W') : DL B w W' := h.keep (Keep.of_below hb) (h.src.below (hb.mono h.src.lt))
theorem DL.alloc {B : Nat} {w W : World} (h : DL B w W) (o : Obj) : DL B w (W.alloc o) := h.below ((Below.refl _ _).alloc (Nat.le_refl _) _)
/-- And the drawn line's own box. -/
structure DP (B P : Nat) (w W : World) (p : ByteArray) (r : ByteArray) (no : Int) (it : ByteArray) (od : Int) (sn : Int) (gt : Int) (ct : Int) : Prop where
  dl : DL B w W
  hP : w.heap.size < P
  box : W.heap[P]? = some (.cells #[.string p, .string r, .int .i64 no, .string it, .int .i64 od, .int .i64 sn, .int .i64 gt, .int .i64 ct] 31)
theorem DP.keep {B P : Nat} {w W W' : World} {p : ByteArray} {r : ByteArray} {no : Int} {it : ByteArray} {od : Int} {sn : Int} {gt : Int} {ct : Int} (h : DP B P w W p r no it od sn gt ct) (hk : Keep B W W') (hs : IsSrc B W') : DP B P w W' p r no it od sn gt ct := by
  have hB := h.dl.hB
  have hP := h.hP
  exact ⟨h.dl.keep hk hs, hP, (hk.block _ (Array.getElem?_eq_some_iff.1 h.box).1 (by omega)).trans h.box⟩
theorem DP.below {B P : Nat} {w W W' : World} {p : ByteArray} {r : ByteArray} {no : Int} {it : ByteArray} {od : Int} {sn : Int} {gt : Int} {ct : Int} (h : DP B P w W p r no it od sn gt ct) (hb : Below W.heap.size W W') : DP B P w W' p r no it od sn gt ct := h.keep (Keep.of_below hb) (h.dl.src.below (hb.mono h.dl.src.lt))
theorem DP.cells {B P : Nat} {w W : World} {p : ByteArray} {r : ByteArray} {no : Int} {it : ByteArray} {od : Int} {sn : Int} {gt : Int} {ct : Int} (h : DP B P w W p r no it od sn gt ct) : W.cell? ⟨P, 0, none⟩ = some (.string p) ∧ W.cell? ⟨P, 1, none⟩ = some (.string r) ∧ W.cell? ⟨P, 2, none⟩ = some (.int .i64 no) ∧ W.cell? ⟨P, 3, none⟩ = some (.string it) ∧ W.cell? ⟨P, 4, none⟩ = some (.int .i64 od) ∧ W.cell? ⟨P, 5, none⟩ = some (.int .i64 sn) ∧ W.cell? ⟨P, 6, none⟩ = some (.int .i64 gt) ∧ W.cell? ⟨P, 7, none⟩ = some (.int .i64 ct) ∧ ∀ o, W.frozen? ⟨P, o, none⟩ = false := by
  obtain ⟨c0, c1, c2, c3, c4, c5, c6, c7⟩ := box8 h.box
  have hb := h.box
  exact ⟨c0, c1, c2, c3, c4, c5, c6, c7, fun o => by simp [World.frozen?, hb]⟩
theorem DL.rcells {B : Nat} {w W : World} (h : DL B w W) : W.cell? ⟨w.heap.size, 0, none⟩ = some (.string ⟨#[]⟩) ∧ W.cell? ⟨w.heap.size, 1, none⟩ = some (.string ⟨#[]⟩) ∧ W.cell? ⟨w.heap.size, 2, none⟩ = some (.int .i64 0) ∧ W.cell? ⟨w.heap.size, 3, none⟩ = some (.string ⟨#[]⟩) ∧ W.cell? ⟨w.heap.size, 4, none⟩ = some (.int .i64 0) ∧ W.cell? ⟨w.heap.size, 5, none⟩ = some (.int .i64 0) ∧ W.cell? ⟨w.heap.size, 6, none⟩ = some (.int .i64 0) ∧ W.cell? ⟨w.heap.size, 7, none⟩ = some (.int .i64 0) ∧ ∀ o, W.frozen? ⟨w.heap.size, o, none⟩ = false := by
  obtain ⟨c0, c1, c2, c3, c4, c5, c6, c7⟩ := box8 h.rb
  have hb := h.rb
  exact ⟨c0, c1, c2, c3, c4, c5, c6, c7, fun o => by simp [World.frozen?, hb]⟩
theorem DP.set0 {B P : Nat} {w W : World} {p : ByteArray} {r : ByteArray} {no : Int} {it : ByteArray} {od : Int} {sn : Int} {gt : Int} {ct : Int} (h : DP B P w W p r no it od sn gt ct) (x : ByteArray) : DP B P w (W.setCell ⟨P, 0, none⟩ (.string x)) x r no it od sn gt ct := by
  have hP := h.hP
  have hB := h.dl.hB
  have hk : Keep P W (W.setCell ⟨P, 0, none⟩ (.string x)) := (Keep.refl _ _).setCell _ _
  have hsz := h.dl.kp.size
  refine ⟨⟨h.dl.src.below (hk.below (by omega) (by omega)), h.dl.kp.setNew _ _ (by omega) _, hB, (hk.block _ (Array.getElem?_eq_some_iff.1 h.dl.rb).1 (by omega)).trans h.dl.rb⟩, hP, ?_⟩
  have := h.box
  simp [World.setCell, Array.getElem?_modify, this]
theorem DP.set1 {B P : Nat} {w W : World} {p : ByteArray} {r : ByteArray} {no : Int} {it : ByteArray} {od : Int} {sn : Int} {gt : Int} {ct : Int} (h : DP B P w W p r no it od sn gt ct) (x : ByteArray) : DP B P w (W.setCell ⟨P, 1, none⟩ (.string x)) p x no it od sn gt ct := by
  have hP := h.hP
  have hB := h.dl.hB
  have hk : Keep P W (W.setCell ⟨P, 1, none⟩ (.string x)) := (Keep.refl _ _).setCell _ _
  have hsz := h.dl.kp.size
  refine ⟨⟨h.dl.src.below (hk.below (by omega) (by omega)), h.dl.kp.setNew _ _ (by omega) _, hB, (hk.block _ (Array.getElem?_eq_some_iff.1 h.dl.rb).1 (by omega)).trans h.dl.rb⟩, hP, ?_⟩
  have := h.box
  simp [World.setCell, Array.getElem?_modify, this]
theorem DP.set2 {B P : Nat} {w W : World} {p : ByteArray} {r : ByteArray} {no : Int} {it : ByteArray} {od : Int} {sn : Int} {gt : Int} {ct : Int} (h : DP B P w W p r no it od sn gt ct) (x : Int) : DP B P w (W.setCell ⟨P, 2, none⟩ (.int .i64 x)) p r x it od sn gt ct := by
  have hP := h.hP
  have hB := h.dl.hB
  have hk : Keep P W (W.setCell ⟨P, 2, none⟩ (.int .i64 x)) := (Keep.refl _ _).setCell _ _
  have hsz := h.dl.kp.size
  refine ⟨⟨h.dl.src.below (hk.below (by omega) (by omega)), h.dl.kp.setNew _ _ (by omega) _, hB, (hk.block _ (Array.getElem?_eq_some_iff.1 h.dl.rb).1 (by omega)).trans h.dl.rb⟩, hP, ?_⟩
  have := h.box
  simp [World.setCell, Array.getElem?_modify, this]
theorem DP.set3 {B P : Nat} {w W : World} {p : ByteArray} {r : ByteArray} {no : Int} {it : ByteArray} {od : Int} {sn : Int} {gt : Int} {ct : Int} (h : DP B P w W p r no it od sn gt ct) (x : ByteArray) : DP B P w (W.setCell ⟨P, 3, none⟩ (.string x)) p r no x od sn gt ct := by
  have hP := h.hP
  have hB := h.dl.hB
  have hk : Keep P W (W.setCell ⟨P, 3, none⟩ (.string x)) := (Keep.refl _ _).setCell _ _
  have hsz := h.dl.kp.size
  refine ⟨⟨h.dl.src.below (hk.below (by omega) (by omega)), h.dl.kp.setNew _ _ (by omega) _, hB, (hk.block _ (Array.getElem?_eq_some_iff.1 h.dl.rb).1 (by omega)).trans h.dl.rb⟩, hP, ?_⟩
  have := h.box
  simp [World.setCell, Array.getElem?_modify, this]
theorem DP.set4 {B P : Nat} {w W : World} {p : ByteArray} {r : ByteArray} {no : Int} {it : ByteArray} {od : Int} {sn : Int} {gt : Int} {ct : Int} (h : DP B P w W p r no it od sn gt ct) (x : Int) : DP B P w (W.setCell ⟨P, 4, none⟩ (.int .i64 x)) p r no it x sn gt ct := by
  have hP := h.hP
  have hB := h.dl.hB
  have hk : Keep P W (W.setCell ⟨P, 4, none⟩ (.int .i64 x)) := (Keep.refl _ _).setCell _ _
  have hsz := h.dl.kp.size
  refine ⟨⟨h.dl.src.below (hk.below (by omega) (by omega)), h.dl.kp.setNew _ _ (by omega) _, hB, (hk.block _ (Array.getElem?_eq_some_iff.1 h.dl.rb).1 (by omega)).trans h.dl.rb⟩, hP, ?_⟩
  have := h.box
  simp [World.setCell, Array.getElem?_modify, this]
theorem DP.set5 {B P : Nat} {w W : World} {p : ByteArray} {r : ByteArray} {no : Int} {it : ByteArray} {od : Int} {sn : Int} {gt : Int} {ct : Int} (h : DP B P w W p r no it od sn gt ct) (x : Int) : DP B P w (W.setCell ⟨P, 5, none⟩ (.int .i64 x)) p r no it od x gt ct := by
  have hP := h.hP
  have hB := h.dl.hB
  have hk : Keep P W (W.setCell ⟨P, 5, none⟩ (.int .i64 x)) := (Keep.refl _ _).setCell _ _
  have hsz := h.dl.kp.size
  refine ⟨⟨h.dl.src.below (hk.below (by omega) (by omega)), h.dl.kp.setNew _ _ (by omega) _, hB, (hk.block _ (Array.getElem?_eq_some_iff.1 h.dl.rb).1 (by omega)).trans h.dl.rb⟩, hP, ?_⟩
  have := h.box
  simp [World.setCell, Array.getElem?_modify, this]
theorem DP.set6 {B P : Nat} {w W : World} {p : ByteArray} {r : ByteArray} {no : Int} {it : ByteArray} {od : Int} {sn : Int} {gt : Int} {ct : Int} (h : DP B P w W p r no it od sn gt ct) (x : Int) : DP B P w (W.setCell ⟨P, 6, none⟩ (.int .i64 x)) p r no it od sn x ct := by
  have hP := h.hP
  have hB := h.dl.hB
  have hk : Keep P W (W.setCell ⟨P, 6, none⟩ (.int .i64 x)) := (Keep.refl _ _).setCell _ _
  have hsz := h.dl.kp.size
  refine ⟨⟨h.dl.src.below (hk.below (by omega) (by omega)), h.dl.kp.setNew _ _ (by omega) _, hB, (hk.block _ (Array.getElem?_eq_some_iff.1 h.dl.rb).1 (by omega)).trans h.dl.rb⟩, hP, ?_⟩
  have := h.box
  simp [World.setCell, Array.getElem?_modify, this]
theorem DP.set7 {B P : Nat} {w W : World} {p : ByteArray} {r : ByteArray} {no : Int} {it : ByteArray} {od : Int} {sn : Int} {gt : Int} {ct : Int} (h : DP B P w W p r no it od sn gt ct) (x : Int) : DP B P w (W.setCell ⟨P, 7, none⟩ (.int .i64 x)) p r no it od sn gt x := by
  have hP := h.hP
  have hB := h.dl.hB
  have hk : Keep P W (W.setCell ⟨P, 7, none⟩ (.int .i64 x)) := (Keep.refl _ _).setCell _ _
  have hsz := h.dl.kp.size
  refine ⟨⟨h.dl.src.below (hk.below (by omega) (by omega)), h.dl.kp.setNew _ _ (by omega) _, hB, (hk.block _ (Array.getElem?_eq_some_iff.1 h.dl.rb).1 (by omega)).trans h.dl.rb⟩, hP, ?_⟩
  have := h.box
  simp [World.setCell, Array.getElem?_modify, this]
theorem DP.fin {B P : Nat} {w W : World} {p : ByteArray} {r : ByteArray} {no : Int} {it : ByteArray} {od : Int} {sn : Int} {gt : Int} {ct : Int} (h : DP B P w W p r no it od sn gt ct) : ((((((((W.setCell ⟨w.heap.size, 0, none⟩ (.string p)).setCell ⟨w.heap.size, 1, none⟩ (.string r)).setCell ⟨w.heap.size, 2, none⟩ (.int .i64 no)).setCell ⟨w.heap.size, 3, none⟩ (.string it)).setCell ⟨w.heap.size, 4, none⟩ (.int .i64 od)).setCell ⟨w.heap.size, 5, none⟩ (.int .i64 sn)).setCell ⟨w.heap.size, 6, none⟩ (.int .i64 gt)).setCell ⟨w.heap.size, 7, none⟩ (.int .i64 ct)).heap[w.heap.size]? = some (.cells #[.string p, .string r, .int .i64 no, .string it, .int .i64 od, .int .i64 sn, .int .i64 gt, .int .i64 ct] 31) ∧ IsSrc B ((((((((W.setCell ⟨w.heap.size, 0, none⟩ (.string p)).setCell ⟨w.heap.size, 1, none⟩ (.string r)).setCell ⟨w.heap.size, 2, none⟩ (.int .i64 no)).setCell ⟨w.heap.size, 3, none⟩ (.string it)).setCell ⟨w.heap.size, 4, none⟩ (.int .i64 od)).setCell ⟨w.heap.size, 5, none⟩ (.int .i64 sn)).setCell ⟨w.heap.size, 6, none⟩ (.int .i64 gt)).setCell ⟨w.heap.size, 7, none⟩ (.int .i64 ct)) ∧ Keep B w ((((((((W.setCell ⟨w.heap.size, 0, none⟩ (.string p)).setCell ⟨w.heap.size, 1, none⟩ (.string r)).setCell ⟨w.heap.size, 2, none⟩ (.int .i64 no)).setCell ⟨w.heap.size, 3, none⟩ (.string it)).setCell ⟨w.heap.size, 4, none⟩ (.int .i64 od)).setCell ⟨w.heap.size, 5, none⟩ (.int .i64 sn)).setCell ⟨w.heap.size, 6, none⟩ (.int .i64 gt)).setCell ⟨w.heap.size, 7, none⟩ (.int .i64 ct)) := by
  have hk : Keep w.heap.size W ((((((((W.setCell ⟨w.heap.size, 0, none⟩ (.string p)).setCell ⟨w.heap.size, 1, none⟩ (.string r)).setCell ⟨w.heap.size, 2, none⟩ (.int .i64 no)).setCell ⟨w.heap.size, 3, none⟩ (.string it)).setCell ⟨w.heap.size, 4, none⟩ (.int .i64 od)).setCell ⟨w.heap.size, 5, none⟩ (.int .i64 sn)).setCell ⟨w.heap.size, 6, none⟩ (.int .i64 gt)).setCell ⟨w.heap.size, 7, none⟩ (.int .i64 ct)) := (((((((((Keep.refl _ _).setCell _ _).setCell _ _).setCell _ _).setCell _ _).setCell _ _).setCell _ _).setCell _ _).setCell _ _)
  have hB := h.dl.hB
  have hkp := h.dl.kp
  have hz := hkp.size
  exact ⟨set8 h.dl.rb, h.dl.src.below (hk.below (by omega) (by omega)), ⟨hk.os.trans hkp.os, hk.tape.trans hkp.tape, hk.output.trans hkp.output, Nat.le_trans hkp.size hk.size, fun k hk' hne => (hk.block k (by omega) (by omega)).trans (hkp.block k hk' hne)⟩⟩
def lT1 : List ByteArray := [⟨#[65, 67, 77, 69]⟩, ⟨#[66, 79, 76, 84]⟩, ⟨#[67, 45, 49]⟩]
def lT2 : List ByteArray := [⟨#[80, 79, 45, 49]⟩, ⟨#[80, 79, 45, 50]⟩, ⟨#[80, 79, 45, 51]⟩]
def lT3 : List ByteArray := [⟨#[66, 79, 76, 84]⟩, ⟨#[78, 85, 84]⟩, ⟨#[71, 69, 65, 82]⟩, ⟨#[67, 65, 77]⟩]
def lT4 : List ByteArray := [⟨#[]⟩, ⟨#[97]⟩]
theorem lT_sizes : (∀ s ∈ lT1, s.size ≤ 12) ∧ (∀ s ∈ lT2, s.size ≤ 12) ∧ (∀ s ∈ lT3, s.size ≤ 12) ∧ (∀ s ∈ lT4, s.size ≤ 12) := by
  refine ⟨?_, ?_, ?_, ?_⟩ <;> simp only [lT1, lT2, lT3, lT4, List.mem_cons, List.not_mem_nil, or_false] <;> intro s hs
  · rcases hs with rfl | rfl | rfl <;> decide
  · rcases hs with rfl | rfl | rfl <;> decide
  · rcases hs with rfl | rfl | rfl | rfl <;> decide
  · rcases hs with rfl | rfl <;> decide
def SmL (l : OLn) : Prop := l.partner.size ≤ 12 ∧ l.ref.size ≤ 12 ∧ l.item.size ≤ 12
set_option maxRecDepth 100000 in
set_option maxHeartbeats 4000000 in
theorem l09Line_any (B : Nat) (w : World) (hS : IsSrc B w) :
    Calls Try.prog 28 #[.pointer (some ⟨B, 0, none⟩)] w fun e w' => ∃ l : OLn, e = .returned (.agg #[.string l.partner, .string l.ref, .int .i64 l.no, .string l.item, .int .i64 l.ordered, .int .i64 l.sent, .int .i64 l.got, .int .i64 l.cut]) ∧ SmL l ∧ IsSrc B w' ∧ Keep B w w' := by
  have hB := hS.lt
  obtain ⟨W0, hW0⟩ : ∃ W0, w.alloc (.cells #[.string ⟨#[]⟩, .string ⟨#[]⟩, .int .i64 0, .string ⟨#[]⟩, .int .i64 0, .int .i64 0, .int .i64 0, .int .i64 0] 31) = W0 := ⟨_, rfl⟩
  have hb0 : Below w.heap.size w W0 := by rw [← hW0]; exact (Below.refl _ _).alloc (Nat.le_refl _) _
  have H0 : Hid (DL B w W0) := ⟨hS.below (hb0.mono hB), Keep.of_below hb0, hB, by rw [← hW0]; exact World.alloc_heap_new _ _⟩
  clear hS hb0
  go_enter Try.func28, Try.ntmps28
  go_upto_region 1 with fail
  try rw [hW0]
  clear hW0
  have hc1 := cells_of_texts (T := lT1) (World.alloc_heap_new W0 (.cells #[.string ⟨#[65, 67, 77, 69]⟩, .string ⟨#[66, 79, 76, 84]⟩, .string ⟨#[67, 45, 49]⟩] 9))
  have HC1 : Hid _ := And.intro hc1 (H0.out.src.lt)
  clear hc1
  go_wp2_with fail
  refine (pick_any B W0.heap.size 3 3 lT1 _ (by omega) (by omega) rfl (by have := HC1.out.2; omega) HC1.out.1 (H0.out.alloc (.cells #[.string ⟨#[65, 67, 77, 69]⟩, .string ⟨#[66, 79, 76, 84]⟩, .string ⟨#[67, 45, 49]⟩] 9)).src).mono ?_
  rintro e w1 ⟨s1, rfl, ms1, sw1, kw1⟩
  have H1 : Hid (DL B w w1) := (H0.out.alloc _).keep kw1 sw1
  clear kw1 sw1 H0 HC1
  have hc2 := cells_of_texts (T := lT2) (World.alloc_heap_new w1 (.cells #[.string ⟨#[80, 79, 45, 49]⟩, .string ⟨#[80, 79, 45, 50]⟩, .string ⟨#[80, 79, 45, 51]⟩] 9))
  have HC2 : Hid _ := And.intro hc2 (H1.out.src.lt)
  clear hc2
  go_wp2_with fail
  refine (pick_any B w1.heap.size 3 3 lT2 _ (by omega) (by omega) rfl (by have := HC2.out.2; omega) HC2.out.1 (H1.out.alloc (.cells #[.string ⟨#[80, 79, 45, 49]⟩, .string ⟨#[80, 79, 45, 50]⟩, .string ⟨#[80, 79, 45, 51]⟩] 9)).src).mono ?_
  rintro e w2 ⟨s2, rfl, ms2, sw2, kw2⟩
  have H2 : Hid (DL B w w2) := (H1.out.alloc _).keep kw2 sw2
  clear kw2 sw2 H1 HC2
  go_wp2_with fail
  refine (n_any B 4 _ (by omega) (by omega) H2.out.src).mono ?_
  rintro e w3 ⟨n1, rfl, n1a, n1b, sw3, kw3⟩
  have H3 : Hid (DL B w w3) := H2.out.keep kw3 sw3
  clear kw3 sw3 H2
  have hc3 := cells_of_texts (T := lT3) (World.alloc_heap_new w3 (.cells #[.string ⟨#[66, 79, 76, 84]⟩, .string ⟨#[78, 85, 84]⟩, .string ⟨#[71, 69, 65, 82]⟩, .string ⟨#[67, 65, 77]⟩] 9))
  have HC3 : Hid _ := And.intro hc3 (H3.out.src.lt)
  clear hc3
  go_wp2_with fail
  refine (pick_any B w3.heap.size 4 4 lT3 _ (by omega) (by omega) rfl (by have := HC3.out.2; omega) HC3.out.1 (H3.out.alloc (.cells #[.string ⟨#[66, 79, 76, 84]⟩, .string ⟨#[78, 85, 84]⟩, .string ⟨#[71, 69, 65, 82]⟩, .string ⟨#[67, 65, 77]⟩] 9)).src).mono ?_
  rintro e w4 ⟨s3, rfl, ms3, sw4, kw4⟩
  have H4 : Hid (DL B w w4) := (H3.out.alloc _).keep kw4 sw4
  clear kw4 sw4 H3 HC3
  go_wp2_with fail
  refine (n_any B 40 _ (by omega) (by omega) H4.out.src).mono ?_
  rintro e w5 ⟨n2, rfl, n2a, n2b, sw5, kw5⟩
  have H5 : Hid (DL B w w5) := H4.out.keep kw5 sw5
  have HS : Hid (s1.size ≤ 12 ∧ s2.size ≤ 12 ∧ s3.size ≤ 12) := ⟨lT_sizes.1 _ ms1, lT_sizes.2.1 _ ms2, lT_sizes.2.2.1 _ ms3⟩
  clear kw5 sw5 H4 ms1 ms2 ms3
  obtain ⟨W5, hW5⟩ : ∃ W5, w5.alloc (.cells #[.string s1, .string s2, .int .i64 (1 + n1), .string s3, .int .i64 (1 + n2), .int .i64 0, .int .i64 0, .int .i64 0] 31) = W5 := ⟨_, rfl⟩
  obtain ⟨P, hP⟩ : ∃ P, P = w5.heap.size := ⟨_, rfl⟩
  have H6 : Hid (DP B P w W5 s1 s2 (1 + n1) s3 (1 + n2) 0 0 0) := by
    have h5 := H5.out.alloc (.cells #[.string s1, .string s2, .int .i64 (1 + n1), .string s3, .int .i64 (1 + n2), .int .i64 0, .int .i64 0, .int .i64 0] 31)
    have hx := World.alloc_heap_new w5 (.cells #[.string s1, .string s2, .int .i64 (1 + n1), .string s3, .int .i64 (1 + n2), .int .i64 0, .int .i64 0, .int .i64 0] 31)
    have hl := (Array.getElem?_eq_some_iff.1 H5.out.rb).1
    rw [hW5] at h5 hx
    exact ⟨h5, by rw [hP]; exact hl, by rw [hP]; exact hx⟩
  have HW5 : Hid (w5.alloc (.cells #[.string s1, .string s2, .int .i64 (1 + n1), .string s3, .int .i64 (1 + n2), .int .i64 0, .int .i64 0, .int .i64 0] 31) = W5 ∧ P = w5.heap.size) := ⟨hW5, hP⟩
  clear hW5 hP
  obtain ⟨od, hod⟩ : ∃ od, od = 1 + n2 := ⟨_, rfl⟩
  obtain ⟨no, hno⟩ : ∃ no, no = 1 + n1 := ⟨_, rfl⟩
  have ho1 : 1 ≤ od := by omega
  have ho2 : od ≤ 40 := by omega
  have hn1 : 1 ≤ no := by omega
  have hn2 : no ≤ 4 := by omega
  have HOD : Hid (od = 1 + n2 ∧ no = 1 + n1) := ⟨hod, hno⟩
  rw [← hod, ← hno] at H6
  clear hod hno
  go_upto_region 2 with fail
  try rw [HW5.out.1]
  try rw [← HW5.out.2]
  try rw [← HOD.out.1]
  try rw [← HOD.out.2]
  clear HW5 HOD n1a n1b n2a n2b H5
  obtain ⟨c0, c1, c2, c3, c4, c5, c6, c7, cf⟩ := H6.out.cells
  go_wp2_with fail
  refine (n_pos B _ _ (by omega) (by omega) H6.out.dl.src).mono ?_
  rintro e w6 ⟨sn, rfl, sn0, sn1, sw6, kw6⟩
  have h7 := H6.out.keep kw6 sw6
  clear c0 c1 c2 c3 c4 c5 c6 c7 cf
  obtain ⟨c0, c1, c2, c3, c4, c5, c6, c7, cf⟩ := h7.cells
  have H7 : Hid (DP B P w (w6.setCell ⟨P, 5, none⟩ (.int .i64 sn)) s1 s2 no s3 od sn 0 0) := h7.set5 sn
  clear kw6 sw6 h7 H6
  go_wp2_with fail
  refine (n_pos B _ _ (by omega) (by omega) H7.out.dl.src).mono ?_
  rintro e w7 ⟨gt, rfl, gt0, gt1, sw7, kw7⟩
  have h8 := H7.out.keep kw7 sw7
  clear c0 c1 c2 c3 c4 c5 c6 c7 cf
  obtain ⟨c0, c1, c2, c3, c4, c5, c6, c7, cf⟩ := h8.cells
  have H8 : Hid (DP B P w (w7.setCell ⟨P, 6, none⟩ (.int .i64 gt)) s1 s2 no s3 od sn gt 0) := h8.set6 gt
  clear kw7 sw7 h8 H7
  go_wp2_with fail
  refine (n_pos B _ _ (by omega) (by omega) H8.out.dl.src).mono ?_
  rintro e w8 ⟨ct, rfl, ct0, ct1, sw8, kw8⟩
  have ct2 : ct ≤ 41 := by omega
  clear ct1
  have h9 := H8.out.keep kw8 sw8
  clear c0 c1 c2 c3 c4 c5 c6 c7 cf
  obtain ⟨c0, c1, c2, c3, c4, c5, c6, c7, cf⟩ := h9.cells
  have H9 : Hid (DP B P w (w8.setCell ⟨P, 7, none⟩ (.int .i64 ct)) s1 s2 no s3 od sn gt ct) := h9.set7 ct
  clear kw8 sw8 h9 H8
  go_upto_region 5 with fail
  go_wp2_with fail
  refine (one_any B 3 _ (by omega) (by omega) H9.out.dl.src).mono ?_
  rintro e w9 ⟨on, rfl, sw9, kw9⟩
  have h10 := H9.out.keep kw9 sw9
  clear c0 c1 c2 c3 c4 c5 c6 c7 cf
  obtain ⟨c0, c1, c2, c3, c4, c5, c6, c7, cf⟩ := h10.cells
  have H10 : Hid (DP B P w w9 s1 s2 no s3 od sn gt ct) := h10
  clear kw9 sw9 h10 H9
  go_upto_if 42 with fail
  go_cut [] from 43 to 44 (fun wx => ∃ sn gt : Int, 0 ≤ sn ∧ sn ≤ 40 ∧ 0 ≤ gt ∧ gt ≤ 40 ∧ DP B P w wx s1 s2 no s3 od sn gt ct)
  case first =>
    cases on with
    | false =>
      go_wp2_with fail
      go_meet
      exact ⟨sn, gt, by omega, by omega, by omega, by omega, H10.out⟩
    | true =>
      go_wp2_with fail
      go_meet
      exact ⟨0, 0, by omega, by omega, by omega, by omega, (H10.out.set5 0).set6 0⟩
  case rest =>
    clear H10 c0 c1 c2 c3 c4 c5 c6 c7 cf sn0 sn1 gt0 gt1
    obtain ⟨sn, gt, sn0, sn1, gt0, gt1, hq⟩ := hcut
    rename World => w10
    have H11 : Hid (DP B P w w10 s1 s2 no s3 od sn gt ct) := hq
    clear hq
    go_upto_region 8 with fail
    go_wp2_with fail
    refine (one_any B 25 _ (by omega) (by omega) H11.out.dl.src).mono ?_
    rintro e w11 ⟨on2, rfl, sw11, kw11⟩
    have H12 : Hid (DP B P w w11 s1 s2 no s3 od sn gt ct) := H11.out.keep kw11 sw11
    clear kw11 sw11 H11
    go_upto_if 46 with fail
    go_cut [] from 47 to 80 (fun wx => ∃ (no : Int) (it : ByteArray) (od sn gt ct : Int), it.size ≤ 12 ∧ DP B P w wx s1 s2 no it od sn gt ct)
    case first =>
      obtain ⟨c0, c1, c2, c3, c4, c5, c6, c7, cf⟩ := H12.out.cells
      cases on2 with
      | false =>
        go_wp2_with fail
        go_meet
        exact ⟨_, _, _, _, _, _, HS.out.2.2, H12.out⟩
      | true =>
        go_wp2_with fail
        refine (n_any B 5 _ (by omega) (by omega) H12.out.dl.src).mono ?_
        rintro e w12 ⟨k, rfl, k0, k1, sw12, kw12⟩
        have h13 := H12.out.keep kw12 sw12
        clear c0 c1 c2 c3 c4 c5 c6 c7 cf
        obtain ⟨c0, c1, c2, c3, c4, c5, c6, c7, cf⟩ := h13.cells
        have H13 : Hid (DP B P w w12 s1 s2 no s3 od sn gt ct) := h13
        clear kw12 sw12 h13 H12
        obtain rfl | rfl | rfl | rfl | rfl : k = 0 ∨ k = 1 ∨ k = 2 ∨ k = 3 ∨ k = 4 := by omega
        · go_wp2_with fail
          go_meet
          exact ⟨_, _, _, _, _, _, HS.out.2.2, H13.out.set7 (ct + od)⟩
        · go_wp2_with fail
          go_meet
          exact ⟨_, _, _, _, _, _, HS.out.2.2, H13.out.set6 (sn + 1)⟩
        · go_wp2_with fail
          refine (n_any B 2 _ (by omega) (by omega) H13.out.dl.src).mono ?_
          rintro e w13 ⟨y, rfl, y0, y1, sw13, kw13⟩
          have h14 := H13.out.keep kw13 sw13
          clear c0 c1 c2 c3 c4 c5 c6 c7 cf
          obtain ⟨c0, c1, c2, c3, c4, c5, c6, c7, cf⟩ := h14.cells
          have H14 : Hid (DP B P w w13 s1 s2 no s3 od sn gt ct) := h14
          clear kw13 sw13 h14 H13
          go_wp2_with fail
          go_meet
          exact ⟨_, _, _, _, _, _, HS.out.2.2, H14.out.set2 _⟩
        · have ha := H13.out.below ((Below.refl _ _).alloc (Nat.le_refl _) (.cells #[.int .i64 0, .int .i64 1000000, .int .i64 1000001] 2))
          have hg := World.alloc_heap_new w12 (.cells #[.int .i64 0, .int .i64 1000000, .int .i64 1000001] 2)
          have HA : Hid _ := And.intro ha hg
          have hBw : B < w12.heap.size := H13.out.dl.src.lt
          clear ha hg c0 c1 c2 c3 c4 c5 c6 c7 cf
          go_wp2_with fail
          refine (n_any B 3 _ (by omega) (by omega) HA.out.1.dl.src).mono ?_
          rintro e w13 ⟨y, rfl, y0, y1, sw13, kw13⟩
          have h14 := HA.out.1.keep kw13 sw13
          have hg3 := (kw13.block w12.heap.size (by simp) (by omega)).trans HA.out.2
          have g0 : w13.cell? ⟨w12.heap.size, 0, none⟩ = some (.int .i64 0) := by simp [World.cell?, hg3]
          have g1 : w13.cell? ⟨w12.heap.size, 1, none⟩ = some (.int .i64 1000000) := by simp [World.cell?, hg3]
          have g2 : w13.cell? ⟨w12.heap.size, 2, none⟩ = some (.int .i64 1000001) := by simp [World.cell?, hg3]
          obtain ⟨c0, c1, c2, c3, c4, c5, c6, c7, cf⟩ := h14.cells
          have H14 : Hid (DP B P w w13 s1 s2 no s3 od sn gt ct) := h14
          clear kw13 sw13 h14 H13 HA hg3
          obtain rfl | rfl | rfl : y = 0 ∨ y = 1 ∨ y = 2 := by omega
          · go_wp2_with fail
            go_meet
            exact ⟨_, _, _, _, _, _, HS.out.2.2, H14.out.set4 0⟩
          · go_wp2_with fail
            go_meet
            exact ⟨_, _, _, _, _, _, HS.out.2.2, H14.out.set4 1000000⟩
          · go_wp2_with fail
            go_meet
            exact ⟨_, _, _, _, _, _, HS.out.2.2, H14.out.set4 1000001⟩
        · have HA : Hid (DP B P w (w12.alloc (.cells #[.string ⟨#[]⟩, .string ⟨#[97]⟩] 9)) s1 s2 no s3 od sn gt ct) := H13.out.below ((Below.refl _ _).alloc (Nat.le_refl _) _)
          clear c0 c1 c2 c3 c4 c5 c6 c7 cf
          have hc4 := cells_of_texts (T := lT4) (World.alloc_heap_new w12 (.cells #[.string ⟨#[]⟩, .string ⟨#[97]⟩] 9))
          have HC4 : Hid _ := And.intro hc4 (H13.out.dl.src.lt)
          clear hc4
          go_wp2_with fail
          refine (pick_any B w12.heap.size 2 2 lT4 _ (by omega) (by omega) rfl (by have := HC4.out.2; omega) HC4.out.1 HA.out.dl.src).mono ?_
          rintro e w13 ⟨s4, rfl, ms4, sw13, kw13⟩
          have h14 := HA.out.keep kw13 sw13
          obtain ⟨c0, c1, c2, c3, c4, c5, c6, c7, cf⟩ := h14.cells
          have H14 : Hid (DP B P w w13 s1 s2 no s3 od sn gt ct ∧ s4.size ≤ 12) := ⟨h14, lT_sizes.2.2.2 _ ms4⟩
          clear kw13 sw13 h14 H13 HA ms4 HC4
          go_wp2_with fail
          go_meet
          exact ⟨_, _, _, _, _, _, H14.out.2, H14.out.1.set3 s4⟩
    case rest =>
      clear H12
      obtain ⟨no', it', od', sn', gt', ct', hi, hq⟩ := hcut
      rename World => w14
      obtain ⟨c0, c1, c2, c3, c4, c5, c6, c7, cf⟩ := hq.cells
      obtain ⟨r0, r1, r2, r3, r4, r5, r6, r7, rf⟩ := hq.dl.rcells
      have hPw := hq.hP
      have H15 : Hid _ := hq.fin
      have HZ : Hid (it'.size ≤ 12) := hi
      clear hq hi
      go_wp2_with fail
      obtain ⟨f0, f1, f2, f3, f4, f5, f6, f7⟩ := box8 H15.out.1
      exact bodyPost_ret (v := .agg #[.string s1, .string s2, .int .i64 no', .string it', .int .i64 od', .int .i64 sn', .int .i64 gt', .int .i64 ct']) (by simp [results, Try.results28, go_sem, f0, f1, f2, f3, f4, f5, f6, f7]) rfl ⟨⟨s1, s2, no', it', od', sn', gt', ct'⟩, rfl, ⟨HS.out.1, HS.out.2.1, HZ.out⟩, H15.out.2⟩
end Go.Proofs.Ytppfobeencnbdaa
