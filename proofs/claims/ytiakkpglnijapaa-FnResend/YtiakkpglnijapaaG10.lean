/- Texts of ours put together: OuDr. -/
import Derived.Test.YtiakkpglnijapaaG06
import Derived.Test.YtiakkpglnijapaaG09
import Derived.Deep.Cut
import Derived.Deep.CutRange
namespace Go.Proofs.Ytiakkpglnijapaa
open Go.ChangeShapes Go.WideShapes Go.ChangeAt Go.RowKit
theorem cells_of_texts {W : World} {g : Nat} {T : List ByteArray} (h : W.heap[g]? = some (.cells (T.map Value.string).toArray 9)) : ∀ (i : Nat) (t : ByteArray), T[i]? = some t → W.cell? ⟨g, i, none⟩ = some (.string t) := fun i t ht => by
  simp [World.cell?, h, ht]
/-- The source and the answer's box. -/
structure DL (B : Nat) (w W : World) : Prop where
  src : IsSrc B W
  kp : Keep B w W
  hB : B < w.heap.size
  rb : W.heap[w.heap.size]? = some (.cells #[.string ⟨#[]⟩, .int .i64 0, .string ⟨#[]⟩, .int .i64 0, .int .i64 0] 25)
theorem DL.keep {B : Nat} {w W W' : World} (h : DL B w W) (hk : Keep B W W') (hs : IsSrc B W') : DL B w W' := by
  have hB := h.hB
  exact ⟨hs, h.kp.trans hk, hB, (hk.block _ (Array.getElem?_eq_some_iff.1 h.rb).1 (by omega)).trans h.rb⟩
theorem DL.below {B : Nat} {w W W' : World} (h : DL B w W) (hb : Below W.heap.size W W') : DL B w W' := h.keep (Keep.of_below hb) (h.src.below (hb.mono h.src.lt))
theorem DL.alloc {B : Nat} {w W : World} (h : DL B w W) (o : Obj) : DL B w (W.alloc o) := h.below ((Below.refl _ _).alloc (Nat.le_refl _) _)
/-- And the drawn thing's own box. -/
structure DP (B P : Nat) (w W : World) (p : ByteArray) (n : Int) (t : ByteArray) (r : Int) (u : Int) : Prop where
  dl : DL B w W
  hP : w.heap.size < P
  box : W.heap[P]? = some (.cells #[.string p, .int .i64 n, .string t, .int .i64 r, .int .i64 u] 25)
theorem DP.keep {B P : Nat} {w W W' : World} {p : ByteArray} {n : Int} {t : ByteArray} {r : Int} {u : Int} (h : DP B P w W p n t r u) (hk : Keep B W W') (hs : IsSrc B W') : DP B P w W' p n t r u := by
  have hB := h.dl.hB
  have hP := h.hP
  exact ⟨h.dl.keep hk hs, hP, (hk.block _ (Array.getElem?_eq_some_iff.1 h.box).1 (by omega)).trans h.box⟩
theorem DP.cells {B P : Nat} {w W : World} {p : ByteArray} {n : Int} {t : ByteArray} {r : Int} {u : Int} (h : DP B P w W p n t r u) : W.cell? ⟨P, 0, none⟩ = some (.string p) ∧ W.cell? ⟨P, 1, none⟩ = some (.int .i64 n) ∧ W.cell? ⟨P, 2, none⟩ = some (.string t) ∧ W.cell? ⟨P, 3, none⟩ = some (.int .i64 r) ∧ W.cell? ⟨P, 4, none⟩ = some (.int .i64 u) ∧ ∀ o, W.frozen? ⟨P, o, none⟩ = false := by
  obtain ⟨c0, c1, c2, c3, c4⟩ := box5 h.box
  have hb := h.box
  exact ⟨c0, c1, c2, c3, c4, fun o => by simp [World.frozen?, hb]⟩
theorem DL.rcells {B : Nat} {w W : World} (h : DL B w W) : W.cell? ⟨w.heap.size, 0, none⟩ = some (.string ⟨#[]⟩) ∧ W.cell? ⟨w.heap.size, 1, none⟩ = some (.int .i64 0) ∧ W.cell? ⟨w.heap.size, 2, none⟩ = some (.string ⟨#[]⟩) ∧ W.cell? ⟨w.heap.size, 3, none⟩ = some (.int .i64 0) ∧ W.cell? ⟨w.heap.size, 4, none⟩ = some (.int .i64 0) ∧ ∀ o, W.frozen? ⟨w.heap.size, o, none⟩ = false := by
  obtain ⟨c0, c1, c2, c3, c4⟩ := box5 h.rb
  have hb := h.rb
  exact ⟨c0, c1, c2, c3, c4, fun o => by simp [World.frozen?, hb]⟩
theorem DP.set0 {B P : Nat} {w W : World} {p : ByteArray} {n : Int} {t : ByteArray} {r : Int} {u : Int} (h : DP B P w W p n t r u) (x : ByteArray) : DP B P w (W.setCell ⟨P, 0, none⟩ (.string x)) x n t r u := by
  have hP := h.hP
  have hB := h.dl.hB
  have hk : Keep P W (W.setCell ⟨P, 0, none⟩ (.string x)) := (Keep.refl _ _).setCell _ _
  have hsz := h.dl.kp.size
  refine ⟨⟨h.dl.src.below (hk.below (by omega) (by omega)), h.dl.kp.setNew _ _ (by omega) _, hB, (hk.block _ (Array.getElem?_eq_some_iff.1 h.dl.rb).1 (by omega)).trans h.dl.rb⟩, hP, ?_⟩
  have := h.box
  simp [World.setCell, Array.getElem?_modify, this]
theorem DP.set1 {B P : Nat} {w W : World} {p : ByteArray} {n : Int} {t : ByteArray} {r : Int} {u : Int} (h : DP B P w W p n t r u) (x : Int) : DP B P w (W.setCell ⟨P, 1, none⟩ (.int .i64 x)) p x t r u := by
  have hP := h.hP
  have hB := h.dl.hB
  have hk : Keep P W (W.setCell ⟨P, 1, none⟩ (.int .i64 x)) := (Keep.refl _ _).setCell _ _
  have hsz := h.dl.kp.size
  refine ⟨⟨h.dl.src.below (hk.below (by omega) (by omega)), h.dl.kp.setNew _ _ (by omega) _, hB, (hk.block _ (Array.getElem?_eq_some_iff.1 h.dl.rb).1 (by omega)).trans h.dl.rb⟩, hP, ?_⟩
  have := h.box
  simp [World.setCell, Array.getElem?_modify, this]
theorem DP.set2 {B P : Nat} {w W : World} {p : ByteArray} {n : Int} {t : ByteArray} {r : Int} {u : Int} (h : DP B P w W p n t r u) (x : ByteArray) : DP B P w (W.setCell ⟨P, 2, none⟩ (.string x)) p n x r u := by
  have hP := h.hP
  have hB := h.dl.hB
  have hk : Keep P W (W.setCell ⟨P, 2, none⟩ (.string x)) := (Keep.refl _ _).setCell _ _
  have hsz := h.dl.kp.size
  refine ⟨⟨h.dl.src.below (hk.below (by omega) (by omega)), h.dl.kp.setNew _ _ (by omega) _, hB, (hk.block _ (Array.getElem?_eq_some_iff.1 h.dl.rb).1 (by omega)).trans h.dl.rb⟩, hP, ?_⟩
  have := h.box
  simp [World.setCell, Array.getElem?_modify, this]
theorem DP.set3 {B P : Nat} {w W : World} {p : ByteArray} {n : Int} {t : ByteArray} {r : Int} {u : Int} (h : DP B P w W p n t r u) (x : Int) : DP B P w (W.setCell ⟨P, 3, none⟩ (.int .i64 x)) p n t x u := by
  have hP := h.hP
  have hB := h.dl.hB
  have hk : Keep P W (W.setCell ⟨P, 3, none⟩ (.int .i64 x)) := (Keep.refl _ _).setCell _ _
  have hsz := h.dl.kp.size
  refine ⟨⟨h.dl.src.below (hk.below (by omega) (by omega)), h.dl.kp.setNew _ _ (by omega) _, hB, (hk.block _ (Array.getElem?_eq_some_iff.1 h.dl.rb).1 (by omega)).trans h.dl.rb⟩, hP, ?_⟩
  have := h.box
  simp [World.setCell, Array.getElem?_modify, this]
theorem DP.set4 {B P : Nat} {w W : World} {p : ByteArray} {n : Int} {t : ByteArray} {r : Int} {u : Int} (h : DP B P w W p n t r u) (x : Int) : DP B P w (W.setCell ⟨P, 4, none⟩ (.int .i64 x)) p n t r x := by
  have hP := h.hP
  have hB := h.dl.hB
  have hk : Keep P W (W.setCell ⟨P, 4, none⟩ (.int .i64 x)) := (Keep.refl _ _).setCell _ _
  have hsz := h.dl.kp.size
  refine ⟨⟨h.dl.src.below (hk.below (by omega) (by omega)), h.dl.kp.setNew _ _ (by omega) _, hB, (hk.block _ (Array.getElem?_eq_some_iff.1 h.dl.rb).1 (by omega)).trans h.dl.rb⟩, hP, ?_⟩
  have := h.box
  simp [World.setCell, Array.getElem?_modify, this]
theorem DP.fin {B P : Nat} {w W : World} {p : ByteArray} {n : Int} {t : ByteArray} {r : Int} {u : Int} (h : DP B P w W p n t r u) : (((((W.setCell ⟨w.heap.size, 0, none⟩ (.string p)).setCell ⟨w.heap.size, 1, none⟩ (.int .i64 n)).setCell ⟨w.heap.size, 2, none⟩ (.string t)).setCell ⟨w.heap.size, 3, none⟩ (.int .i64 r)).setCell ⟨w.heap.size, 4, none⟩ (.int .i64 u)).heap[w.heap.size]? = some (.cells #[.string p, .int .i64 n, .string t, .int .i64 r, .int .i64 u] 25) ∧ IsSrc B (((((W.setCell ⟨w.heap.size, 0, none⟩ (.string p)).setCell ⟨w.heap.size, 1, none⟩ (.int .i64 n)).setCell ⟨w.heap.size, 2, none⟩ (.string t)).setCell ⟨w.heap.size, 3, none⟩ (.int .i64 r)).setCell ⟨w.heap.size, 4, none⟩ (.int .i64 u)) ∧ Keep B w (((((W.setCell ⟨w.heap.size, 0, none⟩ (.string p)).setCell ⟨w.heap.size, 1, none⟩ (.int .i64 n)).setCell ⟨w.heap.size, 2, none⟩ (.string t)).setCell ⟨w.heap.size, 3, none⟩ (.int .i64 r)).setCell ⟨w.heap.size, 4, none⟩ (.int .i64 u)) := by
  have hk : Keep w.heap.size W (((((W.setCell ⟨w.heap.size, 0, none⟩ (.string p)).setCell ⟨w.heap.size, 1, none⟩ (.int .i64 n)).setCell ⟨w.heap.size, 2, none⟩ (.string t)).setCell ⟨w.heap.size, 3, none⟩ (.int .i64 r)).setCell ⟨w.heap.size, 4, none⟩ (.int .i64 u)) := (((((Keep.refl _ _).setCell _ _).setCell _ _).setCell _ _).setCell _ _).setCell _ _
  have hB := h.dl.hB
  have hkp := h.dl.kp
  have hz := hkp.size
  exact ⟨set5 h.dl.rb, h.dl.src.below (hk.below (by omega) (by omega)), ⟨hk.os.trans hkp.os, hk.tape.trans hkp.tape, hk.output.trans hkp.output, Nat.le_trans hkp.size hk.size, fun k hk' hne => (hk.block k (by omega) (by omega)).trans (hkp.block k hk' hne)⟩⟩
def oT1 : List ByteArray := [⟨#[65, 67, 77, 69]⟩, ⟨#[66, 79, 76, 84]⟩, ⟨#[67, 45, 49]⟩]
def oT2 : List ByteArray := [⟨#[120]⟩, ⟨#[83, 89, 78]⟩, ⟨#[121, 122]⟩]
theorem oT_sizes : (∀ s ∈ oT1, s.size ≤ 12) ∧ (∀ s ∈ oT2, s.size ≤ 12) := by
  refine ⟨?_, ?_⟩ <;> simp only [oT1, oT2, List.mem_cons, List.not_mem_nil, or_false] <;> intro s hs
  · rcases hs with rfl | rfl | rfl <;> decide
  · rcases hs with rfl | rfl | rfl <;> decide
def SmO (l : OutR) : Prop := l.partner.size ≤ 12 ∧ l.text.size ≤ 12
set_option maxRecDepth 100000 in
set_option maxHeartbeats 4000000 in
theorem l12Out_any (B : Nat) (w : World) (hS : IsSrc B w) :
    Calls Try.prog 19 #[.pointer (some ⟨B, 0, none⟩)] w fun e w' => ∃ l : OutR, e = .returned (.agg #[.string l.partner, .int .i64 l.number, .string l.text, .int .i64 l.tries, .int .i64 l.due]) ∧ SmO l ∧ IsSrc B w' ∧ Keep B w w' := by
  have hB := hS.lt
  obtain ⟨W0, hW0⟩ : ∃ W0, w.alloc (.cells #[.string ⟨#[]⟩, .int .i64 0, .string ⟨#[]⟩, .int .i64 0, .int .i64 0] 25) = W0 := ⟨_, rfl⟩
  have hb0 : Below w.heap.size w W0 := by rw [← hW0]; exact (Below.refl _ _).alloc (Nat.le_refl _) _
  have H0 : Hid (DL B w W0) := ⟨hS.below (hb0.mono hB), Keep.of_below hb0, hB, by rw [← hW0]; exact World.alloc_heap_new _ _⟩
  clear hS hb0
  go_enter Try.func19, Try.ntmps19
  go_upto_region 1 with fail
  try rw [hW0]
  clear hW0
  have hc1 := cells_of_texts (T := oT1) (World.alloc_heap_new W0 (.cells #[.string ⟨#[65, 67, 77, 69]⟩, .string ⟨#[66, 79, 76, 84]⟩, .string ⟨#[67, 45, 49]⟩] 9))
  have HC1 : Hid _ := And.intro hc1 (H0.out.src.lt)
  clear hc1
  go_wp2_with fail
  refine (pick_any B W0.heap.size 3 3 oT1 _ (by omega) (by omega) rfl (by have := HC1.out.2; omega) HC1.out.1 (H0.out.alloc (.cells #[.string ⟨#[65, 67, 77, 69]⟩, .string ⟨#[66, 79, 76, 84]⟩, .string ⟨#[67, 45, 49]⟩] 9)).src).mono ?_
  rintro e w1 ⟨s1, rfl, ms1, sw1, kw1⟩
  have H1 : Hid (DL B w w1) := (H0.out.alloc _).keep kw1 sw1
  clear kw1 sw1 H0 HC1
  go_wp2_with fail
  refine (n_any B 9 _ (by omega) (by omega) H1.out.src).mono ?_
  rintro e w2 ⟨n1, rfl, n1a, n1b, sw2, kw2⟩
  have H2 : Hid (DL B w w2) := H1.out.keep kw2 sw2
  clear kw2 sw2 H1
  have hc2 := cells_of_texts (T := oT2) (World.alloc_heap_new w2 (.cells #[.string ⟨#[120]⟩, .string ⟨#[83, 89, 78]⟩, .string ⟨#[121, 122]⟩] 9))
  have HC2 : Hid _ := And.intro hc2 (H2.out.src.lt)
  clear hc2
  go_wp2_with fail
  refine (pick_any B w2.heap.size 3 3 oT2 _ (by omega) (by omega) rfl (by have := HC2.out.2; omega) HC2.out.1 (H2.out.alloc (.cells #[.string ⟨#[120]⟩, .string ⟨#[83, 89, 78]⟩, .string ⟨#[121, 122]⟩] 9)).src).mono ?_
  rintro e w3 ⟨s2, rfl, ms2, sw3, kw3⟩
  have H3 : Hid (DL B w w3) := (H2.out.alloc _).keep kw3 sw3
  clear kw3 sw3 H2 HC2
  go_wp2_with fail
  refine (n_any B 6 _ (by omega) (by omega) H3.out.src).mono ?_
  rintro e w4 ⟨n2, rfl, n2a, n2b, sw4, kw4⟩
  have H4 : Hid (DL B w w4) := H3.out.keep kw4 sw4
  clear kw4 sw4 H3
  go_wp2_with fail
  refine (n_any B 20 _ (by omega) (by omega) H4.out.src).mono ?_
  rintro e w5 ⟨n3, rfl, n3a, n3b, sw5, kw5⟩
  have H5 : Hid (DL B w w5) := H4.out.keep kw5 sw5
  have HS : Hid (s1.size ≤ 12 ∧ s2.size ≤ 12) := ⟨oT_sizes.1 _ ms1, oT_sizes.2 _ ms2⟩
  clear kw5 sw5 H4 ms1 ms2
  obtain ⟨W5, hW5⟩ : ∃ W5, w5.alloc (.cells #[.string s1, .int .i64 (1 + n1), .string s2, .int .i64 n2, .int .i64 n3] 25) = W5 := ⟨_, rfl⟩
  obtain ⟨P, hP⟩ : ∃ P, P = w5.heap.size := ⟨_, rfl⟩
  have H6 : Hid (DP B P w W5 s1 (1 + n1) s2 n2 n3) := by
    have h5 := H5.out.alloc (.cells #[.string s1, .int .i64 (1 + n1), .string s2, .int .i64 n2, .int .i64 n3] 25)
    have hx := World.alloc_heap_new w5 (.cells #[.string s1, .int .i64 (1 + n1), .string s2, .int .i64 n2, .int .i64 n3] 25)
    have hl := (Array.getElem?_eq_some_iff.1 H5.out.rb).1
    rw [hW5] at h5 hx
    exact ⟨h5, by rw [hP]; exact hl, by rw [hP]; exact hx⟩
  have HW5 : Hid (w5.alloc (.cells #[.string s1, .int .i64 (1 + n1), .string s2, .int .i64 n2, .int .i64 n3] 25) = W5 ∧ P = w5.heap.size) := ⟨hW5, hP⟩
  clear hW5 hP
  obtain ⟨no, hno⟩ : ∃ no, no = 1 + n1 := ⟨_, rfl⟩
  have hn1 : 1 ≤ no := by omega
  have hn2 : no ≤ 9 := by omega
  have HOD : Hid (no = 1 + n1) := hno
  rw [← hno] at H6
  clear hno
  go_upto_region 2 with fail
  try rw [HW5.out.1]
  try rw [← HW5.out.2]
  try rw [← HOD.out]
  clear HW5 HOD n1a n1b H5
  go_wp2_with fail
  refine (one_any B 25 _ (by omega) (by omega) H6.out.dl.src).mono ?_
  rintro e w6 ⟨on, rfl, sw6, kw6⟩
  have H7 : Hid (DP B P w w6 s1 no s2 n2 n3) := H6.out.keep kw6 sw6
  clear kw6 sw6 H6
  go_upto_if 19 with fail
  go_cut [] from 20 to 37 (fun wx => ∃ (p' : ByteArray) (n' : Int) (t' : ByteArray) (r' u' : Int), (p'.size ≤ 12 ∧ t'.size ≤ 12) ∧ DP B P w wx p' n' t' r' u')
  case first =>
    obtain ⟨c0, c1, c2, c3, c4, cf⟩ := H7.out.cells
    cases on with
    | false =>
      go_wp2_with fail
      go_meet
      exact ⟨_, _, _, _, _, HS.out, H7.out⟩
    | true =>
      go_wp2_with fail
      refine (n_any B 5 _ (by omega) (by omega) H7.out.dl.src).mono ?_
      rintro e w12 ⟨k, rfl, k0, k1, sw12, kw12⟩
      have h13 := H7.out.keep kw12 sw12
      clear c0 c1 c2 c3 c4 cf
      obtain ⟨c0, c1, c2, c3, c4, cf⟩ := h13.cells
      have H13 : Hid (DP B P w w12 s1 no s2 n2 n3) := h13
      clear kw12 sw12 h13 H7
      obtain rfl | rfl | rfl | rfl | rfl : k = 0 ∨ k = 1 ∨ k = 2 ∨ k = 3 ∨ k = 4 := by omega
      · go_wp2_with fail
        go_meet
        exact ⟨_, _, _, _, _, ⟨HS.out.1, by decide⟩, H13.out.set2 ⟨#[]⟩⟩
      · go_wp2_with fail
        go_meet
        exact ⟨_, _, _, _, _, HS.out, H13.out.set3 6⟩
      · go_wp2_with fail
        refine (n_any B 2 _ (by omega) (by omega) H13.out.dl.src).mono ?_
        rintro e w13 ⟨y, rfl, y0, y1, sw13, kw13⟩
        have h14 := H13.out.keep kw13 sw13
        clear c0 c1 c2 c3 c4 cf
        obtain ⟨c0, c1, c2, c3, c4, cf⟩ := h14.cells
        have H14 : Hid (DP B P w w13 s1 no s2 n2 n3) := h14
        clear kw13 sw13 h14 H13
        go_wp2_with fail
        go_meet
        exact ⟨_, _, _, _, _, HS.out, H14.out.set4 _⟩
      · go_wp2_with fail
        go_meet
        exact ⟨_, _, _, _, _, HS.out, H13.out.set1 0⟩
      · go_wp2_with fail
        go_meet
        exact ⟨_, _, _, _, _, ⟨by decide, HS.out.2⟩, H13.out.set0 ⟨#[97]⟩⟩
  case rest =>
    clear H7
    obtain ⟨p', n', t', r', u', hi, hq⟩ := hcut
    rename World => w14
    obtain ⟨c0, c1, c2, c3, c4, cf⟩ := hq.cells
    obtain ⟨r0, r1, r2, r3, r4, rf⟩ := hq.dl.rcells
    have hPw := hq.hP
    have H15 : Hid _ := hq.fin
    have HZ : Hid (p'.size ≤ 12 ∧ t'.size ≤ 12) := hi
    clear hq hi
    go_wp2_with fail
    obtain ⟨f0, f1, f2, f3, f4⟩ := box5 H15.out.1
    exact bodyPost_ret (v := .agg #[.string p', .int .i64 n', .string t', .int .i64 r', .int .i64 u']) (by simp [results, Try.results19, go_sem, f0, f1, f2, f3, f4]) rfl ⟨⟨p', n', t', r', u'⟩, rfl, ⟨HZ.out.1, HZ.out.2⟩, H15.out.2.1, H15.out.2.2⟩
end Go.Proofs.Ytiakkpglnijapaa
