/- Texts of ours put together: BoSm, StxL. -/
import Derived.Test.YtamlhbjcokkmeaaGreatDoorG38
import Derived.Test.YtamlhbjcokkmeaaGreatDoorG23
import Derived.Test.YtamlhbjcokkmeaaGreatDoorG33
import Derived.Test.YtamlhbjcokkmeaaGreatDoorG17
import Derived.Test.YtamlhbjcokkmeaaGreatDoorG34
import Derived.Test.YtamlhbjcokkmeaaGreatDoorG37
namespace Go.Proofs.YtamlhbjcokkmeaaGreatDoor
open Go.ChangeShapes Go.WideShapes Go.ChangeAt Go.RowKit
theorem right_all {rs : List OLn} (h : RightL rs) (k : Nat) (l : OLn) (hk : rs[k]? = some l) : LnOk l := (h.at_ k l hk).ok
set_option maxHeartbeats 4000000 in
theorem sumOpen_any (v : Value) (rs : List OLn) (w : World) (h : RowOl w v rs) (hl : rs.length ≤ 200) (hok : ∀ l ∈ rs, LnOk l) : Calls Tryz.prog 73 #[v, .func (.func 74) #[] #[]] w fun e w' => e = .returned (.int .i64 (sumL opnT rs)) ∧ Below w.heap.size w w' := by
  have hlen := h.len
  obtain ⟨A, C, rfl⟩ := h.val
  have H0 : Hid (RowOl w (.slice A rs.length C) rs ∧ ∀ l ∈ rs, LnOk l) := ⟨h, hok⟩
  clear h hok
  go_enter Tryz.func73, Tryz.ntmps73
  go_wp2_with fail
  go_loopw [5, 10] (fun z ix wr => ∃ (k : Nat) (s : Int), ix = .int .i64 (k : Int) ∧ z = .int .i64 s ∧ k ≤ rs.length ∧ 0 ≤ s ∧ s ≤ 1000000 * (k : Int) ∧ s = sumL opnT (rs.take k) ∧ Below w.heap.size w wr) (fun _ ix _ => rs.length - (intOf ix).toNat)
  case atStart => exact ⟨0, 0, rfl, rfl, by omega, by omega, by omega, by simp [sumL], Below.refl _ _⟩
  case round =>
    obtain ⟨k, s, rfl, rfl, hk, hs0, hs1, hse, hb⟩ := hrel
    have HE : Hid (s = sumL opnT (rs.take k) ∧ Below w.heap.size w wr) := ⟨hse, hb⟩
    clear hse
    by_cases hlt : k < rs.length
    · have hlt' : (k : Int) < (rs.length : Int) := by omega
      obtain ⟨b, o, cap', l, e, hs, hat, hz⟩ := (H0.out.1.below hb).at hlt
      simp only [Value.slice.injEq, true_and] at e
      obtain ⟨rfl, rfl⟩ := e
      have HS : Hid (rs[k]? = some l) := hs
      have hok := H0.out.2 l (List.mem_of_getElem? hs)
      obtain ⟨q0, q1, q2, q3, q4, q5, q6, q7⟩ := hat
      have Q1 := open_any l hok
      rw [← opnT_yes hok] at Q1
      obtain ⟨f, hf⟩ : ∃ f, f = opnT l := ⟨_, rfl⟩
      have hfb := opnT_bound l
      rw [← hf] at Q1 hfb
      obtain ⟨hf0, hf1⟩ := hfb
      have HF : Hid (f = opnT l) := hf
      clear hs hz hok hf hb
      have hbx : Below w.heap.size w (wr.alloc (.cells #[.string l.partner, .string l.ref, .int .i64 l.no, .string l.item, .int .i64 l.ordered, .int .i64 l.sent, .int .i64 l.got, .int .i64 l.cut] 107)) := HE.out.2.alloc HE.out.2.size _
      have HB : Hid (Below w.heap.size w (wr.alloc (.cells #[.string l.partner, .string l.ref, .int .i64 l.no, .string l.item, .int .i64 l.ordered, .int .i64 l.sent, .int .i64 l.got, .int .i64 l.cut] 107))) := hbx
      clear hbx
      go_wp2_with fail
      refine (Q1 _).mono ?_
      rintro e w2 ⟨rfl, hb2⟩
      have H2 : Hid (Below w.heap.size w w2) := HB.out.trans (hb2.mono HB.out.size)
      clear hb2 Q1
      go_wp2
      go_roundw
      case rel =>
        refine ⟨k + 1, s + f, by go_num, by go_num, by omega, by omega, by omega, ?_, H2.out⟩
        rw [List.take_add_one, HS.out, sumL_app, HE.out.1, HF.out]
        simp [sumL]
      case measure => simp [intOf]; omega
    · obtain rfl : k = rs.length := by omega
      have HS : Hid (s = sumL opnT rs) := by have := HE.out.1; rw [List.take_length] at this; exact this
      clear hb
      go_wp2
      go_ret
      exact ⟨by rw [← HS.out]; rfl, HE.out.2⟩
set_option maxHeartbeats 4000000 in
theorem sumTransit_any (v : Value) (rs : List OLn) (w : World) (h : RowOl w v rs) (hl : rs.length ≤ 200) (hok : ∀ l ∈ rs, LnOk l) : Calls Tryz.prog 73 #[v, .func (.func 75) #[] #[]] w fun e w' => e = .returned (.int .i64 (sumL trnT rs)) ∧ Below w.heap.size w w' := by
  have hlen := h.len
  obtain ⟨A, C, rfl⟩ := h.val
  have H0 : Hid (RowOl w (.slice A rs.length C) rs ∧ ∀ l ∈ rs, LnOk l) := ⟨h, hok⟩
  clear h hok
  go_enter Tryz.func73, Tryz.ntmps73
  go_wp2_with fail
  go_loopw [5, 10] (fun z ix wr => ∃ (k : Nat) (s : Int), ix = .int .i64 (k : Int) ∧ z = .int .i64 s ∧ k ≤ rs.length ∧ 0 ≤ s ∧ s ≤ 1000000 * (k : Int) ∧ s = sumL trnT (rs.take k) ∧ Below w.heap.size w wr) (fun _ ix _ => rs.length - (intOf ix).toNat)
  case atStart => exact ⟨0, 0, rfl, rfl, by omega, by omega, by omega, by simp [sumL], Below.refl _ _⟩
  case round =>
    obtain ⟨k, s, rfl, rfl, hk, hs0, hs1, hse, hb⟩ := hrel
    have HE : Hid (s = sumL trnT (rs.take k) ∧ Below w.heap.size w wr) := ⟨hse, hb⟩
    clear hse
    by_cases hlt : k < rs.length
    · have hlt' : (k : Int) < (rs.length : Int) := by omega
      obtain ⟨b, o, cap', l, e, hs, hat, hz⟩ := (H0.out.1.below hb).at hlt
      simp only [Value.slice.injEq, true_and] at e
      obtain ⟨rfl, rfl⟩ := e
      have HS : Hid (rs[k]? = some l) := hs
      have hok := H0.out.2 l (List.mem_of_getElem? hs)
      obtain ⟨q0, q1, q2, q3, q4, q5, q6, q7⟩ := hat
      have Q1 := transit_any l hok
      rw [← trnT_yes hok] at Q1
      obtain ⟨f, hf⟩ : ∃ f, f = trnT l := ⟨_, rfl⟩
      have hfb := trnT_bound l
      rw [← hf] at Q1 hfb
      obtain ⟨hf0, hf1⟩ := hfb
      have HF : Hid (f = trnT l) := hf
      clear hs hz hok hf hb
      have hbx : Below w.heap.size w (wr.alloc (.cells #[.string l.partner, .string l.ref, .int .i64 l.no, .string l.item, .int .i64 l.ordered, .int .i64 l.sent, .int .i64 l.got, .int .i64 l.cut] 107)) := HE.out.2.alloc HE.out.2.size _
      have HB : Hid (Below w.heap.size w (wr.alloc (.cells #[.string l.partner, .string l.ref, .int .i64 l.no, .string l.item, .int .i64 l.ordered, .int .i64 l.sent, .int .i64 l.got, .int .i64 l.cut] 107))) := hbx
      clear hbx
      go_wp2_with fail
      refine (Q1 _).mono ?_
      rintro e w2 ⟨rfl, hb2⟩
      have H2 : Hid (Below w.heap.size w w2) := HB.out.trans (hb2.mono HB.out.size)
      clear hb2 Q1
      go_wp2
      go_roundw
      case rel =>
        refine ⟨k + 1, s + f, by go_num, by go_num, by omega, by omega, by omega, ?_, H2.out⟩
        rw [List.take_add_one, HS.out, sumL_app, HE.out.1, HF.out]
        simp [sumL]
      case measure => simp [intOf]; omega
    · obtain rfl : k = rs.length := by omega
      have HS : Hid (s = sumL trnT rs) := by have := HE.out.1; rw [List.take_length] at this; exact this
      clear hb
      go_wp2
      go_ret
      exact ⟨by rw [← HS.out]; rfl, HE.out.2⟩
end Go.Proofs.YtamlhbjcokkmeaaGreatDoor
namespace Go.Proofs.YtamlhbjcokkmeaaGreatDoor
open Go.ChangeShapes Go.WideShapes Go.ChangeAt Go.RowKit
/-- What the report of stock keeps beside the report: the book's box, the hands, the items. -/
structure StK (B M n2 : Nat) (W : World) (bx : Obj) (l : List Stk) (iv wv : Value) (items : List ByteArray) : Prop where
  box : W.heap[B]? = some bx
  map : W.ownsMap Tryz.prog 9 rdZ M l.length (mapS l)
  row : W.ownsRow n2 9 1 iv items.length (items.map Value.string)
  apart : ∀ g, iv.ownBlock = some g → wv.ownBlock ≠ some g
theorem nir_cells {cs : Array Value} {t : Nat} {fr : Nat × Nat} (h1 : t ≠ 3) (h2 : t ≠ 66) : NIR (.cells cs t fr) := ⟨fun _ _ e => h1 (by injection e), fun _ _ e => h2 (by injection e)⟩
theorem nir_map {es : Array MapEntry} {c : Nat} : NIR (.map es c) := ⟨fun _ _ e => (by cases e), fun _ _ e => (by cases e)⟩
theorem StK.below {B M n2 : Nat} {W W' : World} {bx : Obj} {l : List Stk} {iv wv : Value} {items : List ByteArray} (h : StK B M n2 W bx l iv wv items) (hb : Below W.heap.size W W') : StK B M n2 W' bx l iv wv items := by
  refine ⟨(hb.block _ (Array.getElem?_eq_some_iff.1 h.box).1).trans h.box, ?_, own1_below h.row hb, h.apart⟩
  obtain ⟨es, clock, h1, h2⟩ := h.map
  exact ⟨es, clock, (hb.block _ (Array.getElem?_eq_some_iff.1 h1).1).trans h1, h2⟩
theorem StK.ki {n0 R B M n2 : Nat} {W W' : World} {cs : Array Value} {l : List Stk} {iv wv ev wv' : Value} {items : List ByteArray} {rs : List (List ByteArray)} (h : StK B M n2 W (.cells cs 39) l iv wv items) (hR : Rep n0 R W wv ev rs) (hk : KI W W' wv wv') : StK B M n2 W' (.cells cs 39) l iv wv' items := by
  refine ⟨(hk B _ h.box (nir_cells (by decide) (by decide)) (rp_apart hR.words h.box (by decide))).1, ?_, ?_, fun g hg => ?_⟩
  · obtain ⟨es, clock, h1, h2⟩ := h.map
    exact ⟨es, clock, (hk M _ h1 nir_map (ni_apart hR.words h1 (fun _ _ e => (by cases e)))).1, h2⟩
  · rcases h.row.2 with ⟨e1, e2⟩ | ⟨g, cap, cur, e1, h1, h2, h3⟩
    · exact ⟨h.row.1, .inl ⟨e1, e2⟩⟩
    · exact ⟨h.row.1, .inr ⟨g, cap, cur, e1, h1, (hk g _ h2 (nir_cells (by decide) (by decide)) (h.apart g (by rw [e1]; rfl))).1, h3⟩⟩
  · rcases h.row.2 with ⟨e1, e2⟩ | ⟨g', cap, cur, e1, h1, h2, h3⟩
    · rw [e1] at hg
      cases hg
    · rw [e1] at hg
      simp only [Value.ownBlock, Option.some.injEq] at hg
      subst hg
      exact (hk g' _ h2 (nir_cells (by decide) (by decide)) (h.apart g' (by rw [e1]; rfl))).2
theorem row_cell {W : World} {base : Nat} {iv : Value} {items : List ByteArray} {k : Nat} {i : ByteArray} (h : W.ownsRow base 9 1 iv items.length (items.map Value.string)) (hk : items[k]? = some i) : ∃ g C, iv = .slice (some ⟨g, 0, none⟩) items.length C ∧ W.cell? ⟨g, k, none⟩ = some (.string i) := by
  have hl := (List.getElem?_eq_some_iff.1 hk).1
  rcases h.2 with ⟨_, e2⟩ | ⟨g, cap, cur, e1, _⟩
  · omega
  · refine ⟨g, cap, e1, ?_⟩
    rw [e1] at h
    rw [h.cellAt k (by omega), List.getElem?_map, hk]
    rfl
set_option maxRecDepth 20000 in
set_option maxHeartbeats 16000000 in
theorem stock_any (R : Nat) (rows0 : List (List ByteArray)) (p : Bk) (us ul : Value) (w0 : World) (wv0 ev0 : Value) (w : World) (h : RBk w0 us ul p) (hbk : bkB p = true) (hb0 : Below w0.heap.size w0 w) (hR : Rep w0.heap.size R w wv0 ev0 rows0) (hT : TabOk w0) (hl : rows0.flatten.length + 2100 ≤ 900000) (hr : rows0.length + 300 ≤ 900000) :
    Calls Tryz.prog 28 #[.pointer (some ⟨R, 0, none⟩), .agg #[us, ul]] w fun e w' => e = .returned (.tuple #[]) ∧ (∃ wv ev, Rep w0.heap.size R w' wv ev (rows0 ++ (itemsT p).map (stW p))) ∧ Below w0.heap.size w0 w' := by
  obtain ⟨a, c, a', c', rfl, rfl⟩ := h.val
  obtain ⟨n0, hn0⟩ : ∃ n0, n0 = w0.heap.size := ⟨_, rfl⟩
  rw [← hn0] at hb0 hR ⊢
  obtain ⟨W1, hW1⟩ : ∃ W1, w.alloc (.cells #[.slice a p.stocks.length c, .slice a' p.lines.length c'] 39) = W1 := ⟨_, rfl⟩
  obtain ⟨B, hB⟩ : ∃ B, B = w.heap.size := ⟨_, rfl⟩
  have ha : Below w.heap.size w W1 := by rw [← hW1]; exact (Below.refl _ _).alloc (Nat.le_refl _) _
  have hbx : W1.heap[B]? = some (.cells #[.slice a p.stocks.length c, .slice a' p.lines.length c'] 39) := by rw [← hW1, hB]; exact World.alloc_heap_new _ _
  have hn : n0 ≤ w.heap.size := by rw [hn0]; rw [hn0] at hb0; exact hb0.size
  have H0 : Hid (RBk w0 (.slice a p.stocks.length c) (.slice a' p.lines.length c') p ∧ TabOk w0 ∧ n0 = w0.heap.size) := ⟨h, hT, hn0⟩
  have H1 : Hid (Below n0 w0 W1 ∧ Rep n0 R W1 wv0 ev0 rows0 ∧ W1.heap[B]? = some (.cells #[.slice a p.stocks.length c, .slice a' p.lines.length c'] 39)) := ⟨hb0.trans (ha.mono hn), hR.below ha, hbx⟩
  have HR : Hid (RightS p.stocks ∧ RightL p.lines) := bkB_iff.1 hbk
  have HK : Hid (bkB p = true) := hbk
  have hls := HR.out.1.len
  have hll := HR.out.2.len
  have HRB : Hid (∀ W, Below n0 w0 W → RBk W (.slice a p.stocks.length c) (.slice a' p.lines.length c') p ∧ TabOk W) := fun W hW => by rw [hn0] at hW; exact ⟨h.below hW, hT.below hW⟩
  have HL : Hid (rows0.flatten.length + 2100 ≤ 900000 ∧ rows0.length + 300 ≤ 900000) := ⟨hl, hr⟩
  clear h hT hn0 hb0 hR hn hbk ha hl hr
  go_enter Tryz.func28, Tryz.ntmps28
  go_upto_region 1 with fail
  try rw [hW1]
  try rw [← hB]
  clear hW1 hB
  obtain ⟨c0, c1⟩ := box2 hbx
  have Q1 := handsOf_any (.slice a p.stocks.length c) p.stocks W1 (HRB.out W1 H1.out.1).1.st hls HR.out.1.rise' HR.out.1.small
  go_wp2_with fail
  refine Q1.mono ?_
  rintro e w2 ⟨rfl, ho, hb2⟩
  obtain ⟨M, hM⟩ : ∃ M, M = W1.heap.size := ⟨_, rfl⟩
  rw [← hM] at ho
  have hn1 : n0 ≤ W1.heap.size := by have := H1.out.1.size; have := H0.out.2.2; omega
  have H2 : Hid (Below n0 w0 w2 ∧ Rep n0 R w2 wv0 ev0 rows0 ∧ w2.heap[B]? = some (.cells #[.slice a p.stocks.length c, .slice a' p.lines.length c'] 39) ∧ w2.ownsMap Tryz.prog 9 rdZ M p.stocks.length (mapS p.stocks)) := ⟨H1.out.1.trans (hb2.mono hn1), H1.out.2.1.below hb2, (hb2.block _ (Array.getElem?_eq_some_iff.1 hbx).1).trans hbx, ho⟩
  obtain ⟨d0, d1⟩ := box2 H2.out.2.2.1
  try rw [← hM]
  clear Q1 hb2 ho hbx c0 c1 hn1 hM H1
  have Q2 := bookItems_impl p (.slice a p.stocks.length c) (.slice a' p.lines.length c') w2 (HRB.out w2 H2.out.1).1
  go_wp2_with fail
  refine Q2.mono ?_
  rintro e w3 ⟨iv, rfl, hi, hb3⟩
  obtain ⟨items, hit⟩ : ∃ items, items = itemsT p := ⟨_, rfl⟩
  rw [← hit] at hi
  have hil : items.length ≤ 300 := by rw [hit]; exact itemsT_len
  have HI : Hid (items = itemsT p) := hit
  have hsm : ∀ x ∈ items, x.size ≤ 12 := by rw [hit]; exact items_name HK.out
  have HSm : Hid (∀ x ∈ items, x.size ≤ 12) := hsm
  obtain ⟨Ai, Ci, rfl⟩ := own_form hi
  have hn2 : n0 ≤ w2.heap.size := by have := H2.out.1.size; have := H0.out.2.2; omega
  have hwl : ∀ g, wv0.ownBlock = some g → g < w2.heap.size := fun g hg => (H2.out.2.1.words.lt g hg).2
  have h3 : StK B M w2.heap.size w3 (.cells #[.slice a p.stocks.length c, .slice a' p.lines.length c'] 39) p.stocks (.slice Ai items.length Ci) wv0 items := by
    refine ⟨(hb3.block _ (Array.getElem?_eq_some_iff.1 H2.out.2.2.1).1).trans H2.out.2.2.1, ?_, hi, fun g hg e => ?_⟩
    · obtain ⟨es, clock, h1, h2⟩ := H2.out.2.2.2
      exact ⟨es, clock, (hb3.block _ (Array.getElem?_eq_some_iff.1 h1).1).trans h1, h2⟩
    · have h1 := (hi.lt g hg).1
      have h2 := hwl g e
      omega
  have H3 : Hid (Below n0 w0 w3 ∧ Rep n0 R w3 wv0 ev0 rows0 ∧ StK B M w2.heap.size w3 (.cells #[.slice a p.stocks.length c, .slice a' p.lines.length c'] 39) p.stocks (.slice Ai items.length Ci) wv0 items) := ⟨H2.out.1.trans (hb3.mono hn2), H2.out.2.1.below hb3, h3⟩
  obtain ⟨n2, hn2'⟩ : ∃ n2, n2 = w2.heap.size := ⟨_, rfl⟩
  have HG : Hid (n2 = w2.heap.size) := hn2'
  rw [← hn2'] at H3
  clear hb3 hi hit hsm hn2 hwl h3 d0 d1 Q2 hn2'
  go_wp2_with fail
  go_loopw [14] (fun ix wr => ∃ k : Nat, ix = .int .i64 (k : Int) ∧ k ≤ items.length ∧ (∃ wv ev, Rep n0 R wr wv ev (rows0 ++ (items.take k).map (stW p)) ∧ StK B M n2 wr (.cells #[.slice a p.stocks.length c, .slice a' p.lines.length c'] 39) p.stocks (.slice Ai items.length Ci) wv items) ∧ Below n0 w0 wr) (fun ix _ => items.length - (intOf ix).toNat)
  case atStart => exact ⟨0, rfl, by omega, ⟨_, _, by simpa using H3.out.2.1, H3.out.2.2⟩, H3.out.1⟩
  case round =>
    obtain ⟨k, rfl, hk, ⟨wv, ev, hrep, hst⟩, hb⟩ := hrel
    by_cases hlt : k < items.length
    · have hlt' : (k : Int) < (items.length : Int) := by omega
      obtain ⟨i, hs⟩ : ∃ i, items[k]? = some i := ⟨_, List.getElem?_eq_getElem hlt⟩
      obtain ⟨g, C, e, hcell⟩ := row_cell hst.row hs
      simp only [Value.slice.injEq, true_and] at e
      obtain ⟨rfl, rfl⟩ := e
      have hi12 := HSm.out i (List.mem_of_getElem? hs)
      have HS : Hid (items[k]? = some i) := hs
      obtain ⟨rows, hrows⟩ : ∃ rows, rows = rows0 ++ (items.take k).map (stW p) := ⟨_, rfl⟩
      rw [← hrows] at hrep
      have hrl : rows.length ≤ rows0.length + 300 := by rw [hrows, List.length_append, List.length_map, List.length_take]; omega
      have hrf : rows.flatten.length ≤ rows0.flatten.length + 2100 := by rw [hrows, List.flatten_append, List.length_append, stW_flat, List.length_take]; omega
      have HN : Hid (rows = rows0 ++ (items.take k).map (stW p)) := hrows
      have hhl := HL.out
      have hc4 : 0 < (stW p i).length := by rw [stW_len]; omega
      have hl4 : rows.flatten.length + (stW p i).length ≤ 1000000 := by rw [stW_len]; omega
      have hr4 : rows.length ≤ 1000000 := by omega
      have HW : Hid (Below n0 w0 wr ∧ Rep n0 R wr wv ev rows ∧ StK B M n2 wr (.cells #[.slice a p.stocks.length c, .slice a' p.lines.length c'] 39) p.stocks (.slice (some ⟨g, 0, none⟩) items.length Ci) wv items) := ⟨hb, hrep, hst⟩
      obtain ⟨e0, e1⟩ := box2 hst.box
      clear hs hrep hst hrows hb hhl hrl hrf
      have Q3 := linesAmong_any (.slice a' p.lines.length c') p.lines ⟨#[]⟩ i wr (HRB.out wr HW.out.1).1.ln hll (fun l hl => HR.out.2.ok l hl)
      go_wp2_with fail
      refine Q3.mono ?_
      rintro e w5 ⟨lv, rfl, hrow, hb5⟩
      obtain ⟨Al, Cl, rfl⟩ := hrow.val
      have hnr : n0 ≤ wr.heap.size := by have := HW.out.1.size; have := H0.out.2.2; omega
      have H5 : Hid (Below wr.heap.size wr w5 ∧ n0 ≤ wr.heap.size) := ⟨hb5, hnr⟩
      have HW5 : Hid (∀ W, Below w5.heap.size w5 W → Below n0 w0 W ∧ Rep n0 R W wv ev rows ∧ StK B M n2 W (.cells #[.slice a p.stocks.length c, .slice a' p.lines.length c'] 39) p.stocks (.slice (some ⟨g, 0, none⟩) items.length Ci) wv items ∧ TabOk W ∧ n0 ≤ W.heap.size) := fun W hW => by
        have h1 := hb5.trans (hW.mono hb5.size)
        have h2 := HW.out.1.trans (h1.mono hnr)
        exact ⟨h2, HW.out.2.1.below h1, HW.out.2.2.below h1, (HRB.out W h2).2, Nat.le_trans hnr h1.size⟩
      have hfl : (p.lines.filter (ofB ⟨#[]⟩ i)).length ≤ 200 := Nat.le_trans (List.length_filter_le _ _) hll
      have HRow : Hid (RowOl w5 (.slice Al (p.lines.filter (ofB ⟨#[]⟩ i)).length Cl) (p.lines.filter (ofB ⟨#[]⟩ i)) ∧ (∀ l ∈ p.lines.filter (ofB ⟨#[]⟩ i), LnOk l)) := ⟨hrow, fun l hl => HR.out.2.ok l (List.mem_filter.1 hl).1⟩
      have hL := lookS (HW5.out w5 (Below.refl _ _)).2.2.1.map (t := i) (by unfold maxLen; omega)
      obtain ⟨zh, hzh⟩ : ∃ zh, zh = ((findS i p.stocks).map Stk.hand).getD 0 := ⟨_, rfl⟩
      rw [← hzh] at hL
      have hsb := stB p i
      have ezh : zh = handT p i := by rw [hzh]; unfold handT; rw [if_pos HK.out]
      obtain ⟨fl, hflq⟩ : ∃ fl, fl = p.lines.filter (ofB ⟨#[]⟩ i) := ⟨_, rfl⟩
      rw [← hflq] at HRow hfl
      try rw [← hflq]
      have ezo : sumL opnT fl = sumT opnT p ⟨#[]⟩ i := by rw [hflq]; unfold sumT; rw [if_pos HK.out]
      have ezt : sumL trnT fl = sumT trnT p ⟨#[]⟩ i := by rw [hflq]; unfold sumT; rw [if_pos HK.out]
      obtain ⟨zo, hzo⟩ : ∃ zo, zo = sumL opnT fl := ⟨_, rfl⟩
      obtain ⟨zt, hzt⟩ : ∃ zt, zt = sumL trnT fl := ⟨_, rfl⟩
      have bh : -9223372036854775808 ≤ zh ∧ zh ≤ 9223372036854775807 := by rw [ezh]; exact ⟨hsb.h0, hsb.h1⟩
      have bo : -9223372036854775808 ≤ zo ∧ zo ≤ 9223372036854775807 := by rw [hzo, ezo]; exact ⟨hsb.o0, hsb.o1⟩
      have bt : -9223372036854775808 ≤ zt ∧ zt ≤ 9223372036854775807 := by rw [hzt, ezt]; exact ⟨hsb.t0, hsb.t1⟩
      have HZ : Hid (stW p i = [i, (⟨#[104, 97, 110, 100]⟩ : ByteArray), decS zh, (⟨#[111, 114, 100, 101, 114, 101, 100]⟩ : ByteArray), decS zo, (⟨#[116, 114, 97, 110, 115, 105, 116]⟩ : ByteArray), decS zt]) := by show _ = _; rw [ezh, hzo, ezo, hzt, ezt]; rfl
      have QO := fun W h => sumOpen_any (.slice Al fl.length Cl) fl W h hfl HRow.out.2
      have QT := fun W h => sumTransit_any (.slice Al fl.length Cl) fl W h hfl HRow.out.2
      rw [← hzo] at QO
      rw [← hzt] at QT
      clear hrow hb5 Q3 hzh ezh hflq ezo ezt hzo hzt hsb hnr e0 e1
      go_wp2_with fail
      refine (digitsOf_any zh _ bh.1 bh.2 (HW5.out w5 (Below.refl _ _)).2.2.2.1).mono ?_
      rintro e w6 ⟨rfl, hb6⟩
      have H6 : Hid (Below w5.heap.size w5 w6) := hb6
      clear hb6 hL
      go_wp2_with fail
      refine (QO w6 (HRow.out.1.below H6.out)).mono ?_
      rintro e w7 ⟨rfl, hb7⟩
      have H7 : Hid (Below w5.heap.size w5 w7) := H6.out.trans (hb7.mono H6.out.size)
      clear hb7
      go_wp2_with fail
      refine (digitsOf_any zo _ bo.1 bo.2 (HW5.out w7 H7.out).2.2.2.1).mono ?_
      rintro e w8 ⟨rfl, hb8⟩
      have H8 : Hid (Below w5.heap.size w5 w8) := H7.out.trans (hb8.mono H7.out.size)
      clear hb8
      go_wp2_with fail
      refine (QT w8 (HRow.out.1.below H8.out)).mono ?_
      rintro e w9 ⟨rfl, hb9⟩
      have H9 : Hid (Below w5.heap.size w5 w9) := H8.out.trans (hb9.mono H8.out.size)
      clear hb9
      go_wp2_with fail
      refine (digitsOf_any zt _ bt.1 bt.2 (HW5.out w9 H9.out).2.2.2.1).mono ?_
      rintro e w10 ⟨rfl, hb10⟩
      have H10 : Hid (Below w5.heap.size w5 w10) := H9.out.trans (hb10.mono H9.out.size)
      clear hb10 QO QT
      obtain ⟨WA, hWA⟩ : ∃ WA, w10.alloc (.cells #[.string i, .string ⟨#[104, 97, 110, 100]⟩, .string (decS zh), .string ⟨#[111, 114, 100, 101, 114, 101, 100]⟩, .string (decS zo), .string ⟨#[116, 114, 97, 110, 115, 105, 116]⟩, .string (decS zt)] 9) = WA := ⟨_, rfl⟩
      have hA : Below w10.heap.size w10 WA := by rw [← hWA]; exact (Below.refl _ _).alloc (Nat.le_refl _) _
      have hAx : WA.heap[w10.heap.size]? = some (.cells #[.string i, .string ⟨#[104, 97, 110, 100]⟩, .string (decS zh), .string ⟨#[111, 114, 100, 101, 114, 101, 100]⟩, .string (decS zo), .string ⟨#[116, 114, 97, 110, 115, 105, 116]⟩, .string (decS zt)] 9) := by rw [← hWA]; exact World.alloc_heap_new _ _
      obtain ⟨Q, hQ⟩ : ∃ Q, Q = w10.heap.size := ⟨_, rfl⟩
      rw [← hQ] at hAx
      have HA : Hid (Below w5.heap.size w5 WA) := H10.out.trans (hA.mono H10.out.size)
      have hcs : ∀ (j : Nat) (t : ByteArray), (stW p i)[j]? = some t → WA.cell? ⟨Q, j, none⟩ = some (.string t) := fun j t hj => by
        rw [HZ.out] at hj
        have hj7 : j < 7 := (List.getElem?_eq_some_iff.1 hj).1
        unfold World.cell?
        match j, hj7 with
        | 0, _ => cases hj; rw [hAx]; rfl
        | 1, _ => cases hj; rw [hAx]; rfl
        | 2, _ => cases hj; rw [hAx]; rfl
        | 3, _ => cases hj; rw [hAx]; rfl
        | 4, _ => cases hj; rw [hAx]; rfl
        | 5, _ => cases hj; rw [hAx]; rfl
        | 6, _ => cases hj; rw [hAx]; rfl
      have HWA : Hid (w10.alloc (.cells #[.string i, .string ⟨#[104, 97, 110, 100]⟩, .string (decS zh), .string ⟨#[111, 114, 100, 101, 114, 101, 100]⟩, .string (decS zo), .string ⟨#[116, 114, 97, 110, 115, 105, 116]⟩, .string (decS zt)] 9) = WA ∧ Q = w10.heap.size) := ⟨hWA, hQ⟩
      have QW := write_anyI n0 R Q 7 wv ev rows (stW p i) WA (HW5.out WA HA.out).2.1 hcs hc4 hl4 hr4 (HW5.out WA HA.out).2.2.2.2
      rw [stW_len] at QW
      have HQW : Hid (Calls Tryz.prog 26 #[.pointer (some ⟨R, 0, none⟩), .slice (some ⟨Q, 0, none⟩) 7 7] WA fun e w' => e = .returned (.tuple #[]) ∧ (∃ wv' ev', Rep n0 R w' wv' ev' (rows ++ [stW p i]) ∧ KI WA w' wv wv') ∧ Below n0 WA w') := QW
      clear QW hA hAx hcs hWA hQ hc4 hl4 hr4
      go_wp2_with fail
      try rw [HWA.out.1, ← HWA.out.2]
      refine HQW.out.mono ?_
      rintro e wd ⟨rfl, ⟨wv', ev', hrd, hkd⟩, hbd⟩
      have HE : Hid ((∃ wv ev, Rep n0 R wd wv ev (rows0 ++ (items.take (k + 1)).map (stW p)) ∧ StK B M n2 wd (.cells #[.slice a p.stocks.length c, .slice a' p.lines.length c'] 39) p.stocks (.slice (some ⟨g, 0, none⟩) items.length Ci) wv items) ∧ Below n0 w0 wd) := by
        refine ⟨⟨wv', ev', ?_, (HW5.out WA HA.out).2.2.1.ki (HW5.out WA HA.out).2.1 hkd⟩, (HW5.out WA HA.out).1.trans hbd⟩
        rw [List.take_add_one, HS.out, List.map_append, ← List.append_assoc, ← HN.out]
        exact hrd
      clear hrd hkd hbd
      go_wp2
      go_roundw
      case rel => exact ⟨k + 1, by go_num, by omega, HE.out.1, HE.out.2⟩
      case measure => simp [intOf]; omega
    · obtain rfl : k = items.length := by omega
      have HE : Hid ((∃ wv ev, Rep n0 R wr wv ev (rows0 ++ (itemsT p).map (stW p))) ∧ Below n0 w0 wr) := by
        rw [List.take_length] at hrep
        rw [← HI.out]
        exact ⟨⟨_, _, hrep⟩, hb⟩
      clear hrep hst hb
      go_wp2
      go_end0
      exact ⟨rfl, HE.out.1, HE.out.2⟩
end Go.Proofs.YtamlhbjcokkmeaaGreatDoor
