/- Contract of the model's DrawThreeOrder. -/
import Derived.Test.YtppfobeencnbdaaThDr
import Derived.BigQuiet
import Derived.Deep.QuietTactic
import Derived.BigRegion
namespace Go.Proofs.Ytppfobeencnbdaa
open Go.ChangeShapes Go.WideShapes Go.ChangeAt Go.RowKit
theorem setO8 {W : World} {P t : Nat} {x0 x1 x2 x3 x4 x5 x6 x7 y0 y1 y2 y3 y4 y5 y6 y7 : Value} (h : W.heap[P]? = some (.cells #[x0, x1, x2, x3, x4, x5, x6, x7] t)) :
    ((((((((W.setCell ⟨P, 0, none⟩ y0).setCell ⟨P, 1, none⟩ y1).setCell ⟨P, 2, none⟩ y2).setCell ⟨P, 3, none⟩ y3).setCell ⟨P, 4, none⟩ y4).setCell ⟨P, 5, none⟩ y5).setCell ⟨P, 6, none⟩ y6).setCell ⟨P, 7, none⟩ y7).heap[P]? = some (.cells #[y0, y1, y2, y3, y4, y5, y6, y7] t) := by
  simp [World.setCell, Array.getElem?_modify, h]
theorem belO8 {n P : Nat} {a W : World} {y0 y1 y2 y3 y4 y5 y6 y7 : Value} (h : Below n a W) (hP : n ≤ P) : Below n a ((((((((W.setCell ⟨P, 0, none⟩ y0).setCell ⟨P, 1, none⟩ y1).setCell ⟨P, 2, none⟩ y2).setCell ⟨P, 3, none⟩ y3).setCell ⟨P, 4, none⟩ y4).setCell ⟨P, 5, none⟩ y5).setCell ⟨P, 6, none⟩ y6).setCell ⟨P, 7, none⟩ y7) := (((((((h.setCell hP _).setCell hP _).setCell hP _).setCell hP _).setCell hP _).setCell hP _).setCell hP _).setCell hP _
theorem keepP {P : Nat} {W W' : World} (hb : Below P W W') (h8 : ∀ k, P < k → W'.heap[k]? = W.heap[k]?) : Keep P W W' := ⟨hb.os, hb.tape, hb.output, hb.size, fun k hk hne => by
  rcases Nat.lt_or_ge k P with g | g
  · exact hb.block k g
  · exact h8 k (by omega)⟩
theorem below_drewO {B : Nat} {a w : World} (h : Below B a w) (n : Nat) : Below B a (w.drewN n) := h.trans ⟨rfl, rfl, rfl, Nat.le_refl _, fun _ _ => rfl⟩
set_option maxRecDepth 100000 in
set_option maxHeartbeats 8000000 in
theorem drawThreeOrder_any (a : Option Addr) (len cap : Nat) (zs : List Int) (w : World) (hl : len ≤ 1048576) (hr : BytesAt w a len zs) :
    Calls Try.prog 13 #[.slice a len cap] w fun e w' => ∃ (ad : Addr) (C : Nat) (rs : List OLn) (p r : ByteArray), e = .returned (.tuple #[.slice (some ad) rs.length C, .string p, .string r]) ∧ RowOl w' (.slice (some ad) rs.length C) rs ∧ (∀ g ∈ rs, SmL g) ∧ rs.length ≤ 250 ∧ p.size ≤ 12 ∧ r.size ≤ 12 ∧ Below w.heap.size w w' := by
  have HR : Hid (BytesAt w a len zs) := hr
  clear hr
  go_enter Try.func13, Try.ntmps13
  go_wp2_with fail
  refine (source_any a len cap zs _ hl HR.out).mono ?_
  rintro e w1 ⟨rfl, hs1, hb1⟩
  obtain ⟨B, hB⟩ : ∃ B, B = w.heap.size := ⟨_, rfl⟩
  rw [← hB] at hs1
  have H1 : Hid (IsSrc B w1 ∧ Below w.heap.size w w1) := ⟨hs1, hb1⟩
  have HB : Hid (B = w.heap.size) := hB
  clear hs1 hb1 HR hB
  try rw [← HB.out]
  go_wp2_with fail
  try rw [← HB.out]
  refine (l09Lines_any B _ H1.out.1).mono ?_
  rintro e w2 ⟨v, rs, rfl, hq, hl2⟩
  obtain ⟨ad, C, rfl, had⟩ := hq.sh
  have H2 : Hid (QLn B w1 w2 (.slice (some ad) rs.length C) rs) := hq
  clear hq
  go_wp2_with fail
  refine (l09Line_any B _ H2.out.src).mono ?_
  rintro e w3 ⟨l, rfl, hsm, s3, k3⟩
  have H3 : Hid (QLn B w1 w3 (.slice (some ad) rs.length C) rs ∧ SmL l) := ⟨H2.out.keep k3 s3, hsm⟩
  clear hsm s3 k3 H2
  go_upto_region 4 with fail
  obtain ⟨W4, hW4⟩ : ∃ W4, w3.alloc (.cells #[.string l.partner, .string l.ref, .int .i64 l.no, .string l.item, .int .i64 l.ordered, .int .i64 l.sent, .int .i64 l.got, .int .i64 l.cut] 31) = W4 := ⟨_, rfl⟩
  have hb4 : Below w3.heap.size w3 W4 := by rw [← hW4]; exact (Below.refl _ _).alloc (Nat.le_refl _) _
  have i4 : W4.heap[w3.heap.size]? = some (.cells #[.string l.partner, .string l.ref, .int .i64 l.no, .string l.item, .int .i64 l.ordered, .int .i64 l.sent, .int .i64 l.got, .int .i64 l.cut] 31) := by rw [← hW4]; exact World.alloc_heap_new _ _
  obtain ⟨P, hP⟩ : ∃ P, P = w3.heap.size := ⟨_, rfl⟩
  rw [← hP] at i4
  have hPB : B < P := by rw [hP]; exact H3.out.1.src.lt
  have H4 : Hid (QLn B w1 W4 (.slice (some ad) rs.length C) rs ∧ W4.heap[P]? = some (.cells #[.string l.partner, .string l.ref, .int .i64 l.no, .string l.item, .int .i64 l.ordered, .int .i64 l.sent, .int .i64 l.got, .int .i64 l.cut] 31) ∧ w1.heap.size ≤ P ∧ (rs ≠ [] → ad.block < P)) := by
    refine ⟨H3.out.1.belowT hb4, i4, by rw [hP]; exact H3.out.1.kp.size, fun hn => ?_⟩
    obtain ⟨A', C', e, hc⟩ := H3.out.1.row.shape
    simp only [Value.slice.injEq, true_and] at e
    obtain ⟨rfl, rfl⟩ := e
    obtain ⟨b, o, e, hcell⟩ := hc hn
    cases e
    have hpos := List.length_pos_iff.2 hn
    have := (hcell 0 _ (List.getElem?_eq_getElem hpos)).1
    rw [hP]
    exact cell_lt this
  try rw [hW4]
  try rw [← hP]
  clear hW4 hb4 i4 hP
  have HFin : Hid (∀ W, QLn B w1 W (.slice (some ad) rs.length C) rs → Below w.heap.size w W) := fun W hq => H1.out.2.trans (hq.kp.below (Nat.le_of_eq HB.out.symm) H1.out.2.size)
  by_cases hn : rs = []
  · have h0' : ¬ (0 : Int) < (rs.length : Int) := by rw [hn]; decide
    obtain ⟨c0, c1, c2, c3, c4, c5, c6, c7⟩ := box8 H4.out.2.1
    have HE : Hid (rs = []) := hn
    clear hn
    go_upto_region 6 with fail
    go_quiet (fail)
    go_wp2
    go_ret3
    exact ⟨ad, C, rs, l.partner, l.ref, rfl, (H4.out.1.row.below (below_drewO (Below.refl _ _) _)), H4.out.1.sm, hl2, H3.out.2.1, H3.out.2.2.1, below_drewO (HFin.out _ H4.out.1) _⟩
  · have h0' : (0 : Int) < (rs.length : Int) := by have := List.length_pos_iff.2 hn; omega
    have hln : 1 ≤ rs.length := List.length_pos_iff.2 hn
    have HE : Hid (rs ≠ []) := hn
    clear hn
    go_wp2_with fail
    refine (one_any B 6 _ (by omega) (by omega) H4.out.1.src).mono ?_
    rintro e w5 ⟨v, rfl, s5, k5⟩
    have H5 : Hid (QLn B w1 w5 (.slice (some ad) rs.length C) rs ∧ w5.heap[P]? = some (.cells #[.string l.partner, .string l.ref, .int .i64 l.no, .string l.item, .int .i64 l.ordered, .int .i64 l.sent, .int .i64 l.got, .int .i64 l.cut] 31)) := ⟨H4.out.1.keep k5 s5, (k5.block P (Array.getElem?_eq_some_iff.1 H4.out.2.1).1 (by omega)).trans H4.out.2.1⟩
    clear s5 k5
    cases v with
    | true =>
      obtain ⟨c0, c1, c2, c3, c4, c5, c6, c7⟩ := box8 H5.out.2
      go_upto_region 6 with fail
      go_quiet (fail)
      go_wp2
      go_ret3
      exact ⟨ad, C, rs, l.partner, l.ref, rfl, (H5.out.1.row.below (below_drewO (Below.refl _ _) _)), H5.out.1.sm, hl2, H3.out.2.1, H3.out.2.2.1, below_drewO (HFin.out _ H5.out.1) _⟩
    | false =>
      go_wp2_with fail
      refine (n_pos B (rs.length : Int) _ (by omega) (by omega) H5.out.1.src).mono ?_
      rintro e w6 ⟨y, rfl, hy0, hy1, s6, k6⟩
      obtain ⟨i, rfl⟩ : ∃ i : Nat, y = (i : Int) := ⟨y.toNat, by omega⟩
      have hi : i < rs.length := by omega
      have H6 : Hid (QLn B w1 w6 (.slice (some ad) rs.length C) rs ∧ w6.heap[P]? = some (.cells #[.string l.partner, .string l.ref, .int .i64 l.no, .string l.item, .int .i64 l.ordered, .int .i64 l.sent, .int .i64 l.got, .int .i64 l.cut] 31)) := ⟨H5.out.1.keep k6 s6, (k6.block P (Array.getElem?_eq_some_iff.1 H5.out.2).1 (by omega)).trans H5.out.2⟩
      clear s6 k6
      obtain ⟨b, o, cap', c, e, hs, ⟨q0, q1, q2, q3, q4, q5, q6, q7⟩, _⟩ := H6.out.1.row.at hi
      simp only [Value.slice.injEq, Option.some.injEq, true_and] at e
      obtain ⟨rfl, rfl⟩ := e
      have HC : Hid (SmL c) := H6.out.1.sm c (List.mem_of_getElem? hs)
      have hfz : ∀ o, w6.frozen? ⟨P, o, none⟩ = false := fun o => by simp [World.frozen?, H6.out.2]
      obtain ⟨c0, c1, c2, c3, c4, c5, c6, c7⟩ := box8 H6.out.2
      clear hs
      go_upto_region 6 with fail
      have hb6 : Below P w6 ((((((((w6.setCell ⟨P, 0, none⟩ (.string c.partner)).setCell ⟨P, 1, none⟩ (.string c.ref)).setCell ⟨P, 2, none⟩ (.int .i64 c.no)).setCell ⟨P, 3, none⟩ (.string c.item)).setCell ⟨P, 4, none⟩ (.int .i64 c.ordered)).setCell ⟨P, 5, none⟩ (.int .i64 c.sent)).setCell ⟨P, 6, none⟩ (.int .i64 c.got)).setCell ⟨P, 7, none⟩ (.int .i64 c.cut)) := belO8 (Below.refl _ _) (Nat.le_refl _)
      obtain ⟨W7, hW7⟩ : ∃ W7, ((((((((w6.setCell ⟨P, 0, none⟩ (.string c.partner)).setCell ⟨P, 1, none⟩ (.string c.ref)).setCell ⟨P, 2, none⟩ (.int .i64 c.no)).setCell ⟨P, 3, none⟩ (.string c.item)).setCell ⟨P, 4, none⟩ (.int .i64 c.ordered)).setCell ⟨P, 5, none⟩ (.int .i64 c.sent)).setCell ⟨P, 6, none⟩ (.int .i64 c.got)).setCell ⟨P, 7, none⟩ (.int .i64 c.cut)) = W7 := ⟨_, rfl⟩
      have i7 : W7.heap[P]? = some (.cells #[.string c.partner, .string c.ref, .int .i64 c.no, .string c.item, .int .i64 c.ordered, .int .i64 c.sent, .int .i64 c.got, .int .i64 c.cut] 31) := by rw [← hW7]; exact setO8 H6.out.2
      rw [hW7] at hb6
      have hr7 : RowOl W7 (.slice (some ⟨b, o, none⟩) rs.length C) rs := by
        have hbP : b < P := H4.out.2.2.2 HE.out
        obtain ⟨A', C', e, hc⟩ := H6.out.1.row.shape
        simp only [Value.slice.injEq, true_and] at e
        obtain ⟨rfl, rfl⟩ := e
        refine ⟨⟨_, _, rfl, fun hn => ?_⟩, H6.out.1.row.len, H6.out.1.row.sizes⟩
        obtain ⟨b', o', e, hcell⟩ := hc hn
        simp only [Option.some.injEq, Addr.mk.injEq, and_true] at e
        obtain ⟨rfl, rfl⟩ := e
        refine ⟨b, o, rfl, fun j g hj => ?_⟩
        obtain ⟨y0, y1, y2, y3, y4, y5, y6, y7⟩ := hcell j g hj
        have kk : ∀ j x, w6.cell? ⟨b, j, none⟩ = some x → W7.cell? ⟨b, j, none⟩ = some x := fun j x h => by
          rw [← h]
          simp only [World.cell?]
          rw [hb6.block b hbP]
        exact ⟨kk _ _ y0, kk _ _ y1, kk _ _ y2, kk _ _ y3, kk _ _ y4, kk _ _ y5, kk _ _ y6, kk _ _ y7⟩
      have hw1 : w.heap.size ≤ P := by have := H1.out.2.size; have := H4.out.2.2.1; omega
      have H7 : Hid (W7.heap[P]? = some (.cells #[.string c.partner, .string c.ref, .int .i64 c.no, .string c.item, .int .i64 c.ordered, .int .i64 c.sent, .int .i64 c.got, .int .i64 c.cut] 31) ∧ RowOl W7 (.slice (some ⟨b, o, none⟩) rs.length C) rs ∧ Below w.heap.size w W7) := ⟨i7, hr7, (HFin.out _ H6.out.1).trans (hb6.mono hw1)⟩
      try rw [hW7]
      clear hW7 i7 hr7 hb6 hfz c0 c1 c2 c3 c4 c5 c6 c7 q0 q1 q2 q3 q4 q5 q6 q7
      obtain ⟨c0, c1, c2, c3, c4, c5, c6, c7⟩ := box8 H7.out.1
      go_quiet (fail)
      go_wp2
      go_ret3
      exact ⟨_, C, rs, c.partner, c.ref, rfl, (H7.out.2.1.below (below_drewO (Below.refl _ _) _)), H6.out.1.sm, hl2, HC.out.1, HC.out.2.1, below_drewO H7.out.2.2 _⟩
end Go.Proofs.Ytppfobeencnbdaa
