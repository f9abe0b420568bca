/- FnMoves returns true at every text and leaves it as it was: a move of a drawn right book is the book that the model tells, right, with the Hand moved, and the move back brings it back; no condition. -/
import Derived.Test.YtenjcmgkfemmgaaBdC
import Derived.Test.YtenjcmgkfemmgaaBdL
import Derived.Test.YtenjcmgkfemmgaaBdP
import Derived.Test.YtenjcmgkfemmgaaMvI
import Derived.Test.YtenjcmgkfemmgaaBkI
import Derived.Test.YtenjcmgkfemmgaaBkS
import Derived.Test.YtenjcmgkfemmgaaBhI
import Derived.Deep.Cut
import Derived.Deep.CutRange
import Derived.Deep.DeepMust
namespace Go.Proofs.Ytenjcmgkfemmgaa
open Go.ChangeShapes Go.WideShapes Go.ChangeAt Go.RowKit
set_option linter.unusedVariables false
namespace fnMoves
def IsRow (k : IntKind) (w : World) (a : Option Addr) (len cap : Nat) (zs : List Int) : Prop :=
  (a = none ∧ len = 0 ∧ cap = 0 ∧ zs = []) ∨
  ∃ x, a = some x ∧ len ≤ cap ∧ cap ≤ maxLen ∧ zs.length = cap ∧ (∀ i, i < zs.length → w.cell? (x.add i) = some (.int k (zs.getD i 0))) ∧ ∀ n ∈ zs, (Lit.int k n).wf = true
theorem IsRow.bytesAt {w : World} {a : Option Addr} {len cap : Nat} {zs : List Int} (h : IsRow .u8 w a len cap zs) : BytesAt w a len zs := by
  intro g
  rcases h with ⟨_, rfl, _, _⟩ | ⟨x, rfl, hl, _, hz, hc, _⟩
  · omega
  · obtain ⟨b, off, spot⟩ := x
    have h0 := hc 0 (by omega)
    have hspot : spot = none := by simpa [Addr.add] using World.cell?_spot h0
    subst hspot
    refine ⟨b, off, rfl, fun i hi => ?_⟩
    have hplain : (⟨b, off, none⟩ : Addr).add i = ⟨b, off + i, none⟩ := by unfold Addr.add; split <;> simp_all
    have := hc i (by omega)
    rw [hplain] at this
    simpa [List.getD] using this
theorem IsRow.len_le {w : World} {a : Option Addr} {len cap : Nat} {zs : List Int} (h : IsRow .u8 w a len cap zs) : len ≤ 9223372036854775807 := by
  rcases h with ⟨_, rfl, _, _⟩ | ⟨x, rfl, hl, hm, hz, hc, _⟩
  · omega
  · unfold maxLen at hm
    omega
/-- A book in a box. -/
structure LB (B : Nat) (W : World) (us ul : Value) (p : Bk) : Prop where
  box : W.heap[B]? = some (.cells #[us, ul] 26)
  row : RBk W us ul p
theorem LB.below {B : Nat} {W W' : World} {us ul : Value} {p : Bk} (h : LB B W us ul p) (hb : Below W.heap.size W W') : LB B W' us ul p := ⟨(hb.block _ (Array.getElem?_eq_some_iff.1 h.box).1).trans h.box, h.row.below hb⟩
theorem LB.new {W : World} {us ul : Value} {p : Bk} (h : RBk W us ul p) : LB W.heap.size (W.alloc (.cells #[us, ul] 26)) us ul p := ⟨World.alloc_heap_new _ _, h.below ((Below.refl _ _).alloc (Nat.le_refl _) _)⟩
theorem aB {W : World} (o : Obj) : Below W.heap.size W (W.alloc o) := (Below.refl _ _).alloc (Nat.le_refl _) _
theorem mv_bd {p : Bk} {t : ByteArray} {z : Int} {n : Nat} (h : BdBk n p) (ht : t.size ≤ n) : BdBk (n + 1) (movT p t z) := by
  by_cases g : MvOk p t z
  · rw [movT_yes g]
    refine ⟨⟨?_, fun i x hx => ?_⟩, BdOl.mono h.2 (by omega)⟩
    · show (mvL p t z).length ≤ _
      unfold mvL
      rw [insS_len]
      have := List.length_filter_le (fun x => !nmS t x) p.stocks
      have := h.1.1
      omega
    · rcases insS_mem x (List.mem_of_getElem? hx) with rfl | hx
      · show t.size ≤ _
        omega
      · obtain ⟨j, hj⟩ := List.mem_iff_getElem?.1 (List.mem_filter.1 hx).1
        have := h.1.2 j x hj
        omega
  · rw [movT_no g]
    exact h.mono (by omega)
set_option maxRecDepth 100000 in
set_option maxHeartbeats 8000000 in
theorem walk (a0 : Option Addr) (len0 cap0 : Nat) (z0 : List Int) (w : World) (w0 : IsRow .u8 w a0 len0 cap0 z0) :
    Calls Try.prog 3 #[.slice a0 len0 cap0] w fun e w' => e = .returned (.bool true) ∧ Below w.heap.size w w' := by
  have hl0 := w0.len_le
  have HR : Hid (BytesAt w a0 len0 z0) := w0.bytesAt
  clear w0
  by_cases hg : 1048576 < len0
  · have hg' : (1048576 : Int) < (len0 : Int) := by omega
    clear HR
    go_enter Try.func3, Try.ntmps3
    go_wp2
    go_ret
    exact ⟨rfl, Below.refl _ _⟩
  have hg' : (len0 : Int) ≤ 1048576 := by omega
  go_enter Try.func3, Try.ntmps3
  go_wp2_with fail
  refine (drawBookMove_any a0 len0 cap0 z0 _ (by omega) HR.out).mono ?_
  rintro e w1 ⟨us, ul, p, t, z, rfl, hrow, hbd, ht, hb1⟩
  obtain ⟨P0, P1, P2, P3, rfl, rfl⟩ := hrow.val
  have L1 := LB.new hrow
  have a1 := aB (W := w1) (.cells #[.slice P0 p.stocks.length P1, .slice P2 p.lines.length P3] 26)
  obtain ⟨W1, hW1⟩ : ∃ W1, w1.alloc (.cells #[.slice P0 p.stocks.length P1, .slice P2 p.lines.length P3] 26) = W1 := ⟨_, rfl⟩
  obtain ⟨B1, hB1⟩ : ∃ B1, B1 = w1.heap.size := ⟨_, rfl⟩
  rw [hW1, ← hB1] at L1
  rw [hW1] at a1
  have H1 : Hid (LB B1 W1 (.slice P0 p.stocks.length P1) (.slice P2 p.lines.length P3) p ∧ Below w.heap.size w W1) := ⟨L1, hb1.trans (a1.mono hb1.size)⟩
  have HWE : Hid (w1.alloc (.cells #[.slice P0 p.stocks.length P1, .slice P2 p.lines.length P3] 26) = W1 ∧ B1 = w1.heap.size) := ⟨hW1, hB1⟩
  have HBd : Hid (BdBk 1000 p ∧ t.size ≤ 4) := ⟨hbd, ht⟩
  clear hrow hbd hb1 L1 a1 hW1 hB1 HR
  go_upto_region 4 with fail
  try rw [HWE.out.1]
  try rw [← HWE.out.2]
  clear HWE
  obtain ⟨k0, k1⟩ := box2 H1.out.1.box
  go_wp2_with fail
  refine (bookRight_spec p _ _ _ H1.out.1.row).mono ?_
  rintro e w2 ⟨rfl, hb2⟩
  have H2 : Hid (LB B1 w2 (.slice P0 p.stocks.length P1) (.slice P2 p.lines.length P3) p ∧ Below w.heap.size w w2) := ⟨H1.out.1.below hb2, H1.out.2.trans (hb2.mono H1.out.2.size)⟩
  clear hb2 H1 k0 k1
  cases hbk : bkB p with
  | false =>
    go_wp2
    go_ret
    exact ⟨rfl, H2.out.2⟩
  | true =>
    by_cases hz1 : z < 1
    · go_wp2
      go_ret
      exact ⟨rfl, H2.out.2⟩
    by_cases hz2 : 1000000000 < z
    · go_wp2
      go_ret
      exact ⟨rfl, H2.out.2⟩
    obtain ⟨M, hM⟩ : ∃ M, movT p t z = M := ⟨_, rfl⟩
    have hmT : moveT p t z = M := by rw [moveT_short (by omega)]; exact hM
    have hlw := mv_law (p := p) (t := t) (z := z) hbk
    have hln := mv_lines p t z
    rw [hM] at hlw hln
    obtain ⟨Y, hY⟩ : ∃ Y, movT M t (-z) = Y := ⟨_, rfl⟩
    have hyT : moveT M t (-z) = Y := by rw [moveT_short (by omega)]; exact hY
    rw [hY] at hlw
    have hbm : BdBk 1001 M := by rw [← hM]; exact mv_bd HBd.out.1 (by omega)
    have HL : Hid (bkB M = true ∧ (M.stocks = p.stocks → handT M t = handT p t) ∧ (M.stocks ≠ p.stocks → handT M t = handT p t + z ∧ handT Y t = handT p t) ∧ M.lines = p.lines) := ⟨hlw.1, hlw.2.1, hlw.2.2, hln⟩
    have QI : Hid (∀ us ul W, RBk W us ul p → Calls Try.prog 6 #[.agg #[us, ul], .string t, .int .i64 z] W fun e w' => ∃ us' ul', e = .returned (.agg #[us', ul']) ∧ RBk w' us' ul' M ∧ Below W.heap.size W w') := fun us ul W hW => by
      have h := bookMove_impl p us ul t z W hW (HBd.out.1.mono (by omega)) (by omega)
      rw [hmT] at h
      exact h.mono fun e w' ⟨us', ul', bs, bl, e1, _, _, l1, l2, hb⟩ => ⟨us', ul', e1, ⟨l1.row, l2.row⟩, hb⟩
    have QS : Hid (∀ us ul W, RBk W us ul p → Calls Try.prog 7 #[.agg #[us, ul], .string t, .int .i64 z] W fun e w' => ∃ us' ul', e = .returned (.agg #[us', ul']) ∧ RBk w' us' ul' M ∧ Below W.heap.size W w') := fun us ul W hW => by
      have h := bookMove_spec p us ul t z W hW (HBd.out.1.mono (by omega)) (by omega)
      rw [hmT] at h
      exact h
    have QY : Hid (∀ us ul W, RBk W us ul M → Calls Try.prog 6 #[.agg #[us, ul], .string t, .int .i64 (-z)] W fun e w' => ∃ us' ul', e = .returned (.agg #[us', ul']) ∧ RBk w' us' ul' Y ∧ Below W.heap.size W w') := fun us ul W hW => by
      have h := bookMove_impl M us ul t (-z) W hW (hbm.mono (by omega)) (by omega)
      rw [hyT] at h
      exact h.mono fun e w' ⟨us', ul', bs, bl, e1, _, _, l1, l2, hb⟩ => ⟨us', ul', e1, ⟨l1.row, l2.row⟩, hb⟩
    have hhb := handT_bound p t
    clear hM hmT hlw hln hY hyT hbm hbk
    go_upto_region 6 with fail
    obtain ⟨k0, k1⟩ := box2 H2.out.1.box
    go_wp2_with fail
    refine (QI.out _ _ _ H2.out.1.row).mono ?_
    rintro e w3 ⟨us3, ul3, rfl, r3, hb3⟩
    obtain ⟨M0, M1, M2, M3, rfl, rfl⟩ := r3.val
    have L3 := LB.new r3
    have a3 := aB (W := w3) (.cells #[.slice M0 M.stocks.length M1, .slice M2 M.lines.length M3] 26)
    obtain ⟨W3, hW3⟩ : ∃ W3, w3.alloc (.cells #[.slice M0 M.stocks.length M1, .slice M2 M.lines.length M3] 26) = W3 := ⟨_, rfl⟩
    obtain ⟨B3, hB3⟩ : ∃ B3, B3 = w3.heap.size := ⟨_, rfl⟩
    rw [hW3, ← hB3] at L3
    rw [hW3] at a3
    have b3 : Below w2.heap.size w2 W3 := hb3.trans (a3.mono hb3.size)
    have H3 : Hid (LB B1 W3 (.slice P0 p.stocks.length P1) (.slice P2 p.lines.length P3) p ∧ LB B3 W3 (.slice M0 M.stocks.length M1) (.slice M2 M.lines.length M3) M ∧ Below w.heap.size w W3) := ⟨H2.out.1.below b3, L3, H2.out.2.trans (b3.mono H2.out.2.size)⟩
    have HWE : Hid (w3.alloc (.cells #[.slice M0 M.stocks.length M1, .slice M2 M.lines.length M3] 26) = W3 ∧ B3 = w3.heap.size) := ⟨hW3, hB3⟩
    clear r3 hb3 L3 a3 hW3 hB3 b3 H2 QI k0 k1
    go_upto_region 7 with fail
    try rw [HWE.out.1]
    try rw [← HWE.out.2]
    clear HWE
    obtain ⟨k0, k1⟩ := box2 H3.out.1.box
    go_wp2_with fail
    refine (QS.out _ _ _ H3.out.1.row).mono ?_
    rintro e w4 ⟨us4, ul4, rfl, r4, hb4⟩
    obtain ⟨N0, N1, N2, N3, rfl, rfl⟩ := r4.val
    have L4 := LB.new r4
    have a4 := aB (W := w4) (.cells #[.slice N0 M.stocks.length N1, .slice N2 M.lines.length N3] 26)
    obtain ⟨W4, hW4⟩ : ∃ W4, w4.alloc (.cells #[.slice N0 M.stocks.length N1, .slice N2 M.lines.length N3] 26) = W4 := ⟨_, rfl⟩
    obtain ⟨B4, hB4⟩ : ∃ B4, B4 = w4.heap.size := ⟨_, rfl⟩
    rw [hW4, ← hB4] at L4
    rw [hW4] at a4
    have b4 : Below W3.heap.size W3 W4 := hb4.trans (a4.mono hb4.size)
    have H4 : Hid (LB B1 W4 (.slice P0 p.stocks.length P1) (.slice P2 p.lines.length P3) p ∧ LB B3 W4 (.slice M0 M.stocks.length M1) (.slice M2 M.lines.length M3) M ∧ LB B4 W4 (.slice N0 M.stocks.length N1) (.slice N2 M.lines.length N3) M ∧ Below w.heap.size w W4) := ⟨H3.out.1.below b4, H3.out.2.1.below b4, L4, H3.out.2.2.trans (b4.mono H3.out.2.2.size)⟩
    have HWE : Hid (w4.alloc (.cells #[.slice N0 M.stocks.length N1, .slice N2 M.lines.length N3] 26) = W4 ∧ B4 = w4.heap.size) := ⟨hW4, hB4⟩
    clear r4 hb4 L4 a4 hW4 hB4 b4 H3 QS k0 k1
    go_upto_region 8 with fail
    try rw [HWE.out.1]
    try rw [← HWE.out.2]
    clear HWE
    have HC : Hid (∀ W, Below W4.heap.size W4 W → (LB B1 W (.slice P0 p.stocks.length P1) (.slice P2 p.lines.length P3) p ∧ LB B3 W (.slice M0 M.stocks.length M1) (.slice M2 M.lines.length M3) M ∧ LB B4 W (.slice N0 M.stocks.length N1) (.slice N2 M.lines.length N3) M ∧ Below w.heap.size w W)) := fun W hW => ⟨H4.out.1.below hW, H4.out.2.1.below hW, H4.out.2.2.1.below hW, H4.out.2.2.2.trans (hW.mono H4.out.2.2.2.size)⟩
    obtain ⟨k0, k1⟩ := box2 H4.out.2.1.box
    obtain ⟨l0, l1⟩ := box2 H4.out.2.2.1.box
    have QL : Hid (∀ us ul us' ul' W, RBk W us ul M → RBk W us' ul' M → Calls Try.prog 8 #[.agg #[us, ul], .agg #[us', ul']] W fun e w' => e = .returned (.bool true) ∧ Below W.heap.size W w') := fun us ul us' ul' W h1 h2 => by
      have h := lwBook_any M.stocks M.stocks M.lines us ul us' ul' W h1 h2
      rw [stksB_iff.2 rfl] at h
      exact h
    have QR : Hid (∀ us ul W, RBk W us ul M → Calls Try.prog 9 #[.agg #[us, ul]] W fun e w' => e = .returned (.bool true) ∧ Below W.heap.size W w') := fun us ul W h1 => by
      have h := bookRight_impl M us ul W h1
      rw [HL.out.1] at h
      exact h
    go_wp2_with fail
    refine (QL.out _ _ _ _ _ H4.out.2.1.row H4.out.2.2.1.row).mono ?_
    rintro e w5 ⟨rfl, hb5⟩
    have H5 : Hid (Below W4.heap.size W4 w5) := hb5
    clear hb5 QL k0 k1 l0 l1
    obtain ⟨k0, k1⟩ := box2 (HC.out w5 H5.out).2.1.box
    go_wp2_with fail
    refine (QR.out _ _ _ (HC.out w5 H5.out).2.1.row).mono ?_
    rintro e w6 ⟨rfl, hb6⟩
    have H6 : Hid (Below W4.heap.size W4 w6) := H5.out.trans (hb6.mono H5.out.size)
    clear hb6 QR k0 k1 H5
    obtain ⟨k0, k1⟩ := box2 (HC.out w6 H6.out).1.box
    go_wp2_with fail
    refine (bookHand_impl p _ _ t _ (HC.out w6 H6.out).1.row (by omega)).mono ?_
    rintro e w7 ⟨rfl, hb7⟩
    have H7 : Hid (Below W4.heap.size W4 w7) := H6.out.trans (hb7.mono H6.out.size)
    clear hb7 H6 k0 k1
    obtain ⟨k0, k1⟩ := box2 (HC.out w7 H7.out).2.2.1.box
    obtain ⟨l0, l1⟩ := box2 (HC.out w7 H7.out).1.box
    have QW : Hid (∀ us ul us' ul' W, RBk W us ul M → RBk W us' ul' p → Calls Try.prog 8 #[.agg #[us, ul], .agg #[us', ul']] W fun e w' => e = .returned (.bool (stksB M.stocks p.stocks)) ∧ Below W.heap.size W w') := fun us ul us' ul' W h1 h2 => by
      refine lwBook_any M.stocks p.stocks M.lines us ul us' ul' W h1 ?_
      rw [HL.out.2.2.2]
      exact h2
    go_wp2_with fail
    refine (QW.out _ _ _ _ _ (HC.out w7 H7.out).2.2.1.row (HC.out w7 H7.out).1.row).mono ?_
    rintro e w8 ⟨rfl, hb8⟩
    have H8 : Hid (Below W4.heap.size W4 w8) := H7.out.trans (hb8.mono H7.out.size)
    clear hb8 H7 k0 k1 l0 l1 QW
    obtain ⟨k0, k1⟩ := box2 (HC.out w8 H8.out).2.1.box
    cases hst : stksB M.stocks p.stocks with
    | true =>
      have he := HL.out.2.1 (stksB_iff.1 hst)
      have QH : Hid (∀ us ul W, RBk W us ul M → Calls Try.prog 10 #[.agg #[us, ul], .string t] W fun e w' => e = .returned (.int .i64 (handT p t)) ∧ Below W.heap.size W w') := fun us ul W h1 => by
        have h := bookHand_impl M us ul t W h1 (by omega)
        rw [he] at h
        exact h
      clear he hst
      go_wp2_with fail
      refine (QH.out _ _ _ (HC.out w8 H8.out).2.1.row).mono ?_
      rintro e w9 ⟨rfl, hb9⟩
      have H9 : Hid (Below w.heap.size w w9) := (HC.out w9 (H8.out.trans (hb9.mono H8.out.size))).2.2.2
      clear hb9
      go_wp2
      go_ret
      exact ⟨rfl, H9.out⟩
    | false =>
      have he := HL.out.2.2.1 (fun e => by rw [stksB_iff.2 e] at hst; cases hst)
      have QH : Hid (∀ us ul W, RBk W us ul M → Calls Try.prog 10 #[.agg #[us, ul], .string t] W fun e w' => e = .returned (.int .i64 (handT p t + z)) ∧ Below W.heap.size W w') := fun us ul W h1 => by
        have h := bookHand_impl M us ul t W h1 (by omega)
        rw [he.1] at h
        exact h
      have QG : Hid (∀ us ul W, RBk W us ul Y → Calls Try.prog 10 #[.agg #[us, ul], .string t] W fun e w' => e = .returned (.int .i64 (handT p t)) ∧ Below W.heap.size W w') := fun us ul W h1 => by
        have h := bookHand_impl Y us ul t W h1 (by omega)
        rw [he.2] at h
        exact h
      clear he hst
      have hwn : IntKind.i64.wrap (-z) = -z := by rw [IntKind.wrap_i64]; omega
      have hwa : IntKind.i64.wrap (handT p t + z) = handT p t + z := by rw [IntKind.wrap_i64]; omega
      go_wp2_with fail
      refine (QY.out _ _ _ (HC.out w8 H8.out).2.1.row).mono ?_
      rintro e w9 ⟨us9, ul9, rfl, r9, hb9⟩
      obtain ⟨Y0, Y1, Y2, Y3, rfl, rfl⟩ := r9.val
      have L9 := LB.new r9
      have a9 := aB (W := w9) (.cells #[.slice Y0 Y.stocks.length Y1, .slice Y2 Y.lines.length Y3] 26)
      obtain ⟨W9, hW9⟩ : ∃ W9, w9.alloc (.cells #[.slice Y0 Y.stocks.length Y1, .slice Y2 Y.lines.length Y3] 26) = W9 := ⟨_, rfl⟩
      obtain ⟨B9, hB9⟩ : ∃ B9, B9 = w9.heap.size := ⟨_, rfl⟩
      rw [hW9, ← hB9] at L9
      rw [hW9] at a9
      have b9 : Below W4.heap.size W4 W9 := (H8.out.trans (hb9.mono H8.out.size)).trans (a9.mono (Nat.le_trans H8.out.size hb9.size))
      have H9 : Hid (LB B9 W9 (.slice Y0 Y.stocks.length Y1) (.slice Y2 Y.lines.length Y3) Y ∧ Below W4.heap.size W4 W9) := ⟨L9, b9⟩
      have HWE : Hid (w9.alloc (.cells #[.slice Y0 Y.stocks.length Y1, .slice Y2 Y.lines.length Y3] 26) = W9 ∧ B9 = w9.heap.size) := ⟨hW9, hB9⟩
      clear r9 hb9 L9 a9 hW9 hB9 b9 H8 QY k0 k1
      go_upto_region 14 with fail
      try rw [HWE.out.1]
      try rw [← HWE.out.2]
      clear HWE
      obtain ⟨k0, k1⟩ := box2 (HC.out W9 H9.out.2).2.1.box
      go_wp2_with fail
      refine (QH.out _ _ _ (HC.out W9 H9.out.2).2.1.row).mono ?_
      rintro e w10 ⟨rfl, hb10⟩
      have H10 : Hid (LB B9 w10 (.slice Y0 Y.stocks.length Y1) (.slice Y2 Y.lines.length Y3) Y ∧ Below W4.heap.size W4 w10) := ⟨H9.out.1.below hb10, H9.out.2.trans (hb10.mono H9.out.2.size)⟩
      clear hb10 H9 k0 k1
      obtain ⟨k0, k1⟩ := box2 H10.out.1.box
      go_wp2_with fail
      refine (QG.out _ _ _ H10.out.1.row).mono ?_
      rintro e w11 ⟨rfl, hb11⟩
      have H11 : Hid (Below w.heap.size w w11) := (HC.out w11 (H10.out.2.trans (hb11.mono H10.out.2.size))).2.2.2
      clear hb11 k0 k1
      go_wp2
      go_ret
      exact ⟨by first | rfl | simp, H11.out⟩
theorem own : ownKnob Try.prog.godebug = none := by kernel_rfl
theorem laidOut : laidOutB Try.prog = true := by kernel_rfl
set_option maxRecDepth 100000 in
theorem lifted (os : Os) (started : os.Started) (H : Type) (enc : TypeId × Value → H) :
    ReturnsInHanded {} Try.checked os 3 .any (Rows.fnMovesSpec.pre6 enc Try.prog Try.f3 Rows.fnMovesRow.domain false) (Rows.fnMovesSpec.post enc Try.prog Try.f3 false true false false) := by
  refine returnsInHanded_of_change (C := Try.checked) own started (by kernel_rfl) Try.func3
    (ChangeSpec.witness6 (enc := enc) (C := Try.checked) false ⟨#[], #[.slice none 0 0], []⟩ 8 (by kernel_rfl) (by kernel_rfl) (by kernel_rfl) (by kernel_rfl)) ?_
  intro W base args ds gs before hval0 hW hcnd _
  have hval : ∀ (j : Nat) t v, Try.f3.params[j]? = some t → args[j]? = some v → Value.okWide Try.prog W .any base t v := hval0
  have hW' := hW
  obtain ⟨p, q, hA0, hV, rfl, hfz, hnd⟩ := hW
  have hA : DataW.TrodAll enc Try.prog W 0 (fun _ => true) true Try.f3.params.toList args.toList ds p := hA0
  rw [Try.params3] at hA hval
  obtain ⟨v0, vs0, d0, ds0, p0, q0, hargs, rfl, rfl, h0, r0⟩ := trodAll_cons hA
  obtain ⟨rfl, rfl, rfl⟩ := trodAll_nil r0
  obtain rfl : args = #[v0] := by cases args; simp_all
  obtain ⟨rfl, rfl⟩ := trodVars_none hV
  obtain ⟨a0, len0, cap0, rfl⟩ := okWide_slice Try.underlying22 (hval 0 22 v0 rfl rfl)
  have k0 := h0
  have lt0 : ∀ x ∈ p0, x.block < W.heap.size := by obtain ⟨m, hm⟩ := k0; exact DataW.trod_lt m _ _ _ hm
  obtain ⟨z0, w0⟩ : ∃ zs, IsRow .u8 W a0 len0 cap0 zs := by
    obtain ⟨fuel, hf⟩ := h0
    rcases open_ints Try.underlying22 Try.underlying5 (by kernel_rfl) hf with ⟨hcs, _⟩ | ⟨x, l, c, zs, hcs, _, hl, hm, hz, _, hcell, hwz⟩
    · simp [Value.cells] at hcs
      obtain ⟨rfl, rfl, rfl⟩ := hcs
      exact ⟨[], .inl ⟨rfl, rfl, rfl, rfl⟩⟩
    · simp [Value.cells] at hcs
      obtain ⟨rfl, rfl, rfl⟩ := hcs
      exact ⟨zs, .inr ⟨_, rfl, hl, hm, by simpa using hz, hcell, hwz⟩⟩
  clear hA0 hval0
  refine (walk a0 len0 cap0 z0 W w0).mono fun e W' ⟨he, bel⟩ => ?_
  subst he
  exact ⟨_, rfl, _, _, _, [], _, [], hW', trodAll_mk1 (shut_bool Try.underlying4 _), (trodAll_cons_mk (Below.trod laidOut (by kernel_rfl) (of_decide_eq_true (by kernel_rfl)) k0 bel lt0) trodAll_mk0), rfl, bel.frame _, fun h => by cases h⟩
theorem over : Rows.fnMovesRow.holds Try.pinned (OpenSpec.ofChange Rows.fnMovesSpec) :=
  OpenClaim.holds_of_wide 3 Try.f3 rfl rfl rfl rfl rfl rfl rfl ⟨rfl, rfl, rfl, rfl, rfl⟩ rfl rfl rfl rfl rfl (by kernel_rfl) Try.func3 (by kernel_rfl)
    (of_decide_eq_true (by kernel_rfl)) (by unfold Func.isWrapper; first | (rw [if_pos (by decide +kernel)]; kernel_rfl) | (rw [if_neg (by decide +kernel)]; exact ⟨rfl, rfl⟩))
    (fun os started H enc _ => lifted os started H enc)
end fnMoves
theorem fnMoves_holds : Rows.FnMovesSaid := fnMoves.over
#print axioms fnMoves_holds
end Go.Proofs.Ytenjcmgkfemmgaa
