/- Contracts of the program's handsOf and BookHand. -/
import Derived.Test.YtenjcmgkfemmgaaBhH
namespace Go.Proofs.Ytenjcmgkfemmgaa
open Go.ChangeShapes Go.WideShapes Go.ChangeAt Go.RowKit
set_option maxHeartbeats 4000000 in
theorem bookHand_impl (p : Bk) (us ul : Value) (t : ByteArray) (w : World) (h : RBk w us ul p) (ht : t.size ≤ 1048576) : Calls Try.prog 10 #[.agg #[us, ul], .string t] w fun e w' => e = .returned (.int .i64 (handT p t)) ∧ Below w.heap.size w w' := by
  obtain ⟨a, c, a', c', rfl, rfl⟩ := h.val
  obtain ⟨W0, hW0⟩ : ∃ W0, w.alloc (.cells #[.slice a p.stocks.length c, .slice a' p.lines.length c'] 26) = W0 := ⟨_, rfl⟩
  have hb0 : Below w.heap.size w W0 := by rw [← hW0]; exact (Below.refl _ _).alloc (Nat.le_refl _) _
  have hbx : W0.heap[w.heap.size]? = some (.cells #[.slice a p.stocks.length c, .slice a' p.lines.length c'] 26) := by rw [← hW0]; exact World.alloc_heap_new _ _
  have H0 : Hid (Below w.heap.size w W0 ∧ RBk W0 (.slice a p.stocks.length c) (.slice a' p.lines.length c') p ∧ W0.heap[w.heap.size]? = some (.cells #[.slice a p.stocks.length c, .slice a' p.lines.length c'] 26)) := ⟨hb0, h.below hb0, hbx⟩
  obtain ⟨c0, c1⟩ := box2 hbx
  have hlt0 := (Array.getElem?_eq_some_iff.1 hbx).1
  clear h hb0 hbx
  go_enter Try.func10, Try.ntmps10
  go_upto_region 1 with fail
  try rw [hW0]
  clear hW0
  obtain ⟨x, hx⟩ : ∃ x, x = bkB p := ⟨_, rfl⟩
  have HX : Hid (x = bkB p) := hx
  have Q1 := fun W h => bookRight_impl p (.slice a p.stocks.length c) (.slice a' p.lines.length c') W h
  rw [← hx] at Q1
  clear hx
  go_wp2_with fail
  refine (Q1 _ H0.out.2.1).mono ?_
  rintro e w1 ⟨rfl, hb1⟩
  have H1 : Hid (Below w.heap.size w w1 ∧ RBk w1 (.slice a p.stocks.length c) (.slice a' p.lines.length c') p) := ⟨H0.out.1.trans (hb1.mono H0.out.1.size), H0.out.2.1.below hb1⟩
  obtain ⟨d0, d1⟩ := box2 ((hb1.block _ hlt0).trans H0.out.2.2)
  clear hb1 c0 c1 Q1
  cases x with
  | false =>
    have HN : Hid (handT p t = 0) := by unfold handT; rw [← HX.out]; simp [Hid]
    go_wp2
    go_ret
    exact ⟨by rw [HN.out]; rfl, H1.out.1⟩
  | true =>
    have hR := (bkB_iff.1 HX.out.symm).1
    have hl := hR.len
    have HN : Hid (handT p t = ((findS t p.stocks).map Stk.hand).getD 0) := by unfold handT; rw [← HX.out]; simp [Hid]
    have Q2 := handsOf_any (.slice a p.stocks.length c) p.stocks w1 H1.out.2.st hl hR.rise' hR.small
    clear hR
    go_wp2_with fail
    refine Q2.mono ?_
    rintro e w2 ⟨rfl, ho, hb2⟩
    have H2 : Hid (Below w.heap.size w w2) := H1.out.1.trans (hb2.mono H1.out.1.size)
    have hL := lookS ho (t := t) (by unfold maxLen; omega)
    obtain ⟨z, hz⟩ : ∃ z, z = ((findS t p.stocks).map Stk.hand).getD 0 := ⟨_, rfl⟩
    rw [← hz] at hL
    have HZ : Hid (handT p t = z) := by rw [hz]; exact HN.out
    clear ho hb2 hz HN Q2
    go_wp2
    go_ret
    exact ⟨by rw [HZ.out]; rfl, H2.out⟩
end Go.Proofs.Ytenjcmgkfemmgaa
