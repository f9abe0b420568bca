/- The marks written into a partner, and held. -/
import Derived.Test.YtnnfkifjkmodpaaMkSn
import Derived.Test.YtnnfkifjkmodpaaRowPt
namespace Go.Proofs.Ytnnfkifjkmodpaa
open Go.ChangeShapes Go.WideShapes Go.ChangeAt Go.RowKit
set_option maxHeartbeats 2000000 in
theorem markPt_any (b : Nat) (v : Value) (p : Ptn) (k : Int) (w : World) (h : LSn b w v p.seen) (hk : 0 ≤ k ∧ k + (p.seen.length * 3 : Nat) ≤ 9000000000000000000) :
    Calls Try.prog 12 #[.agg #[.string p.name, .int .i64 p.low, .int .i64 p.next, v], .int .i64 k] w fun e w' => e = .returned (.int .i64 (k + (p.seen.length * 3 : Nat))) ∧ LSn b w' v (mkSns k p.seen.length) ∧ Keep b w w' := by
  obtain ⟨name, low, next, rs⟩ := p
  obtain ⟨A, C, rfl⟩ := h.val
  dsimp only at h hk ⊢
  have b0 : Below w.heap.size w (w.alloc (.cells #[.string name, .int .i64 low, .int .i64 next, .slice A rs.length C] 28)) := (Below.refl _ _).alloc (Nat.le_refl _) _
  have HR : Hid (LSn b (w.alloc (.cells #[.string name, .int .i64 low, .int .i64 next, .slice A rs.length C] 28)) (.slice A rs.length C) rs ∧ Below w.heap.size w (w.alloc (.cells #[.string name, .int .i64 low, .int .i64 next, .slice A rs.length C] 28))) := ⟨h.below b0, b0⟩
  clear h b0
  go_enter Try.func12, Try.ntmps12
  go_wp2_with fail
  refine (markSns_any b _ rs k _ HR.out.1 hk).mono ?_
  rintro e w2 ⟨rfl, hl, hkp⟩
  have HB : Hid (LSn b w2 (.slice A rs.length C) (mkSns k rs.length) ∧ Keep b w w2) := ⟨hl, (Keep.of_below HR.out.2).trans hkp⟩
  clear hl hkp
  go_wp2
  go_ret
  exact ⟨rfl, HB.out.1, HB.out.2⟩
set_option maxHeartbeats 2000000 in
theorem heldPt_any (v : Value) (name : ByteArray) (low next : Int) (n : Nat) (k : Int) (w : World) (h : RowSn w v (mkSns k n)) (hk : 0 ≤ k ∧ k + (n * 3 : Nat) ≤ 9000000000000000000) :
    Calls Try.prog 41 #[.agg #[.string name, .int .i64 low, .int .i64 next, v], .int .i64 k] w fun e w' => e = .returned (.int .i64 (k + (n * 3 : Nat))) ∧ Below w.heap.size w w' := by
  obtain ⟨A, C, rfl⟩ := h.val
  have b0 : Below w.heap.size w (w.alloc (.cells #[.string name, .int .i64 low, .int .i64 next, .slice A (mkSns k n).length C] 28)) := (Below.refl _ _).alloc (Nat.le_refl _) _
  have HR : Hid (RowSn (w.alloc (.cells #[.string name, .int .i64 low, .int .i64 next, .slice A (mkSns k n).length C] 28)) (.slice A (mkSns k n).length C) (mkSns k n) ∧ Below w.heap.size w (w.alloc (.cells #[.string name, .int .i64 low, .int .i64 next, .slice A (mkSns k n).length C] 28))) := ⟨h.below b0, b0⟩
  clear h b0
  obtain ⟨m, hm⟩ : ∃ m : Int, k + (n * 3 : Nat) = m := ⟨_, rfl⟩
  have hm0 : ¬ m < 0 := by omega
  have HQ := heldSns_any (.slice A (mkSns k n).length C) n k
  have HM : Hid (k + (n * 3 : Nat) = m) := hm
  rw [hm] at HQ ⊢
  clear hm
  go_enter Try.func41, Try.ntmps41
  go_wp2_with fail
  refine (HQ _ HR.out.1 (by have := HM.out; omega)).mono ?_
  rintro e w2 ⟨rfl, hb2⟩
  have HB : Hid (Below w.heap.size w w2) := HR.out.2.trans (hb2.mono (by simp))
  clear hb2
  go_wp2
  go_ret
  exact ⟨rfl, HB.out⟩
end Go.Proofs.Ytnnfkifjkmodpaa
