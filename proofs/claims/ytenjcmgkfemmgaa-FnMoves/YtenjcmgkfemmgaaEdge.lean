/- Contract of the model's edge: a source tells some number of int64. -/
import Derived.Test.YtenjcmgkfemmgaaSrcNew
namespace Go.Proofs.Ytenjcmgkfemmgaa
open Go.ChangeShapes Go.WideShapes Go.ChangeAt Go.RowKit
theorem cell_lits (w : World) (t : Nat) (l : List Int) (i : Nat) (hi : i < l.length) : (w.alloc (.cells (l.map (Value.int .i64)).toArray t)).cell? ⟨w.heap.size, i, none⟩ = some (.int .i64 (l[i]?.getD 0)) := by
  simp [go_sem, hi]
set_option maxHeartbeats 400000 in
theorem edge_any (B : Nat) (w : World) (hS : IsSrc B w) :
    Calls Try.prog 15 #[.pointer (some ⟨B, 0, none⟩)] w fun e w' => ∃ v : Int, e = .returned (.int .i64 v) ∧ IsSrc B w' ∧ Keep B w w' := by
  have hlt := hS.lt
  have HS : Hid (IsSrc B w) := hS
  clear hS
  go_enter Try.func15, Try.ntmps15
  go_wp2_with fail
  refine (n_any B 14 _ (by omega) (by omega) (HS.out.below ((Below.refl _ _).alloc (by omega) _))).mono ?_
  rintro e w1 ⟨v, rfl, h0, h1, h2, h3⟩
  obtain ⟨k, rfl⟩ := Int.eq_ofNat_of_zero_le h0
  have hc := h3.cell (cell_lits w _ [0, 1, -1, 2, 1000, 1001, 2147483648, 2147483647, -2147483648, 4611686018427387904, 9223372036854775807, -9223372036854775808, 1000000, 1000001] k (by simp; omega)) (by omega)
  generalize (([0, 1, -1, 2, 1000, 1001, 2147483648, 2147483647, -2147483648, 4611686018427387904, 9223372036854775807, -9223372036854775808, 1000000, 1000001] : List Int)[k]?.getD 0) = r at hc
  have H2 : Hid (IsSrc B w1 ∧ Keep B w w1) := ⟨h2, ((Keep.refl _ _).alloc _).trans h3⟩
  clear h2 h3
  go_wp2
  go_ret
  exact ⟨_, rfl, H2.out.1, H2.out.2⟩
end Go.Proofs.Ytenjcmgkfemmgaa
