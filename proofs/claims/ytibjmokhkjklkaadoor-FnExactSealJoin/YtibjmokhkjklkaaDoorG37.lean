/- Texts of ours put together: Sz1Ev. -/
import Derived.Test.YtibjmokhkjklkaaDoorG01
namespace Go.Proofs.YtibjmokhkjklkaaDoor
open Go.ChangeShapes Go.WideShapes Go.ChangeAt Go.RowKit
set_option maxHeartbeats 1000000 in
theorem szEv_any (g : EvR) (left : Int) (w : World) (hz : g.a.size ≤ 9223372036854775807 ∧ g.b.size ≤ 9223372036854775807 ∧ g.c.size ≤ 9223372036854775807) (hl : 0 ≤ left ∧ left ≤ 1048576) :
    Calls Tryd.prog 18 #[.agg #[.int .i64 g.kind, .string g.a, .string g.b, .string g.c], .int .i64 left] w fun e w' => ∃ r : Int, e = .returned (.int .i64 r) ∧ (r = -1 ∨ (0 ≤ r ∧ r ≤ left ∧ g.a.size ≤ left.toNat ∧ g.b.size ≤ left.toNat ∧ g.c.size ≤ left.toNat)) ∧ Below w.heap.size w w' := by
  obtain ⟨kind, a, b, c⟩ := g
  dsimp only at hz ⊢
  obtain ⟨hz0, hz1, hz2⟩ := hz
  by_cases h_a : left - (a.size : Int) < 0
  · go_enter Tryd.func18, Tryd.ntmps18
    go_wp2
    go_ret
    exact ⟨_, rfl, .inl rfl, (Below.refl _ _).alloc (Nat.le_refl _) _⟩
  by_cases h_b : left - (a.size : Int) - (b.size : Int) < 0
  · go_enter Tryd.func18, Tryd.ntmps18
    go_wp2
    go_ret
    exact ⟨_, rfl, .inl rfl, (Below.refl _ _).alloc (Nat.le_refl _) _⟩
  by_cases h_c : left - (a.size : Int) - (b.size : Int) - (c.size : Int) < 0
  · go_enter Tryd.func18, Tryd.ntmps18
    go_wp2
    go_ret
    exact ⟨_, rfl, .inl rfl, (Below.refl _ _).alloc (Nat.le_refl _) _⟩
  go_enter Tryd.func18, Tryd.ntmps18
  go_wp2
  go_ret
  exact ⟨_, rfl, .inr ⟨by omega, by omega, by omega, by omega, by omega⟩, (Below.refl _ _).alloc (Nat.le_refl _) _⟩
end Go.Proofs.YtibjmokhkjklkaaDoor
