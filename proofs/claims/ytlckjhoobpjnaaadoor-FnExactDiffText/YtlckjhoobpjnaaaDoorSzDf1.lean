/- The measures of Diff: what they let pass is bounded. -/
import Derived.Test.YtlckjhoobpjnaaaDoorRowDf
namespace Go.Proofs.YtlckjhoobpjnaaaDoor
open Go.ChangeShapes Go.WideShapes Go.ChangeAt Go.RowKit
set_option maxHeartbeats 1000000 in
theorem szDf_any (g : Dff) (left : Int) (w : World) (hz : g.partner.size ≤ 9223372036854775807 ∧ g.ref.size ≤ 9223372036854775807 ∧ g.item.size ≤ 9223372036854775807) (hl : 0 ≤ left ∧ left ≤ 1048576) :
    Calls Tryd.prog 4 #[.agg #[.int .i64 g.kind, .string g.partner, .string g.ref, .int .i64 g.no, .string g.item, .int .i64 g.qty], .int .i64 left] w fun e w' => ∃ r : Int, e = .returned (.int .i64 r) ∧ (r = -1 ∨ (0 ≤ r ∧ r ≤ left ∧ g.partner.size ≤ left.toNat ∧ g.ref.size ≤ left.toNat ∧ g.item.size ≤ left.toNat)) ∧ Below w.heap.size w w' := by
  obtain ⟨kind, partner, ref, no, item, qty⟩ := g
  dsimp only at hz ⊢
  obtain ⟨hz0, hz1, hz2⟩ := hz
  by_cases h_partner : left - (partner.size : Int) < 0
  · go_enter Tryd.func4, Tryd.ntmps4
    go_wp2
    go_ret
    exact ⟨_, rfl, .inl rfl, (Below.refl _ _).alloc (Nat.le_refl _) _⟩
  by_cases h_ref : left - (partner.size : Int) - (ref.size : Int) < 0
  · go_enter Tryd.func4, Tryd.ntmps4
    go_wp2
    go_ret
    exact ⟨_, rfl, .inl rfl, (Below.refl _ _).alloc (Nat.le_refl _) _⟩
  by_cases h_item : left - (partner.size : Int) - (ref.size : Int) - (item.size : Int) < 0
  · go_enter Tryd.func4, Tryd.ntmps4
    go_wp2
    go_ret
    exact ⟨_, rfl, .inl rfl, (Below.refl _ _).alloc (Nat.le_refl _) _⟩
  go_enter Tryd.func4, Tryd.ntmps4
  go_wp2
  go_ret
  exact ⟨_, rfl, .inr ⟨by omega, by omega, by omega, by omega, by omega⟩, (Below.refl _ _).alloc (Nat.le_refl _) _⟩
end Go.Proofs.YtlckjhoobpjnaaaDoor
