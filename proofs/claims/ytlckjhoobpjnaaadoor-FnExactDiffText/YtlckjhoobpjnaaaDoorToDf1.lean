/- The copies of Diff: they read as what they were made of, and nothing that was there is written. -/
import Derived.Test.YtlckjhoobpjnaaaDoorRowDf
namespace Go.Proofs.YtlckjhoobpjnaaaDoor
open Go.ChangeShapes Go.WideShapes Go.ChangeAt Go.RowKit
set_option maxHeartbeats 1000000 in
theorem toDf_any (g : Dff) (w : World) :
    Calls Tryd.prog 6 #[.agg #[.int .i64 g.kind, .string g.partner, .string g.ref, .int .i64 g.no, .string g.item, .int .i64 g.qty]] w fun e w' => e = .returned (.agg #[.int .i64 g.kind, .string g.partner, .string g.ref, .int .i64 g.no, .string g.item, .int .i64 g.qty]) ∧ Below w.heap.size w w' := by
  obtain ⟨kind, partner, ref, no, item, qty⟩ := g
  dsimp only
  go_enter Tryd.func6, Tryd.ntmps6
  go_wp2
  exact bodyPost_ret (v := .agg #[.int .i64 kind, .string partner, .string ref, .int .i64 no, .string item, .int .i64 qty]) (by simp [results, Tryd.results6, go_sem]) rfl ⟨rfl, (((Below.refl _ _).alloc (Nat.le_refl _) _).alloc (by simp) _).alloc (by simp; omega) _⟩
end Go.Proofs.YtlckjhoobpjnaaaDoor
