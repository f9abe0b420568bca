/- Texts of ours put together: To1Ev. -/
import Derived.Test.YtibjmokhkjklkaaDoorG01
namespace Go.Proofs.YtibjmokhkjklkaaDoor
open Go.ChangeShapes Go.WideShapes Go.ChangeAt Go.RowKit
set_option maxHeartbeats 1000000 in
theorem toEv_any (g : EvR) (w : World) :
    Calls Tryd.prog 20 #[.agg #[.int .i64 g.kind, .string g.a, .string g.b, .string g.c]] w fun e w' => e = .returned (.agg #[.int .i64 g.kind, .string g.a, .string g.b, .string g.c]) ∧ Below w.heap.size w w' := by
  obtain ⟨kind, a, b, c⟩ := g
  dsimp only
  go_enter Tryd.func20, Tryd.ntmps20
  go_wp2
  exact bodyPost_ret (v := .agg #[.int .i64 kind, .string a, .string b, .string c]) (by simp [results, Tryd.results20, go_sem]) rfl ⟨rfl, (((Below.refl _ _).alloc (Nat.le_refl _) _).alloc (by simp) _).alloc (by simp; omega) _⟩
end Go.Proofs.YtibjmokhkjklkaaDoor
