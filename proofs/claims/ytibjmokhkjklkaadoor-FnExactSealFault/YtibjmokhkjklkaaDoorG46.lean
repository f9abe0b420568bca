/- Texts of ours put together: SlE. -/
import Derived.Test.YtibjmokhkjklkaaDoorG45
import Derived.ChangeKeysEq
import Derived.Laws.StructEq
namespace Go.Proofs.YtibjmokhkjklkaaDoor
open Go.ChangeShapes Go.WideShapes Go.ChangeAt Go.RowKit
theorem pcUnder : Tryd.prog.underlying 62 = some (.array 8 2) := by kernel_rfl
theorem pcElem : ∃ i, Tryd.prog.info? 2 = some i := by
  cases h : Tryd.prog.info? 2 with
  | none => have := infoN1; rw [h] at this; cases this
  | some i => exact ⟨i, rfl⟩
theorem pcCells : Tryd.prog.cellsOf 2 = 1 := by kernel_rfl
/-- Are two pieces the same? -/
def pcB (f g : Nat → Int) : Bool := (List.range 8).all fun i => f i == g i
theorem pcB_yes {f g : Nat → Int} (h : ∀ i, i < 8 → f i = g i) : pcB f g = true := by
  simp only [pcB, List.all_eq_true, List.mem_range, beq_iff_eq]
  exact h
theorem pcB_no {f g : Nat → Int} (h : ∃ i, i < 8 ∧ f i ≠ g i) : pcB f g = false := by
  obtain ⟨i, hi, hne⟩ := h
  cases e : pcB f g with
  | false => rfl
  | true =>
    simp only [pcB, List.all_eq_true, List.mem_range, beq_iff_eq] at e
    exact absurd (e i hi) hne
set_option maxRecDepth 100000 in
set_option maxHeartbeats 4000000 in
theorem run_neq_pc (f g : Nat → Int) (w : World) : (binOp .neq 62 (.agg #[.int .i64 (f 0), .int .i64 (f 1), .int .i64 (f 2), .int .i64 (f 3), .int .i64 (f 4), .int .i64 (f 5), .int .i64 (f 6), .int .i64 (f 7)]) (.agg #[.int .i64 (g 0), .int .i64 (g 1), .int .i64 (g 2), .int .i64 (g 3), .int .i64 (g 4), .int .i64 (g 5), .int .i64 (g 6), .int .i64 (g 7)])).run Tryd.prog w = .ok (.bool (!pcB f g)) w := by
  obtain ⟨i, hi⟩ := pcElem
  have hr : List.range 8 = [0, 1, 2, 3, 4, 5, 6, 7] := by decide
  rw [run_neq_struct, run_equalIn_array w 9999 _ _ pcUnder hi, pcCells, pcB, hr]
  simp [go_sem, Op.eqItems]
  repeat' split
  all_goals simp_all
end Go.Proofs.YtibjmokhkjklkaaDoor
