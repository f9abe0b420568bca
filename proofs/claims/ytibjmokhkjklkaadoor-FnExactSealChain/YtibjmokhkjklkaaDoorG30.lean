/- Texts of ours put together: AppWN. -/
import Derived.Test.YtibjmokhkjklkaaDoorG24
import Derived.Deep.AppendLies
import Derived.BigFrame
namespace Go.Proofs.YtibjmokhkjklkaaDoor
open Go.ChangeShapes Go.WideShapes Go.ChangeAt Go.RowKit
theorem own0N (w : World) {B : Nat} (hB : B ≤ w.heap.size) : (w.alloc (.cells #[] 2)).ownsRow B 2 1 (.slice (some ⟨w.heap.size, 0, none⟩) 0 0) 0 [] :=
  ⟨rfl, .inr ⟨w.heap.size, 0, #[], rfl, hB, World.alloc_heap_new _ _, Nat.le_refl _, Nat.zero_le _, rfl, rfl⟩⟩
theorem run_append_zeroN (W : World) (b ty c : Nat) (a : Option Addr) : (Builtin.append_ #[24, 24] ty #[.slice (some ⟨b, 0, none⟩) 0 0, .slice a 0 c]).run Tryd.prog W = .ok (.slice (some ⟨b, 0, none⟩) 0 0) W := by
  obtain ⟨i0, hi, hz0, hz1, hz2⟩ := info_parts infoN
  cases a with
  | none => simp [Builtin.append_, run_underlying Tryd.underlying24, sizeOf, typeInfo, hi, Builtin.lenOf, Builtin.firstCells, storeCells]
  | some a => simp [Builtin.append_, run_underlying Tryd.underlying24, sizeOf, typeInfo, hi, Builtin.lenOf, Builtin.firstCells, storeCells, loadCells, loadCellsFrom]
theorem wp_copyN {o : Oper} {a : Act} {K : Act → World → Prop} {Q : Exit → Act → World → Prop} {W : World} {base b : Nat} {xv : Value} {ms : List Int} (s x : Operand)
    (ho : o.op = .call { callee := .builtin .append, args := #[s, x], argTypes := #[24, 24] })
    (hs : a.eval s = .slice (some ⟨b, 0, none⟩) 0 0) (hx : a.eval x = xv) (hown : W.ownsRow base 2 1 (.slice (some ⟨b, 0, none⟩) 0 0) 0 []) (hr : RowN W xv ms) (hl : ms.length ≤ 2000000) (hbase : base ≤ W.heap.size)
    (k : ∀ A C w', RowN w' (.slice A ms.length C) ms → Below base W w' → K (a.put o.dst (.slice A ms.length C)) w') : o.wp Tryd.prog a W K Q := by
  obtain ⟨i0, hi, hz0, hz1, hz2⟩ := info_parts infoN
  obtain ⟨A, C, rfl⟩ := hr.val
  rcases Nat.eq_zero_or_pos ms.length with h0 | h0
  · obtain rfl : ms = [] := List.eq_nil_of_length_eq_zero h0
    have hrun := run_append_zeroN W b o.type C A
    have hk := k (some ⟨b, 0, none⟩) 0 W ⟨⟨_, _, rfl, fun h => absurd rfl h⟩, by simp⟩ (Below.refl _ _)
    unfold Oper.wp
    simp only [List.length_nil] at hx hk
    simp [execOp, ho, resolve, invoke, builtin, hs, hx, hrun, Result.andThen]
    exact hk
  · obtain ⟨A', C', e, hc⟩ := hr.shape
    simp only [Value.slice.injEq, true_and] at e
    obtain ⟨rfl, rfl⟩ := e
    obtain ⟨b', o', rfl, hcell⟩ := hc (by intro e2; rw [e2] at h0; simp at h0)
    refine wp_append_lies W s x 24 ho base 2 i0 (.int .i64 0) 1 8 Tryd.underlying24 hi hz0 hz1 hz2 rfl (by decide) _ 0 [] hs hown ⟨b', o', none⟩ ms.length C (ms.map (Value.int .i64)) hx (by simp) (fun j u hu => ?_) (fun u hu => ?_) h0 (by unfold maxLen; omega) (by omega) hbase _ rfl ?_
    · rw [List.getElem?_map] at hu
      obtain ⟨g, hg', rfl⟩ := Option.map_eq_some_iff.1 hu
      rw [fl_addr]
      exact hcell j g hg'
    · obtain ⟨z, _, rfl⟩ := List.mem_map.1 hu
      rfl
    · intro gg cap w' hown' hgrow _ _
      have hown2 : w'.ownsRow base 2 1 (.slice (some ⟨gg, 0, none⟩) ms.length cap) ms.length (ms.map (Value.int .i64)) := by
        have := hown'
        rw [Nat.zero_add, List.nil_append] at this
        exact this
      obtain ⟨c, _, hL⟩ := LN.of_owns hown2 (by omega)
      have := k (some ⟨gg, 0, none⟩) cap w' hL.row ⟨hgrow.os, hgrow.tape, hgrow.output, hgrow.size, fun q hq => hgrow.block q (by omega) (fun e => by have := (hown.lt q e.symm).1; omega)⟩
      rw [Nat.zero_add]
      exact this
theorem step_copyN {ops : Array Oper} {o : Oper} {a : Act} {K : Act → World → Prop} {Q : Exit → Act → World → Prop} {E : Prop} {W : World} {base b : Nat} {xv : Value} {ms : List Int} (hw : Region.wanted o (yielded ops a.tmps) = true) (s x : Operand)
    (ho : o.op = .call { callee := .builtin .append, args := #[s, x], argTypes := #[24, 24] })
    (hs : a.eval s = .slice (some ⟨b, 0, none⟩) 0 0) (hx : a.eval x = xv) (hown : W.ownsRow base 2 1 (.slice (some ⟨b, 0, none⟩) 0 0) 0 []) (hr : RowN W xv ms) (hl : ms.length ≤ 2000000) (hbase : base ≤ W.heap.size)
    (k : ∀ A C w', RowN w' (.slice A ms.length C) ms → Below base W w' → K (a.put o.dst (.slice A ms.length C)) w') : if Region.wanted o (yielded ops a.tmps) = true then o.wp Tryd.prog a W K Q else E := by
  rw [if_pos hw]
  exact wp_copyN s x ho hs hx hown hr hl hbase k
end Go.Proofs.YtibjmokhkjklkaaDoor
