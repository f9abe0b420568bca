/- 'append([]OrderLine , list...)': a copy of any list. -/
import Derived.Test.YtppfobeencnbdaaAppOl
import Derived.Deep.AppendLies
import Derived.BigFrame
namespace Go.Proofs.Ytppfobeencnbdaa
open Go.ChangeShapes Go.WideShapes Go.ChangeAt Go.RowKit
theorem own0Ol (w : World) {B : Nat} (hB : B ≤ w.heap.size) : (w.alloc (.cells #[] 31)).ownsRow B 31 8 (.slice (some ⟨w.heap.size, 0, none⟩) 0 0) 0 [] :=
  ⟨rfl, .inr ⟨w.heap.size, 0, #[], rfl, hB, World.alloc_heap_new _ _, Nat.le_refl _, Nat.zero_le _, rfl, rfl⟩⟩
theorem run_append_zeroOl (W : World) (b ty c : Nat) (a : Option Addr) : (Builtin.append_ #[23, 23] ty #[.slice (some ⟨b, 0, none⟩) 0 0, .slice a 0 c]).run Try.prog W = .ok (.slice (some ⟨b, 0, none⟩) 0 0) W := by
  obtain ⟨i0, hi, hz0, hz1, hz2⟩ := info_parts infoOlA
  cases a with
  | none => simp [Builtin.append_, run_underlying Try.underlying23, sizeOf, typeInfo, hi, Builtin.lenOf, Builtin.firstCells, storeCells]
  | some a => simp [Builtin.append_, run_underlying Try.underlying23, sizeOf, typeInfo, hi, Builtin.lenOf, Builtin.firstCells, storeCells, loadCells, loadCellsFrom]
theorem wp_copyOl {o : Oper} {a : Act} {K : Act → World → Prop} {Q : Exit → Act → World → Prop} {W : World} {base b : Nat} {xv : Value} {ms : List OLn} (s x : Operand)
    (ho : o.op = .call { callee := .builtin .append, args := #[s, x], argTypes := #[23, 23] })
    (hs : a.eval s = .slice (some ⟨b, 0, none⟩) 0 0) (hx : a.eval x = xv) (hown : W.ownsRow base 31 8 (.slice (some ⟨b, 0, none⟩) 0 0) 0 []) (hr : RowOl W xv ms) (hl : ms.length ≤ 2000000) (hbase : base ≤ W.heap.size)
    (k : ∀ A C w', RowOl w' (.slice A ms.length C) ms → (∃ ad, A = some ad ∧ base ≤ ad.block) → Below base W w' → K (a.put o.dst (.slice A ms.length C)) w') : o.wp Try.prog a W K Q := by
  obtain ⟨i0, hi, hz0, hz1, hz2⟩ := info_parts infoOlA
  obtain ⟨A, C, rfl⟩ := hr.val
  rcases Nat.eq_zero_or_pos ms.length with h0 | h0
  · obtain rfl : ms = [] := List.eq_nil_of_length_eq_zero h0
    have hrun := run_append_zeroOl W b o.type C A
    have hk := k (some ⟨b, 0, none⟩) 0 W ⟨⟨_, _, rfl, fun h => absurd rfl h⟩, by simp, fun i g hi => by simp at hi⟩ ⟨_, rfl, (hown.lt b rfl).1⟩ (Below.refl _ _)
    unfold Oper.wp
    simp only [List.length_nil] at hx hk
    simp [execOp, ho, resolve, invoke, builtin, hs, hx, hrun, Result.andThen]
    exact hk
  · obtain ⟨A', C', e, hc⟩ := hr.shape
    simp only [Value.slice.injEq, true_and] at e
    obtain ⟨rfl, rfl⟩ := e
    obtain ⟨b', o', rfl, hcell⟩ := hc (by intro e2; rw [e2] at h0; simp at h0)
    refine wp_append_lies W s x 23 ho base 31 i0 (.agg #[.string ⟨#[]⟩, .string ⟨#[]⟩, .int .i64 0, .string ⟨#[]⟩, .int .i64 0, .int .i64 0, .int .i64 0, .int .i64 0]) 8 88 Try.underlying23 hi hz0 hz1 hz2 rfl (by decide) _ 0 [] hs hown ⟨b', o', none⟩ ms.length C (clOls ms) hx (clOls_len ms) (fun j u hu => ?_) (fun u hu => ?_) h0 (by unfold maxLen; omega) (by omega) hbase _ rfl ?_
    · obtain ⟨i, g, hg', ho'⟩ := clOls_get hu
      obtain ⟨q0, q1, q2, q3, q4, q5, q6, q7⟩ := hcell i g hg'
      rw [fl_addr]
      rcases ho' with ⟨rfl, rfl⟩ | ⟨rfl, rfl⟩ | ⟨rfl, rfl⟩ | ⟨rfl, rfl⟩ | ⟨rfl, rfl⟩ | ⟨rfl, rfl⟩ | ⟨rfl, rfl⟩ | ⟨rfl, rfl⟩
      · first | exact q0 | (rw [← q0]; congr 2; omega)
      · first | exact q1 | (rw [← q1]; congr 2; omega)
      · first | exact q2 | (rw [← q2]; congr 2; omega)
      · first | exact q3 | (rw [← q3]; congr 2; omega)
      · first | exact q4 | (rw [← q4]; congr 2; omega)
      · first | exact q5 | (rw [← q5]; congr 2; omega)
      · first | exact q6 | (rw [← q6]; congr 2; omega)
      · first | exact q7 | (rw [← q7]; congr 2; omega)
    · obtain ⟨j, hj⟩ := List.getElem?_of_mem hu
      obtain ⟨i, g, _, ho'⟩ := clOls_get hj
      rcases ho' with ⟨_, rfl⟩ | ⟨_, rfl⟩ | ⟨_, rfl⟩ | ⟨_, rfl⟩ | ⟨_, rfl⟩ | ⟨_, rfl⟩ | ⟨_, rfl⟩ | ⟨_, rfl⟩ <;> rfl
    · intro gg cap w' hown' hgrow _ _
      have hown2 : w'.ownsRow base 31 8 (.slice (some ⟨gg, 0, none⟩) ms.length cap) ms.length (clOls ms) := by
        have := hown'
        rw [Nat.zero_add, List.nil_append] at this
        exact this
      obtain ⟨c, _, hL⟩ := LOl.of_owns hown2 (by omega) (fun i g hi => hr.sizes i g hi)
      have := k (some ⟨gg, 0, none⟩) cap w' hL.row ⟨_, rfl, (hown2.lt gg rfl).1⟩ ⟨hgrow.os, hgrow.tape, hgrow.output, hgrow.size, fun q hq => hgrow.block q (by omega) (fun e => by have := (hown.lt q e.symm).1; omega)⟩
      rw [Nat.zero_add]
      exact this
theorem step_copyOl {ops : Array Oper} {o : Oper} {a : Act} {K : Act → World → Prop} {Q : Exit → Act → World → Prop} {E : Prop} {W : World} {base b : Nat} {xv : Value} {ms : List OLn} (hw : Region.wanted o (yielded ops a.tmps) = true) (s x : Operand)
    (ho : o.op = .call { callee := .builtin .append, args := #[s, x], argTypes := #[23, 23] })
    (hs : a.eval s = .slice (some ⟨b, 0, none⟩) 0 0) (hx : a.eval x = xv) (hown : W.ownsRow base 31 8 (.slice (some ⟨b, 0, none⟩) 0 0) 0 []) (hr : RowOl W xv ms) (hl : ms.length ≤ 2000000) (hbase : base ≤ W.heap.size)
    (k : ∀ A C w', RowOl w' (.slice A ms.length C) ms → (∃ ad, A = some ad ∧ base ≤ ad.block) → Below base W w' → K (a.put o.dst (.slice A ms.length C)) w') : if Region.wanted o (yielded ops a.tmps) = true then o.wp Try.prog a W K Q else E := by
  rw [if_pos hw]
  exact wp_copyOl s x ho hs hx hown hr hl hbase k
theorem wpList_copyOl {ops : Array Oper} {rest : List Oper} {o : Oper} {a : Act} {Q : Exit → Act → World → Prop} {W : World} {base b : Nat} {xv : Value} {ms : List OLn} (hw : Region.wanted o (yielded ops a.tmps) = true) (s x : Operand)
    (ho : o.op = .call { callee := .builtin .append, args := #[s, x], argTypes := #[23, 23] })
    (hs : a.eval s = .slice (some ⟨b, 0, none⟩) 0 0) (hx : a.eval x = xv) (hown : W.ownsRow base 31 8 (.slice (some ⟨b, 0, none⟩) 0 0) 0 []) (hr : RowOl W xv ms) (hl : ms.length ≤ 2000000) (hbase : base ≤ W.heap.size)
    (k : ∀ A C w', RowOl w' (.slice A ms.length C) ms → (∃ ad, A = some ad ∧ base ≤ ad.block) → Below base W w' → wpList Try.prog ops Q rest (a.put o.dst (.slice A ms.length C)) w') : wpList Try.prog ops Q (o :: rest) a W :=
  BigFrame.wpList_want hw fun _ hK => wp_copyOl s x ho hs hx hown hr hl hbase fun A C w' h1 h2 h3 => hK _ _ (k A C w' h1 h2 h3)
end Go.Proofs.Ytppfobeencnbdaa
