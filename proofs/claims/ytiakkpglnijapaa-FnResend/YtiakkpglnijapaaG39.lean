/- Texts of ours put together: AppWOu. -/
import Derived.Test.YtiakkpglnijapaaG14
import Derived.Test.YtiakkpglnijapaaG38
import Derived.Deep.AppendLies
import Derived.BigFrame
namespace Go.Proofs.Ytiakkpglnijapaa
open Go.ChangeShapes Go.WideShapes Go.ChangeAt Go.RowKit
theorem wp_copyOuW {o : Oper} {a : Act} {K : Act → World → Prop} {Q : Exit → Act → World → Prop} {W : World} {base b : Nat} {xv : Value} {ms : List OutR} (s x : Operand)
    (ho : o.op = .call { callee := .builtin .append, args := #[s, x], argTypes := #[23, 23] })
    (hs : a.eval s = .slice (some ⟨b, 0, none⟩) 0 0) (hx : a.eval x = xv) (hown : W.ownsRow base 25 5 (.slice (some ⟨b, 0, none⟩) 0 0) 0 []) (hr : RowOu W xv ms) (hl : ms.length ≤ 2000000) (hbase : base ≤ W.heap.size)
    (k : ∀ A C w', RowOu w' (.slice A ms.length C) ms → (∃ ad, A = some ad ∧ base ≤ ad.block) → (ms.length ≤ C ∧ C ≤ 9223372036854775807) → (∀ q, q < W.heap.size → q ≠ b → w'.heap[q]? = W.heap[q]?) → Below base W w' → K (a.put o.dst (.slice A ms.length C)) w') : o.wp Try.prog a W K Q := by
  obtain ⟨i0, hi, hz0, hz1, hz2⟩ := info_parts infoOuA
  obtain ⟨A, C, rfl⟩ := hr.val
  rcases Nat.eq_zero_or_pos ms.length with h0 | h0
  · obtain rfl : ms = [] := List.eq_nil_of_length_eq_zero h0
    have hrun := run_append_zeroOu W b o.type C A
    have hk := k (some ⟨b, 0, none⟩) 0 W ⟨⟨_, _, rfl, fun h => absurd rfl h⟩, by simp, fun i g hi => by simp at hi⟩ ⟨_, rfl, (hown.lt b rfl).1⟩ ⟨by simp, by omega⟩ (fun _ _ _ => rfl) (Below.refl _ _)
    unfold Oper.wp
    simp only [List.length_nil] at hx hk
    simp [execOp, ho, resolve, invoke, builtin, hs, hx, hrun, Result.andThen]
    exact hk
  · obtain ⟨A', C', e, hc⟩ := hr.shape
    simp only [Value.slice.injEq, true_and] at e
    obtain ⟨rfl, rfl⟩ := e
    obtain ⟨b', o', rfl, hcell⟩ := hc (by intro e2; rw [e2] at h0; simp at h0)
    refine wp_append_lies W s x 23 ho base 25 i0 (.agg #[.string ⟨#[]⟩, .int .i64 0, .string ⟨#[]⟩, .int .i64 0, .int .i64 0]) 5 56 Try.underlying23 hi hz0 hz1 hz2 rfl (by decide) _ 0 [] hs hown ⟨b', o', none⟩ ms.length C (clOus ms) hx (clOus_len ms) (fun j u hu => ?_) (fun u hu => ?_) h0 (by unfold maxLen; omega) (by omega) hbase _ rfl ?_
    · obtain ⟨i, g, hg', ho'⟩ := clOus_get hu
      obtain ⟨q0, q1, q2, q3, q4⟩ := hcell i g hg'
      rw [fl_addr]
      rcases ho' with ⟨rfl, rfl⟩ | ⟨rfl, rfl⟩ | ⟨rfl, rfl⟩ | ⟨rfl, rfl⟩ | ⟨rfl, rfl⟩
      · first | exact q0 | (rw [← q0]; congr 2; omega)
      · first | exact q1 | (rw [← q1]; congr 2; omega)
      · first | exact q2 | (rw [← q2]; congr 2; omega)
      · first | exact q3 | (rw [← q3]; congr 2; omega)
      · first | exact q4 | (rw [← q4]; congr 2; omega)
    · obtain ⟨j, hj⟩ := List.getElem?_of_mem hu
      obtain ⟨i, g, _, ho'⟩ := clOus_get hj
      rcases ho' with ⟨_, rfl⟩ | ⟨_, rfl⟩ | ⟨_, rfl⟩ | ⟨_, rfl⟩ | ⟨_, rfl⟩ <;> rfl
    · intro gg cap w' hown' hgrow _ _
      have hown2 : w'.ownsRow base 25 5 (.slice (some ⟨gg, 0, none⟩) ms.length cap) ms.length (clOus ms) := by
        have := hown'
        rw [Nat.zero_add, List.nil_append] at this
        exact this
      obtain ⟨c, _, hL⟩ := LOu.of_owns hown2 (by omega) (fun i g hi => hr.sizes i g hi)
      have hcap : ms.length ≤ cap ∧ cap ≤ 9223372036854775807 := by
        rcases hown2.2 with ⟨h, _⟩ | ⟨g', cap', cur, e, _, _, h1, h2, _⟩
        · cases h
        · simp only [Value.slice.injEq, true_and] at e
          obtain ⟨_, rfl⟩ := e
          unfold maxLen at h2
          exact ⟨h1, h2⟩
      have := k (some ⟨gg, 0, none⟩) cap w' hL.row ⟨_, rfl, (hown2.lt gg rfl).1⟩ hcap (fun q hq hn => hgrow.block q hq (fun e => hn (by simpa [Value.ownBlock] using e))) ⟨hgrow.os, hgrow.tape, hgrow.output, hgrow.size, fun q hq => hgrow.block q (by omega) (fun e => by have := (hown.lt q e.symm).1; omega)⟩
      rw [Nat.zero_add]
      exact this
theorem step_copyOuW {ops : Array Oper} {o : Oper} {a : Act} {K : Act → World → Prop} {Q : Exit → Act → World → Prop} {E : Prop} {W : World} {base b : Nat} {xv : Value} {ms : List OutR} (hw : Region.wanted o (yielded ops a.tmps) = true) (s x : Operand)
    (ho : o.op = .call { callee := .builtin .append, args := #[s, x], argTypes := #[23, 23] })
    (hs : a.eval s = .slice (some ⟨b, 0, none⟩) 0 0) (hx : a.eval x = xv) (hown : W.ownsRow base 25 5 (.slice (some ⟨b, 0, none⟩) 0 0) 0 []) (hr : RowOu W xv ms) (hl : ms.length ≤ 2000000) (hbase : base ≤ W.heap.size)
    (k : ∀ A C w', RowOu w' (.slice A ms.length C) ms → (∃ ad, A = some ad ∧ base ≤ ad.block) → (ms.length ≤ C ∧ C ≤ 9223372036854775807) → (∀ q, q < W.heap.size → q ≠ b → w'.heap[q]? = W.heap[q]?) → Below base W w' → K (a.put o.dst (.slice A ms.length C)) w') : if Region.wanted o (yielded ops a.tmps) = true then o.wp Try.prog a W K Q else E := by
  rw [if_pos hw]
  exact wp_copyOuW s x ho hs hx hown hr hl hbase k
theorem wpList_copyOuW {ops : Array Oper} {rest : List Oper} {o : Oper} {a : Act} {Q : Exit → Act → World → Prop} {W : World} {base b : Nat} {xv : Value} {ms : List OutR} (hw : Region.wanted o (yielded ops a.tmps) = true) (s x : Operand)
    (ho : o.op = .call { callee := .builtin .append, args := #[s, x], argTypes := #[23, 23] })
    (hs : a.eval s = .slice (some ⟨b, 0, none⟩) 0 0) (hx : a.eval x = xv) (hown : W.ownsRow base 25 5 (.slice (some ⟨b, 0, none⟩) 0 0) 0 []) (hr : RowOu W xv ms) (hl : ms.length ≤ 2000000) (hbase : base ≤ W.heap.size)
    (k : ∀ A C w', RowOu w' (.slice A ms.length C) ms → (∃ ad, A = some ad ∧ base ≤ ad.block) → (ms.length ≤ C ∧ C ≤ 9223372036854775807) → (∀ q, q < W.heap.size → q ≠ b → w'.heap[q]? = W.heap[q]?) → Below base W w' → wpList Try.prog ops Q rest (a.put o.dst (.slice A ms.length C)) w') : wpList Try.prog ops Q (o :: rest) a W :=
  BigFrame.wpList_want hw fun _ hK => wp_copyOuW s x ho hs hx hown hr hl hbase fun A C w' h1 h2 h3 h4 h5 => hK _ _ (k A C w' h1 h2 h3 h4 h5)
end Go.Proofs.Ytiakkpglnijapaa
