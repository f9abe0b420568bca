/- Texts of ours put together: SlJ0. -/
import Derived.Test.YtibjmokhkjklkaaDoorG30
namespace Go.Proofs.YtibjmokhkjklkaaDoor
open Go.ChangeShapes Go.WideShapes Go.ChangeAt Go.RowKit
theorem grown_newN {W W' : World} {o : Obj} (h : (W.alloc o).grownBy W' (some W.heap.size)) : Below W.heap.size W W' :=
  have ha := (Below.refl W.heap.size W).alloc (Nat.le_refl _) o
  ⟨h.os.trans ha.os, h.tape.trans ha.tape, h.output.trans ha.output, Nat.le_trans ha.size h.size, fun k hk => (h.block k (Nat.lt_of_lt_of_le hk ha.size) (by intro e; cases e; omega)).trans (ha.block k hk)⟩
theorem wpList_clnN {ops : Array Oper} {rest : List Oper} {o : Oper} {a : Act} {Q : Exit → Act → World → Prop} {W : World} {base b : Nat} {xv : Value} {ms : List Int} (hgd : o.guard = none) (s x : Operand)
    (ho : o.op = .call { callee := .builtin .append, args := #[s, x], argTypes := #[24, 24] })
    (hs : a.eval s = .slice (some ⟨b, 0, none⟩) 0 0) (hx : a.eval x = xv) (hown : W.ownsRow base 2 1 (.slice (some ⟨b, 0, none⟩) 0 0) 0 []) (hr : RowN W xv ms) (hl : ms.length ≤ 2000000) (hbase : base ≤ W.heap.size)
    (k : ∀ A C w', w'.ownsRow base 2 1 (.slice A ms.length C) ms.length (ms.map (Value.int .i64)) → W.grownBy w' (some b) → wpList Tryd.prog ops Q rest (a.put o.dst (.slice A ms.length C)) w') : wpList Tryd.prog ops Q (o :: rest) a W := by
  refine wpList_plain hgd fun K hK => ?_
  obtain ⟨i0, hi, hz0, hz1, hz2⟩ := info_parts infoN
  obtain ⟨A, C, rfl⟩ := hr.val
  rcases Nat.eq_zero_or_pos ms.length with h0 | h0
  · obtain rfl : ms = [] := List.eq_nil_of_length_eq_zero h0
    have hrun := run_append_zeroN W b o.type C A
    have hk := hK _ _ (k (some ⟨b, 0, none⟩) 0 W hown ⟨rfl, rfl, rfl, Nat.le_refl _, fun _ _ _ => rfl⟩)
    unfold Oper.wp
    simp only [List.length_nil] at hx hk
    simp [execOp, ho, resolve, invoke, builtin, hs, hx, hrun, Result.andThen]
    exact hk
  · obtain ⟨A', C', e, hc⟩ := hr.shape
    simp only [Value.slice.injEq, true_and] at e
    obtain ⟨rfl, rfl⟩ := e
    obtain ⟨b', o', rfl, hcell⟩ := hc (by intro e2; rw [e2] at h0; simp at h0)
    refine wp_append_lies W s x 24 ho base 2 i0 (.int .i64 0) 1 8 Tryd.underlying24 hi hz0 hz1 hz2 rfl (by decide) _ 0 [] hs hown ⟨b', o', none⟩ ms.length C (ms.map (Value.int .i64)) hx (by simp) (fun j u hu => ?_) (fun u hu => ?_) h0 (by unfold maxLen; omega) (by omega) hbase _ rfl ?_
    · rw [List.getElem?_map] at hu
      obtain ⟨g, hg', rfl⟩ := Option.map_eq_some_iff.1 hu
      rw [fl_addr]
      exact hcell j g hg'
    · obtain ⟨z, _, rfl⟩ := List.mem_map.1 hu
      rfl
    · intro gg cap w' hown' hgrow _ _
      have hown2 : w'.ownsRow base 2 1 (.slice (some ⟨gg, 0, none⟩) ms.length cap) ms.length (ms.map (Value.int .i64)) := by
        have := hown'
        rw [Nat.zero_add, List.nil_append] at this
        exact this
      have := hK _ _ (k (some ⟨gg, 0, none⟩) cap w' hown2 hgrow)
      rw [Nat.zero_add]
      exact this
end Go.Proofs.YtibjmokhkjklkaaDoor
