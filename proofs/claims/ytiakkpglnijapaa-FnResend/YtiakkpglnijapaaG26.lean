/- Texts of ours put together: OuCl. -/
import Derived.Test.YtiakkpglnijapaaG25
namespace Go.Proofs.Ytiakkpglnijapaa
open Go.ChangeShapes Go.WideShapes Go.ChangeAt Go.RowKit
/-- A list in a row of the call's own, from block base on. -/
structure OwnR (base : Nat) (W : World) (g C : Nat) (rs : List OutR) : Prop where
  ge : base ≤ g
  cur : ∃ cur : Array Value, W.heap[g]? = some (.cells cur 25) ∧ cur.size = C * 5 ∧ cur.toList.take (rs.length * 5) = clOus rs
  len : rs.length ≤ C
  cap : C ≤ 9223372036854775807
theorem OwnR.below {base g C : Nat} {W W' : World} {rs : List OutR} (h : OwnR base W g C rs) (hb : Below W.heap.size W W') : OwnR base W' g C rs := by
  obtain ⟨cur, h1, h2⟩ := h.cur
  exact ⟨h.ge, ⟨cur, (hb.block _ (Array.getElem?_eq_some_iff.1 h1).1).trans h1, h2⟩, h.len, h.cap⟩
theorem wp_copyO {o : Oper} {a : Act} {K : Act → World → Prop} {Q : Exit → Act → World → Prop} {W : World} {base b : Nat} {xv : Value} {ms : List OutR} (s x : Operand)
    (ho : o.op = .call { callee := .builtin .append, args := #[s, x], argTypes := #[23, 23] })
    (hs : a.eval s = .slice (some ⟨b, 0, none⟩) 0 0) (hx : a.eval x = xv) (hown : W.ownsRow base 25 5 (.slice (some ⟨b, 0, none⟩) 0 0) 0 []) (hr : RowOu W xv ms) (hl : ms.length ≤ 1000000) (hbase : base ≤ W.heap.size)
    (k : ∀ g C w', OwnR base w' g C ms → Below base W w' → K (a.put o.dst (.slice (some ⟨g, 0, none⟩) ms.length C)) w') : o.wp Try.prog a W K Q := by
  obtain ⟨i0, hi, hz0, hz1, hz2⟩ := info_parts infoOuA
  obtain ⟨A, C, rfl⟩ := hr.val
  rcases Nat.eq_zero_or_pos ms.length with h0 | h0
  · obtain rfl : ms = [] := List.eq_nil_of_length_eq_zero h0
    have hrun := run_append_zeroOu W b o.type C A
    have hk := k b 0 W (by
      rcases hown.2 with ⟨e, _⟩ | ⟨g, cap, cur, e, h1, h2, h3, h4, h5, h6⟩
      · cases e
      · simp only [Value.slice.injEq, Option.some.injEq, Addr.mk.injEq, and_true, true_and] at e
        obtain ⟨rfl, rfl⟩ := e
        exact ⟨h1, ⟨cur, h2, h5, by simp [clOus]⟩, by simp, by omega⟩) (Below.refl _ _)
    unfold Oper.wp
    simp only [List.length_nil] at hx hk
    simp [execOp, ho, resolve, invoke, builtin, hs, hx, hrun, Result.andThen]
    exact hk
  · obtain ⟨A', C', e, hc⟩ := hr.shape
    simp only [Value.slice.injEq, true_and] at e
    obtain ⟨rfl, rfl⟩ := e
    obtain ⟨b', o', rfl, hcell⟩ := hc (by intro e2; rw [e2] at h0; simp at h0)
    refine wp_append_lies W s x 23 ho base 25 i0 (.agg #[.string ⟨#[]⟩, .int .i64 0, .string ⟨#[]⟩, .int .i64 0, .int .i64 0]) 5 56 Try.underlying23 hi hz0 hz1 hz2 rfl (by decide) _ 0 [] hs hown ⟨b', o', none⟩ ms.length C (clOus ms) hx (clOus_len ms) (fun j u hu => ?_) clOus_one h0 (by unfold maxLen; omega) (by omega) hbase _ rfl ?_
    · obtain ⟨i, g, hg', ho'⟩ := clOus_get hu
      obtain ⟨q0, q1, q2, q3, q4⟩ := hcell i g hg'
      rw [fl_addr]
      rcases ho' with ⟨rfl, rfl⟩ | ⟨rfl, rfl⟩ | ⟨rfl, rfl⟩ | ⟨rfl, rfl⟩ | ⟨rfl, rfl⟩
      · first | exact q0 | (rw [← q0]; congr 2; omega)
      · first | exact q1 | (rw [← q1]; congr 2; omega)
      · first | exact q2 | (rw [← q2]; congr 2; omega)
      · first | exact q3 | (rw [← q3]; congr 2; omega)
      · first | exact q4 | (rw [← q4]; congr 2; omega)
    · intro gg cap w' hown' hgrow _ _
      have hown2 : w'.ownsRow base 25 5 (.slice (some ⟨gg, 0, none⟩) ms.length cap) ms.length (clOus ms) := by
        have := hown'
        rw [Nat.zero_add, List.nil_append] at this
        exact this
      have hO : OwnR base w' gg cap ms := by
        rcases hown2.2 with ⟨e, _⟩ | ⟨g, cap2, cur, e, h1, h2, h3, h4, h5, h6⟩
        · cases e
        · simp only [Value.slice.injEq, Option.some.injEq, Addr.mk.injEq, and_true, true_and] at e
          obtain ⟨rfl, rfl⟩ := e
          exact ⟨h1, ⟨cur, h2, h5, h6⟩, h3, by unfold maxLen at h4; omega⟩
      have := k gg cap w' hO ⟨hgrow.os, hgrow.tape, hgrow.output, hgrow.size, fun q hq => hgrow.block q (by omega) (fun e => by have := (hown.lt q e.symm).1; omega)⟩
      rw [Nat.zero_add]
      exact this
theorem wpList_copyO {ops : Array Oper} {rest : List Oper} {o : Oper} {a : Act} {Q : Exit → Act → World → Prop} {W : World} {base b : Nat} {xv : Value} {ms : List OutR} (hw : Region.wanted o (yielded ops a.tmps) = true) (s x : Operand)
    (ho : o.op = .call { callee := .builtin .append, args := #[s, x], argTypes := #[23, 23] })
    (hs : a.eval s = .slice (some ⟨b, 0, none⟩) 0 0) (hx : a.eval x = xv) (hown : W.ownsRow base 25 5 (.slice (some ⟨b, 0, none⟩) 0 0) 0 []) (hr : RowOu W xv ms) (hl : ms.length ≤ 1000000) (hbase : base ≤ W.heap.size)
    (k : ∀ g C w', OwnR base w' g C ms → Below base W w' → wpList Try.prog ops Q rest (a.put o.dst (.slice (some ⟨g, 0, none⟩) ms.length C)) w') : wpList Try.prog ops Q (o :: rest) a W :=
  BigFrame.wpList_want hw fun _ hK => wp_copyO s x ho hs hx hown hr hl hbase fun g C w' h1 h2 => hK _ _ (k g C w' h1 h2)
set_option maxRecDepth 100000 in
set_option maxHeartbeats 2000000 in
theorem cloneOu_any (ad : Addr) (Cp : Nat) (rs : List OutR) (w : World) (h : RowOu w (.slice (some ad) rs.length Cp) rs) (hl : rs.length ≤ 1000) :
    Calls Try.prog 28 #[.slice (some ad) rs.length Cp] w fun e w' => ∃ g C, e = .returned (.slice (some ⟨g, 0, none⟩) rs.length C) ∧ OwnR w.heap.size w' g C rs ∧ Below w.heap.size w w' := by
  have ha : Below w.heap.size w (w.alloc (.cells #[] 25)) := (Below.refl _ _).alloc (Nat.le_refl _) _
  have hown := own0Ou w (Nat.le_refl w.heap.size)
  have hrow := h.below ha
  have HA : Hid (Below w.heap.size w (w.alloc (.cells #[] 25))) := ha
  have he : ∀ w : World, (binOp .eql 23 (.slice (some ad) rs.length Cp) (.slice none 0 0)).run Try.prog w = .ok (.bool false) w := fun _ => rfl
  clear h ha
  go_enter Try.func28, Try.ntmps28
  go_wp2_with (first | (at_builtin; refine wpList_copyO (by rfl) _ _ rfl rfl rfl hown hrow (by omega) (by simp) ?_; intro g C w' hO hb))
  go_ret
  exact ⟨_, _, rfl, hO, HA.out.trans hb⟩
end Go.Proofs.Ytiakkpglnijapaa
