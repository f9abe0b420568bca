/- Lists of Stock that the call makes by appends. -/
import Derived.Test.YtiaclnldeimbhaaRowSt
import Derived.Laws.AppendOwn
import Derived.Maps.AppendAt
namespace Go.Proofs.Ytiaclnldeimbhaa
open Go.ChangeShapes Go.WideShapes Go.ChangeAt Go.RowKit
theorem infoStA : (Try.prog.info? 49).map (fun i => (i.zero, i.size, i.bytes)) = some (some (.agg #[.string ⟨#[]⟩, .int .i64 0]), 2, 24) := by kernel_rfl
/-- Its cells, one behind the other. -/
def clSt (g : Stk) : List Value := [.string g.item, .int .i64 g.hand]
def clSts (rs : List Stk) : List Value := rs.flatMap clSt
theorem clSts_len (rs : List Stk) : (clSts rs).length = rs.length * 2 := by
  induction rs with
  | nil => rfl
  | cons g r ih =>
    have : clSts (g :: r) = clSt g ++ clSts r := rfl
    rw [this, List.length_append, ih, List.length_cons]
    have : (clSt g).length = 2 := rfl
    omega
theorem clSts_app (rs : List Stk) (g : Stk) : clSts (rs ++ [g]) = clSts rs ++ clSt g := by simp [clSts]
theorem clSts_at : ∀ {rs : List Stk} {i : Nat} {g : Stk}, rs[i]? = some g → (clSts rs)[i * 2]? = some (.string g.item) ∧ (clSts rs)[i * 2 + 1]? = some (.int .i64 g.hand)
  | [], i, g, h => by simp at h
  | x :: r, 0, g, h => by
    simp only [List.getElem?_cons_zero, Option.some.injEq] at h
    subst h
    refine ⟨rfl, rfl⟩
  | x :: r, i + 1, g, h => by
    rw [List.getElem?_cons_succ] at h
    obtain ⟨e0, e1⟩ := clSts_at h
    have hc : clSts (x :: r) = clSt x ++ clSts r := rfl
    have hl : (clSt x).length = 2 := rfl
    refine ⟨?_, ?_⟩
    · rw [hc, List.getElem?_append_right (by omega), hl, ← e0]
      congr 1
      omega
    · rw [hc, List.getElem?_append_right (by omega), hl, ← e1]
      congr 1
      omega
/-- A list that the call has made by appends, read. -/
theorem LSt.of_owns {W : World} {base : Nat} {v : Value} {rs : List Stk} (h : W.ownsRow base 49 2 v rs.length (clSts rs)) (hl : rs.length ≤ 9223372036854775807) (hz : ∀ (i : Nat) (g : Stk), rs[i]? = some g → g.item.size ≤ 9223372036854775807) : ∃ b, base ≤ b ∧ LSt b W v rs := by
  rcases h.2 with ⟨rfl, h0⟩ | ⟨b, cap, cur, rfl, hb, hh, hc, hm, hs, ht⟩
  · refine ⟨base, Nat.le_refl _, ⟨none, 0, by rw [h0], fun hn => absurd (List.eq_nil_of_length_eq_zero h0) hn⟩, hl, hz⟩
  · refine ⟨b, hb, ⟨_, _, rfl, fun _ => ⟨rfl, cap * 2, fun i => cur[i]?.getD undef, ⟨cur, hh, hs, fun i hi => by simp [hs, hi]⟩, Nat.mul_le_mul_right _ hc, fun i g hi => ?_⟩⟩, hl, hz⟩
    obtain ⟨e0, e1⟩ := clSts_at hi
    have hlt := (List.getElem?_eq_some_iff.1 hi).1
    rw [← ht] at e0 e1
    have get : ∀ (j : Nat) (x : Value), j < rs.length * 2 → (cur.toList.take (rs.length * 2))[j]? = some x → cur[j]?.getD undef = x := fun j x hj hx => by
      rw [List.getElem?_take_of_lt hj, Array.getElem?_toList] at hx
      rw [hx]
      rfl
    exact ⟨get _ _ (by omega) e0, get _ _ (by omega) e1⟩
/-- An append of one, at the list of a plain region's operations. -/
theorem wpList_appSt {ops : Array Oper} {rest : List Oper} {o : Oper} {a : Act} {Q : Exit → Act → World → Prop} {W : World} {base c C : Nat} {lv : Value} {rs : List Stk} {g : Stk} (hgd : o.guard = none) (s x : Operand)
    (ho : o.op = .call { callee := .builtin .append, args := #[s, x], argTypes := #[23, 23] })
    (hs' : a.eval s = lv) (hx : a.eval x = .slice (some ⟨c, 0, none⟩) 1 C) (h : W.ownsRow base 49 2 lv rs.length (clSts rs)) (hg : AtSt W c 0 g) (hl : rs.length + 1 ≤ 2000000) (hbase : base ≤ W.heap.size)
    (k : ∀ v' w', w'.ownsRow base 49 2 v' (rs ++ [g]).length (clSts (rs ++ [g])) → W.grownBy w' lv.ownBlock → (∃ A C, v' = .slice A (rs ++ [g]).length C) → wpList Try.prog ops Q rest (a.put o.dst v') w') : wpList Try.prog ops Q (o :: rest) a W := by
  obtain ⟨i0, hi, hz0, hz1, hz2⟩ := info_parts infoStA
  obtain ⟨q0, q1⟩ := hg
  refine wpList_append_own W hgd s x 23 ho base 49 i0 (.agg #[.string ⟨#[]⟩, .int .i64 0]) 2 24 Try.underlying23 hi hz0 hz1 hz2 rfl (by decide) lv rs.length (clSts rs) hs' h ⟨c, 0, none⟩ 1 C (clSt g) hx rfl (fun j u hu => ?_) (fun u hu => ?_) (by unfold maxLen; omega) (by omega) hbase ?_
  · rw [fl_addr]
    have hj := (List.getElem?_eq_some_iff.1 hu).1
    have hj3 : j < 2 := hj
    match j, hj3 with
    | 0, _ =>
      cases hu
      simpa using q0
    | 1, _ =>
      cases hu
      simpa using q1
  · simp only [clSt, List.mem_cons, List.not_mem_nil, or_false] at hu
    rcases hu with rfl | rfl <;> rfl
  · intro v' w' hown hgrow hnil
    have e1 : (rs ++ [g]).length = rs.length + 1 := by simp
    have hown' : w'.ownsRow base 49 2 v' (rs ++ [g]).length (clSts (rs ++ [g])) := by
      rw [e1, clSts_app]
      exact hown
    refine k v' w' hown' hgrow ?_
    rcases hown'.2 with ⟨rfl, h0⟩ | ⟨b, cap, cur, rfl, _⟩
    · exact ⟨none, 0, by rw [h0]⟩
    · exact ⟨_, _, rfl⟩
theorem clSts_get : ∀ {rs : List Stk} {j : Nat} {u : Value}, (clSts rs)[j]? = some u → ∃ (i : Nat) (g : Stk), rs[i]? = some g ∧ ((j = i * 2 ∧ u = .string g.item) ∨ (j = i * 2 + 1 ∧ u = .int .i64 g.hand))
  | [], j, u, h => by simp [clSts] at h
  | x :: r, j, u, h => by
    have hc : clSts (x :: r) = clSt x ++ clSts r := rfl
    have hl : (clSt x).length = 2 := rfl
    rw [hc] at h
    by_cases hj : j < 2
    · rw [List.getElem?_append_left (by omega)] at h
      refine ⟨0, x, rfl, ?_⟩
      match j, hj with
      | 0, _ => cases h; simp
      | 1, _ => cases h; simp
    · rw [List.getElem?_append_right (by omega), hl] at h
      obtain ⟨i, g, hg, ho⟩ := clSts_get h
      refine ⟨i + 1, g, by simpa using hg, ?_⟩
      rcases ho with ⟨h1, h2⟩ | ⟨h1, h2⟩
      · exact .inl ⟨by omega, h2⟩
      · exact .inr (⟨by omega, h2⟩)
/-- An append of a list, at the list of a plain region's operations. -/
theorem wpList_appsSt {ops : Array Oper} {rest : List Oper} {o : Oper} {a : Act} {Q : Exit → Act → World → Prop} {W : World} {base C : Nat} {lv : Value} {ad : Addr} {rs ms : List Stk} (hgd : o.guard = none) (s x : Operand)
    (ho : o.op = .call { callee := .builtin .append, args := #[s, x], argTypes := #[23, 23] })
    (hs' : a.eval s = lv) (hx : a.eval x = .slice (some ad) ms.length C) (h : W.ownsRow base 49 2 lv rs.length (clSts rs)) (hg : RowSt W (.slice (some ad) ms.length C) ms) (hl : rs.length + ms.length ≤ 2000000) (hbase : base ≤ W.heap.size)
    (k : ∀ v' w', w'.ownsRow base 49 2 v' (rs ++ ms).length (clSts (rs ++ ms)) → W.grownBy w' lv.ownBlock → (∃ A C, v' = .slice A (rs ++ ms).length C) → wpList Try.prog ops Q rest (a.put o.dst v') w') : wpList Try.prog ops Q (o :: rest) a W := by
  obtain ⟨i0, hi, hz0, hz1, hz2⟩ := info_parts infoStA
  refine wpList_append_own W hgd s x 23 ho base 49 i0 (.agg #[.string ⟨#[]⟩, .int .i64 0]) 2 24 Try.underlying23 hi hz0 hz1 hz2 rfl (by decide) lv rs.length (clSts rs) hs' h ad ms.length C (clSts ms) hx (clSts_len ms) (fun j u hu => ?_) (fun u hu => ?_) (by unfold maxLen; omega) (by omega) hbase ?_
  · obtain ⟨i, g, hg', ho'⟩ := clSts_get hu
    obtain ⟨a', cap, e, hc⟩ := hg.shape
    simp only [Value.slice.injEq] at e
    obtain ⟨b, o', ea, hcell⟩ := hc (by intro e2; rw [e2] at hg'; simp at hg')
    rw [← e.1] at ea
    cases ea
    obtain ⟨q0, q1⟩ := hcell i g hg'
    rw [fl_addr]
    rcases ho' with ⟨rfl, rfl⟩ | ⟨rfl, rfl⟩
    · first | exact q0 | (rw [← q0]; congr 2; omega)
    · first | exact q1 | (rw [← q1]; congr 2; omega)
  · obtain ⟨j, hj⟩ := List.getElem?_of_mem hu
    obtain ⟨i, g, _, ho'⟩ := clSts_get hj
    rcases ho' with ⟨_, rfl⟩ | ⟨_, rfl⟩ <;> rfl
  · intro v' w' hown hgrow hnil
    have e1 : (rs ++ ms).length = rs.length + ms.length := by simp
    have e2 : clSts (rs ++ ms) = clSts rs ++ clSts ms := by simp [clSts]
    have hown' : w'.ownsRow base 49 2 v' (rs ++ ms).length (clSts (rs ++ ms)) := by
      rw [e1, e2]
      exact hown
    refine k v' w' hown' hgrow ?_
    rcases hown'.2 with ⟨rfl, h0⟩ | ⟨b, cap, cur, rfl, _⟩
    · exact ⟨none, 0, by rw [h0]⟩
    · exact ⟨_, _, rfl⟩
end Go.Proofs.Ytiaclnldeimbhaa
