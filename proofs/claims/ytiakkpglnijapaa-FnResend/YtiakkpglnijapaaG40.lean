/- Texts of ours put together: AppSe. -/
import Derived.Test.YtiakkpglnijapaaG11
import Derived.Laws.AppendOwn
import Derived.Maps.AppendAt
namespace Go.Proofs.Ytiakkpglnijapaa
open Go.ChangeShapes Go.WideShapes Go.ChangeAt Go.RowKit
theorem infoSeA : (Try.prog.info? 66).map (fun i => (i.zero, i.size, i.bytes)) = some (some (.agg #[.string ⟨#[]⟩, .int .i64 0, .string ⟨#[]⟩]), 3, 40) := by kernel_rfl
/-- Its cells, one behind the other. -/
def clSe (g : SenR) : List Value := [.string g.partner, .int .i64 g.number, .string g.text]
def clSes (rs : List SenR) : List Value := rs.flatMap clSe
theorem clSes_len (rs : List SenR) : (clSes rs).length = rs.length * 3 := by
  induction rs with
  | nil => rfl
  | cons g r ih =>
    have : clSes (g :: r) = clSe g ++ clSes r := rfl
    rw [this, List.length_append, ih, List.length_cons]
    have : (clSe g).length = 3 := rfl
    omega
theorem clSes_app (rs : List SenR) (g : SenR) : clSes (rs ++ [g]) = clSes rs ++ clSe g := by simp [clSes]
theorem clSes_at : ∀ {rs : List SenR} {i : Nat} {g : SenR}, rs[i]? = some g → (clSes rs)[i * 3]? = some (.string g.partner) ∧ (clSes rs)[i * 3 + 1]? = some (.int .i64 g.number) ∧ (clSes rs)[i * 3 + 2]? = some (.string g.text)
  | [], i, g, h => by simp at h
  | x :: r, 0, g, h => by
    simp only [List.getElem?_cons_zero, Option.some.injEq] at h
    subst h
    refine ⟨rfl, rfl, rfl⟩
  | x :: r, i + 1, g, h => by
    rw [List.getElem?_cons_succ] at h
    obtain ⟨e0, e1, e2⟩ := clSes_at h
    have hc : clSes (x :: r) = clSe x ++ clSes r := rfl
    have hl : (clSe x).length = 3 := rfl
    refine ⟨?_, ?_, ?_⟩
    · rw [hc, List.getElem?_append_right (by omega), hl, ← e0]
      congr 1
      omega
    · rw [hc, List.getElem?_append_right (by omega), hl, ← e1]
      congr 1
      omega
    · rw [hc, List.getElem?_append_right (by omega), hl, ← e2]
      congr 1
      omega
/-- A list that the call has made by appends, read. -/
theorem LSe.of_owns {W : World} {base : Nat} {v : Value} {rs : List SenR} (h : W.ownsRow base 66 3 v rs.length (clSes rs)) (hl : rs.length ≤ 9223372036854775807) (hz : ∀ (i : Nat) (g : SenR), rs[i]? = some g → g.partner.size ≤ 9223372036854775807 ∧ g.text.size ≤ 9223372036854775807) : ∃ b, base ≤ b ∧ LSe b W v rs := by
  rcases h.2 with ⟨rfl, h0⟩ | ⟨b, cap, cur, rfl, hb, hh, hc, hm, hs, ht⟩
  · refine ⟨base, Nat.le_refl _, ⟨none, 0, by rw [h0], fun hn => absurd (List.eq_nil_of_length_eq_zero h0) hn⟩, hl, hz⟩
  · refine ⟨b, hb, ⟨_, _, rfl, fun _ => ⟨rfl, cap * 3, fun i => cur[i]?.getD undef, ⟨cur, hh, hs, fun i hi => by simp [hs, hi]⟩, Nat.mul_le_mul_right _ hc, fun i g hi => ?_⟩⟩, hl, hz⟩
    obtain ⟨e0, e1, e2⟩ := clSes_at hi
    have hlt := (List.getElem?_eq_some_iff.1 hi).1
    rw [← ht] at e0 e1 e2
    have get : ∀ (j : Nat) (x : Value), j < rs.length * 3 → (cur.toList.take (rs.length * 3))[j]? = some x → cur[j]?.getD undef = x := fun j x hj hx => by
      rw [List.getElem?_take_of_lt hj, Array.getElem?_toList] at hx
      rw [hx]
      rfl
    exact ⟨get _ _ (by omega) e0, get _ _ (by omega) e1, get _ _ (by omega) e2⟩
/-- An append of one, at the list of a plain region's operations. -/
theorem wpList_appSe {ops : Array Oper} {rest : List Oper} {o : Oper} {a : Act} {Q : Exit → Act → World → Prop} {W : World} {base c C : Nat} {lv : Value} {rs : List SenR} {g : SenR} (hgd : o.guard = none) (s x : Operand)
    (ho : o.op = .call { callee := .builtin .append, args := #[s, x], argTypes := #[28, 28] })
    (hs' : a.eval s = lv) (hx : a.eval x = .slice (some ⟨c, 0, none⟩) 1 C) (h : W.ownsRow base 66 3 lv rs.length (clSes rs)) (hg : AtSe W c 0 g) (hl : rs.length + 1 ≤ 2000000) (hbase : base ≤ W.heap.size)
    (k : ∀ v' w', w'.ownsRow base 66 3 v' (rs ++ [g]).length (clSes (rs ++ [g])) → W.grownBy w' lv.ownBlock → (∃ A C, v' = .slice A (rs ++ [g]).length C) → wpList Try.prog ops Q rest (a.put o.dst v') w') : wpList Try.prog ops Q (o :: rest) a W := by
  obtain ⟨i0, hi, hz0, hz1, hz2⟩ := info_parts infoSeA
  obtain ⟨q0, q1, q2⟩ := hg
  refine wpList_append_own W hgd s x 28 ho base 66 i0 (.agg #[.string ⟨#[]⟩, .int .i64 0, .string ⟨#[]⟩]) 3 40 Try.underlying28 hi hz0 hz1 hz2 rfl (by decide) lv rs.length (clSes rs) hs' h ⟨c, 0, none⟩ 1 C (clSe g) hx rfl (fun j u hu => ?_) (fun u hu => ?_) (by unfold maxLen; omega) (by omega) hbase ?_
  · rw [fl_addr]
    have hj := (List.getElem?_eq_some_iff.1 hu).1
    have hj3 : j < 3 := hj
    match j, hj3 with
    | 0, _ =>
      cases hu
      simpa using q0
    | 1, _ =>
      cases hu
      simpa using q1
    | 2, _ =>
      cases hu
      simpa using q2
  · simp only [clSe, List.mem_cons, List.not_mem_nil, or_false] at hu
    rcases hu with rfl | rfl | rfl <;> rfl
  · intro v' w' hown hgrow hnil
    have e1 : (rs ++ [g]).length = rs.length + 1 := by simp
    have hown' : w'.ownsRow base 66 3 v' (rs ++ [g]).length (clSes (rs ++ [g])) := by
      rw [e1, clSes_app]
      exact hown
    refine k v' w' hown' hgrow ?_
    rcases hown'.2 with ⟨rfl, h0⟩ | ⟨b, cap, cur, rfl, _⟩
    · exact ⟨none, 0, by rw [h0]⟩
    · exact ⟨_, _, rfl⟩
theorem clSes_get : ∀ {rs : List SenR} {j : Nat} {u : Value}, (clSes rs)[j]? = some u → ∃ (i : Nat) (g : SenR), rs[i]? = some g ∧ ((j = i * 3 ∧ u = .string g.partner) ∨ (j = i * 3 + 1 ∧ u = .int .i64 g.number) ∨ (j = i * 3 + 2 ∧ u = .string g.text))
  | [], j, u, h => by simp [clSes] at h
  | x :: r, j, u, h => by
    have hc : clSes (x :: r) = clSe x ++ clSes r := rfl
    have hl : (clSe x).length = 3 := rfl
    rw [hc] at h
    by_cases hj : j < 3
    · rw [List.getElem?_append_left (by omega)] at h
      refine ⟨0, x, rfl, ?_⟩
      match j, hj with
      | 0, _ => cases h; simp
      | 1, _ => cases h; simp
      | 2, _ => cases h; simp
    · rw [List.getElem?_append_right (by omega), hl] at h
      obtain ⟨i, g, hg, ho⟩ := clSes_get h
      refine ⟨i + 1, g, by simpa using hg, ?_⟩
      rcases ho with ⟨h1, h2⟩ | ⟨h1, h2⟩ | ⟨h1, h2⟩
      · exact .inl ⟨by omega, h2⟩
      · exact .inr (.inl ⟨by omega, h2⟩)
      · exact .inr (.inr (⟨by omega, h2⟩))
/-- An append of a list, at the list of a plain region's operations. -/
theorem wpList_appsSe {ops : Array Oper} {rest : List Oper} {o : Oper} {a : Act} {Q : Exit → Act → World → Prop} {W : World} {base C : Nat} {lv : Value} {ad : Addr} {rs ms : List SenR} (hgd : o.guard = none) (s x : Operand)
    (ho : o.op = .call { callee := .builtin .append, args := #[s, x], argTypes := #[28, 28] })
    (hs' : a.eval s = lv) (hx : a.eval x = .slice (some ad) ms.length C) (h : W.ownsRow base 66 3 lv rs.length (clSes rs)) (hg : RowSe W (.slice (some ad) ms.length C) ms) (hl : rs.length + ms.length ≤ 2000000) (hbase : base ≤ W.heap.size)
    (k : ∀ v' w', w'.ownsRow base 66 3 v' (rs ++ ms).length (clSes (rs ++ ms)) → W.grownBy w' lv.ownBlock → (∃ A C, v' = .slice A (rs ++ ms).length C) → wpList Try.prog ops Q rest (a.put o.dst v') w') : wpList Try.prog ops Q (o :: rest) a W := by
  obtain ⟨i0, hi, hz0, hz1, hz2⟩ := info_parts infoSeA
  refine wpList_append_own W hgd s x 28 ho base 66 i0 (.agg #[.string ⟨#[]⟩, .int .i64 0, .string ⟨#[]⟩]) 3 40 Try.underlying28 hi hz0 hz1 hz2 rfl (by decide) lv rs.length (clSes rs) hs' h ad ms.length C (clSes ms) hx (clSes_len ms) (fun j u hu => ?_) (fun u hu => ?_) (by unfold maxLen; omega) (by omega) hbase ?_
  · obtain ⟨i, g, hg', ho'⟩ := clSes_get hu
    obtain ⟨a', cap, e, hc⟩ := hg.shape
    simp only [Value.slice.injEq] at e
    obtain ⟨b, o', ea, hcell⟩ := hc (by intro e2; rw [e2] at hg'; simp at hg')
    rw [← e.1] at ea
    cases ea
    obtain ⟨q0, q1, q2⟩ := hcell i g hg'
    rw [fl_addr]
    rcases ho' with ⟨rfl, rfl⟩ | ⟨rfl, rfl⟩ | ⟨rfl, rfl⟩
    · first | exact q0 | (rw [← q0]; congr 2; omega)
    · first | exact q1 | (rw [← q1]; congr 2; omega)
    · first | exact q2 | (rw [← q2]; congr 2; omega)
  · obtain ⟨j, hj⟩ := List.getElem?_of_mem hu
    obtain ⟨i, g, _, ho'⟩ := clSes_get hj
    rcases ho' with ⟨_, rfl⟩ | ⟨_, rfl⟩ | ⟨_, rfl⟩ <;> rfl
  · intro v' w' hown hgrow hnil
    have e1 : (rs ++ ms).length = rs.length + ms.length := by simp
    have e2 : clSes (rs ++ ms) = clSes rs ++ clSes ms := by simp [clSes]
    have hown' : w'.ownsRow base 66 3 v' (rs ++ ms).length (clSes (rs ++ ms)) := by
      rw [e1, e2]
      exact hown
    refine k v' w' hown' hgrow ?_
    rcases hown'.2 with ⟨rfl, h0⟩ | ⟨b, cap, cur, rfl, _⟩
    · exact ⟨none, 0, by rw [h0]⟩
    · exact ⟨_, _, rfl⟩
end Go.Proofs.Ytiakkpglnijapaa
