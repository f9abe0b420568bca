/- Lists of Event that the call makes by appends. -/
import Derived.Test.YtcdmnodhkgiaaaaDoorRowEv
import Derived.Laws.AppendOwn
import Derived.Maps.AppendAt
namespace Go.Proofs.YtcdmnodhkgiaaaaDoor
open Go.ChangeShapes Go.WideShapes Go.ChangeAt Go.RowKit
theorem infoEvA : (Tryd.prog.info? 39).map (fun i => (i.zero, i.size, i.bytes)) = some (some (.agg #[.int .i64 0, .string ⟨#[]⟩, .string ⟨#[]⟩, .string ⟨#[]⟩]), 4, 56) := by kernel_rfl
/-- Its cells, one behind the other. -/
def clEv (g : EvR) : List Value := [.int .i64 g.kind, .string g.a, .string g.b, .string g.c]
def clEvs (rs : List EvR) : List Value := rs.flatMap clEv
theorem clEvs_len (rs : List EvR) : (clEvs rs).length = rs.length * 4 := by
  induction rs with
  | nil => rfl
  | cons g r ih =>
    have : clEvs (g :: r) = clEv g ++ clEvs r := rfl
    rw [this, List.length_append, ih, List.length_cons]
    have : (clEv g).length = 4 := rfl
    omega
theorem clEvs_app (rs : List EvR) (g : EvR) : clEvs (rs ++ [g]) = clEvs rs ++ clEv g := by simp [clEvs]
theorem clEvs_at : ∀ {rs : List EvR} {i : Nat} {g : EvR}, rs[i]? = some g → (clEvs rs)[i * 4]? = some (.int .i64 g.kind) ∧ (clEvs rs)[i * 4 + 1]? = some (.string g.a) ∧ (clEvs rs)[i * 4 + 2]? = some (.string g.b) ∧ (clEvs rs)[i * 4 + 3]? = some (.string g.c)
  | [], i, g, h => by simp at h
  | x :: r, 0, g, h => by
    simp only [List.getElem?_cons_zero, Option.some.injEq] at h
    subst h
    refine ⟨rfl, rfl, rfl, rfl⟩
  | x :: r, i + 1, g, h => by
    rw [List.getElem?_cons_succ] at h
    obtain ⟨e0, e1, e2, e3⟩ := clEvs_at h
    have hc : clEvs (x :: r) = clEv x ++ clEvs r := rfl
    have hl : (clEv x).length = 4 := rfl
    refine ⟨?_, ?_, ?_, ?_⟩
    · rw [hc, List.getElem?_append_right (by omega), hl, ← e0]
      congr 1
      omega
    · rw [hc, List.getElem?_append_right (by omega), hl, ← e1]
      congr 1
      omega
    · rw [hc, List.getElem?_append_right (by omega), hl, ← e2]
      congr 1
      omega
    · rw [hc, List.getElem?_append_right (by omega), hl, ← e3]
      congr 1
      omega
/-- A list that the call has made by appends, read. -/
theorem LEv.of_owns {W : World} {base : Nat} {v : Value} {rs : List EvR} (h : W.ownsRow base 39 4 v rs.length (clEvs rs)) (hl : rs.length ≤ 9223372036854775807) (hz : ∀ (i : Nat) (g : EvR), rs[i]? = some g → g.a.size ≤ 9223372036854775807 ∧ g.b.size ≤ 9223372036854775807 ∧ g.c.size ≤ 9223372036854775807) : ∃ b, base ≤ b ∧ LEv b W v rs := by
  rcases h.2 with ⟨rfl, h0⟩ | ⟨b, cap, cur, rfl, hb, hh, hc, hm, hs, ht⟩
  · refine ⟨base, Nat.le_refl _, ⟨none, 0, by rw [h0], fun hn => absurd (List.eq_nil_of_length_eq_zero h0) hn⟩, hl, hz⟩
  · refine ⟨b, hb, ⟨_, _, rfl, fun _ => ⟨rfl, cap * 4, fun i => cur[i]?.getD undef, ⟨cur, hh, hs, fun i hi => by simp [hs, hi]⟩, Nat.mul_le_mul_right _ hc, fun i g hi => ?_⟩⟩, hl, hz⟩
    obtain ⟨e0, e1, e2, e3⟩ := clEvs_at hi
    have hlt := (List.getElem?_eq_some_iff.1 hi).1
    rw [← ht] at e0 e1 e2 e3
    have get : ∀ (j : Nat) (x : Value), j < rs.length * 4 → (cur.toList.take (rs.length * 4))[j]? = some x → cur[j]?.getD undef = x := fun j x hj hx => by
      rw [List.getElem?_take_of_lt hj, Array.getElem?_toList] at hx
      rw [hx]
      rfl
    exact ⟨get _ _ (by omega) e0, get _ _ (by omega) e1, get _ _ (by omega) e2, get _ _ (by omega) e3⟩
/-- An append of one, at the list of a plain region's operations. -/
theorem wpList_appEv {ops : Array Oper} {rest : List Oper} {o : Oper} {a : Act} {Q : Exit → Act → World → Prop} {W : World} {base c C : Nat} {lv : Value} {rs : List EvR} {g : EvR} (hgd : o.guard = none) (s x : Operand)
    (ho : o.op = .call { callee := .builtin .append, args := #[s, x], argTypes := #[25, 25] })
    (hs' : a.eval s = lv) (hx : a.eval x = .slice (some ⟨c, 0, none⟩) 1 C) (h : W.ownsRow base 39 4 lv rs.length (clEvs rs)) (hg : AtEv W c 0 g) (hl : rs.length + 1 ≤ 2000000) (hbase : base ≤ W.heap.size)
    (k : ∀ v' w', w'.ownsRow base 39 4 v' (rs ++ [g]).length (clEvs (rs ++ [g])) → W.grownBy w' lv.ownBlock → (∃ A C, v' = .slice A (rs ++ [g]).length C) → wpList Tryd.prog ops Q rest (a.put o.dst v') w') : wpList Tryd.prog ops Q (o :: rest) a W := by
  obtain ⟨i0, hi, hz0, hz1, hz2⟩ := info_parts infoEvA
  obtain ⟨q0, q1, q2, q3⟩ := hg
  refine wpList_append_own W hgd s x 25 ho base 39 i0 (.agg #[.int .i64 0, .string ⟨#[]⟩, .string ⟨#[]⟩, .string ⟨#[]⟩]) 4 56 Tryd.underlying25 hi hz0 hz1 hz2 rfl (by decide) lv rs.length (clEvs rs) hs' h ⟨c, 0, none⟩ 1 C (clEv g) hx rfl (fun j u hu => ?_) (fun u hu => ?_) (by unfold maxLen; omega) (by omega) hbase ?_
  · rw [fl_addr]
    have hj := (List.getElem?_eq_some_iff.1 hu).1
    have hj3 : j < 4 := hj
    match j, hj3 with
    | 0, _ =>
      cases hu
      simpa using q0
    | 1, _ =>
      cases hu
      simpa using q1
    | 2, _ =>
      cases hu
      simpa using q2
    | 3, _ =>
      cases hu
      simpa using q3
  · simp only [clEv, List.mem_cons, List.not_mem_nil, or_false] at hu
    rcases hu with rfl | rfl | rfl | rfl <;> rfl
  · intro v' w' hown hgrow hnil
    have e1 : (rs ++ [g]).length = rs.length + 1 := by simp
    have hown' : w'.ownsRow base 39 4 v' (rs ++ [g]).length (clEvs (rs ++ [g])) := by
      rw [e1, clEvs_app]
      exact hown
    refine k v' w' hown' hgrow ?_
    rcases hown'.2 with ⟨rfl, h0⟩ | ⟨b, cap, cur, rfl, _⟩
    · exact ⟨none, 0, by rw [h0]⟩
    · exact ⟨_, _, rfl⟩
theorem clEvs_get : ∀ {rs : List EvR} {j : Nat} {u : Value}, (clEvs rs)[j]? = some u → ∃ (i : Nat) (g : EvR), rs[i]? = some g ∧ ((j = i * 4 ∧ u = .int .i64 g.kind) ∨ (j = i * 4 + 1 ∧ u = .string g.a) ∨ (j = i * 4 + 2 ∧ u = .string g.b) ∨ (j = i * 4 + 3 ∧ u = .string g.c))
  | [], j, u, h => by simp [clEvs] at h
  | x :: r, j, u, h => by
    have hc : clEvs (x :: r) = clEv x ++ clEvs r := rfl
    have hl : (clEv x).length = 4 := rfl
    rw [hc] at h
    by_cases hj : j < 4
    · rw [List.getElem?_append_left (by omega)] at h
      refine ⟨0, x, rfl, ?_⟩
      match j, hj with
      | 0, _ => cases h; simp
      | 1, _ => cases h; simp
      | 2, _ => cases h; simp
      | 3, _ => cases h; simp
    · rw [List.getElem?_append_right (by omega), hl] at h
      obtain ⟨i, g, hg, ho⟩ := clEvs_get h
      refine ⟨i + 1, g, by simpa using hg, ?_⟩
      rcases ho with ⟨h1, h2⟩ | ⟨h1, h2⟩ | ⟨h1, h2⟩ | ⟨h1, h2⟩
      · exact .inl ⟨by omega, h2⟩
      · exact .inr (.inl ⟨by omega, h2⟩)
      · exact .inr (.inr (.inl ⟨by omega, h2⟩))
      · exact .inr (.inr (.inr (⟨by omega, h2⟩)))
/-- An append of a list, at the list of a plain region's operations. -/
theorem wpList_appsEv {ops : Array Oper} {rest : List Oper} {o : Oper} {a : Act} {Q : Exit → Act → World → Prop} {W : World} {base C : Nat} {lv : Value} {ad : Addr} {rs ms : List EvR} (hgd : o.guard = none) (s x : Operand)
    (ho : o.op = .call { callee := .builtin .append, args := #[s, x], argTypes := #[25, 25] })
    (hs' : a.eval s = lv) (hx : a.eval x = .slice (some ad) ms.length C) (h : W.ownsRow base 39 4 lv rs.length (clEvs rs)) (hg : RowEv W (.slice (some ad) ms.length C) ms) (hl : rs.length + ms.length ≤ 2000000) (hbase : base ≤ W.heap.size)
    (k : ∀ v' w', w'.ownsRow base 39 4 v' (rs ++ ms).length (clEvs (rs ++ ms)) → W.grownBy w' lv.ownBlock → (∃ A C, v' = .slice A (rs ++ ms).length C) → wpList Tryd.prog ops Q rest (a.put o.dst v') w') : wpList Tryd.prog ops Q (o :: rest) a W := by
  obtain ⟨i0, hi, hz0, hz1, hz2⟩ := info_parts infoEvA
  refine wpList_append_own W hgd s x 25 ho base 39 i0 (.agg #[.int .i64 0, .string ⟨#[]⟩, .string ⟨#[]⟩, .string ⟨#[]⟩]) 4 56 Tryd.underlying25 hi hz0 hz1 hz2 rfl (by decide) lv rs.length (clEvs rs) hs' h ad ms.length C (clEvs ms) hx (clEvs_len ms) (fun j u hu => ?_) (fun u hu => ?_) (by unfold maxLen; omega) (by omega) hbase ?_
  · obtain ⟨i, g, hg', ho'⟩ := clEvs_get hu
    obtain ⟨a', cap, e, hc⟩ := hg.shape
    simp only [Value.slice.injEq] at e
    obtain ⟨b, o', ea, hcell⟩ := hc (by intro e2; rw [e2] at hg'; simp at hg')
    rw [← e.1] at ea
    cases ea
    obtain ⟨q0, q1, q2, q3⟩ := hcell i g hg'
    rw [fl_addr]
    rcases ho' with ⟨rfl, rfl⟩ | ⟨rfl, rfl⟩ | ⟨rfl, rfl⟩ | ⟨rfl, rfl⟩
    · first | exact q0 | (rw [← q0]; congr 2; omega)
    · first | exact q1 | (rw [← q1]; congr 2; omega)
    · first | exact q2 | (rw [← q2]; congr 2; omega)
    · first | exact q3 | (rw [← q3]; congr 2; omega)
  · obtain ⟨j, hj⟩ := List.getElem?_of_mem hu
    obtain ⟨i, g, _, ho'⟩ := clEvs_get hj
    rcases ho' with ⟨_, rfl⟩ | ⟨_, rfl⟩ | ⟨_, rfl⟩ | ⟨_, rfl⟩ <;> rfl
  · intro v' w' hown hgrow hnil
    have e1 : (rs ++ ms).length = rs.length + ms.length := by simp
    have e2 : clEvs (rs ++ ms) = clEvs rs ++ clEvs ms := by simp [clEvs]
    have hown' : w'.ownsRow base 39 4 v' (rs ++ ms).length (clEvs (rs ++ ms)) := by
      rw [e1, e2]
      exact hown
    refine k v' w' hown' hgrow ?_
    rcases hown'.2 with ⟨rfl, h0⟩ | ⟨b, cap, cur, rfl, _⟩
    · exact ⟨none, 0, by rw [h0]⟩
    · exact ⟨_, _, rfl⟩
end Go.Proofs.YtcdmnodhkgiaaaaDoor
