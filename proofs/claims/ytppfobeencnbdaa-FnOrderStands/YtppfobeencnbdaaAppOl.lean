/- Lists of OrderLine that the call makes by appends. -/
import Derived.Test.YtppfobeencnbdaaRowOl
import Derived.Laws.AppendOwn
import Derived.Maps.AppendAt
namespace Go.Proofs.Ytppfobeencnbdaa
open Go.ChangeShapes Go.WideShapes Go.ChangeAt Go.RowKit
theorem infoOlA : (Try.prog.info? 31).map (fun i => (i.zero, i.size, i.bytes)) = some (some (.agg #[.string ⟨#[]⟩, .string ⟨#[]⟩, .int .i64 0, .string ⟨#[]⟩, .int .i64 0, .int .i64 0, .int .i64 0, .int .i64 0]), 8, 88) := by kernel_rfl
/-- Its cells, one behind the other. -/
def clOl (g : OLn) : List Value := [.string g.partner, .string g.ref, .int .i64 g.no, .string g.item, .int .i64 g.ordered, .int .i64 g.sent, .int .i64 g.got, .int .i64 g.cut]
def clOls (rs : List OLn) : List Value := rs.flatMap clOl
theorem clOls_len (rs : List OLn) : (clOls rs).length = rs.length * 8 := by
  induction rs with
  | nil => rfl
  | cons g r ih =>
    have : clOls (g :: r) = clOl g ++ clOls r := rfl
    rw [this, List.length_append, ih, List.length_cons]
    have : (clOl g).length = 8 := rfl
    omega
theorem clOls_app (rs : List OLn) (g : OLn) : clOls (rs ++ [g]) = clOls rs ++ clOl g := by simp [clOls]
theorem clOls_at : ∀ {rs : List OLn} {i : Nat} {g : OLn}, rs[i]? = some g → (clOls rs)[i * 8]? = some (.string g.partner) ∧ (clOls rs)[i * 8 + 1]? = some (.string g.ref) ∧ (clOls rs)[i * 8 + 2]? = some (.int .i64 g.no) ∧ (clOls rs)[i * 8 + 3]? = some (.string g.item) ∧ (clOls rs)[i * 8 + 4]? = some (.int .i64 g.ordered) ∧ (clOls rs)[i * 8 + 5]? = some (.int .i64 g.sent) ∧ (clOls rs)[i * 8 + 6]? = some (.int .i64 g.got) ∧ (clOls rs)[i * 8 + 7]? = some (.int .i64 g.cut)
  | [], i, g, h => by simp at h
  | x :: r, 0, g, h => by
    simp only [List.getElem?_cons_zero, Option.some.injEq] at h
    subst h
    refine ⟨rfl, rfl, rfl, rfl, rfl, rfl, rfl, rfl⟩
  | x :: r, i + 1, g, h => by
    rw [List.getElem?_cons_succ] at h
    obtain ⟨e0, e1, e2, e3, e4, e5, e6, e7⟩ := clOls_at h
    have hc : clOls (x :: r) = clOl x ++ clOls r := rfl
    have hl : (clOl x).length = 8 := rfl
    refine ⟨?_, ?_, ?_, ?_, ?_, ?_, ?_, ?_⟩
    · rw [hc, List.getElem?_append_right (by omega), hl, ← e0]
      congr 1
      omega
    · rw [hc, List.getElem?_append_right (by omega), hl, ← e1]
      congr 1
      omega
    · rw [hc, List.getElem?_append_right (by omega), hl, ← e2]
      congr 1
      omega
    · rw [hc, List.getElem?_append_right (by omega), hl, ← e3]
      congr 1
      omega
    · rw [hc, List.getElem?_append_right (by omega), hl, ← e4]
      congr 1
      omega
    · rw [hc, List.getElem?_append_right (by omega), hl, ← e5]
      congr 1
      omega
    · rw [hc, List.getElem?_append_right (by omega), hl, ← e6]
      congr 1
      omega
    · rw [hc, List.getElem?_append_right (by omega), hl, ← e7]
      congr 1
      omega
/-- A list that the call has made by appends, read. -/
theorem LOl.of_owns {W : World} {base : Nat} {v : Value} {rs : List OLn} (h : W.ownsRow base 31 8 v rs.length (clOls rs)) (hl : rs.length ≤ 9223372036854775807) (hz : ∀ (i : Nat) (g : OLn), rs[i]? = some g → g.partner.size ≤ 9223372036854775807 ∧ g.ref.size ≤ 9223372036854775807 ∧ g.item.size ≤ 9223372036854775807) : ∃ b, base ≤ b ∧ LOl b W v rs := by
  rcases h.2 with ⟨rfl, h0⟩ | ⟨b, cap, cur, rfl, hb, hh, hc, hm, hs, ht⟩
  · refine ⟨base, Nat.le_refl _, ⟨none, 0, by rw [h0], fun hn => absurd (List.eq_nil_of_length_eq_zero h0) hn⟩, hl, hz⟩
  · refine ⟨b, hb, ⟨_, _, rfl, fun _ => ⟨rfl, cap * 8, fun i => cur[i]?.getD undef, ⟨cur, hh, hs, fun i hi => by simp [hs, hi]⟩, Nat.mul_le_mul_right _ hc, fun i g hi => ?_⟩⟩, hl, hz⟩
    obtain ⟨e0, e1, e2, e3, e4, e5, e6, e7⟩ := clOls_at hi
    have hlt := (List.getElem?_eq_some_iff.1 hi).1
    rw [← ht] at e0 e1 e2 e3 e4 e5 e6 e7
    have get : ∀ (j : Nat) (x : Value), j < rs.length * 8 → (cur.toList.take (rs.length * 8))[j]? = some x → cur[j]?.getD undef = x := fun j x hj hx => by
      rw [List.getElem?_take_of_lt hj, Array.getElem?_toList] at hx
      rw [hx]
      rfl
    exact ⟨get _ _ (by omega) e0, get _ _ (by omega) e1, get _ _ (by omega) e2, get _ _ (by omega) e3, get _ _ (by omega) e4, get _ _ (by omega) e5, get _ _ (by omega) e6, get _ _ (by omega) e7⟩
/-- An append of one, at the list of a plain region's operations. -/
theorem wpList_appOl {ops : Array Oper} {rest : List Oper} {o : Oper} {a : Act} {Q : Exit → Act → World → Prop} {W : World} {base c C : Nat} {lv : Value} {rs : List OLn} {g : OLn} (hgd : o.guard = none) (s x : Operand)
    (ho : o.op = .call { callee := .builtin .append, args := #[s, x], argTypes := #[23, 23] })
    (hs' : a.eval s = lv) (hx : a.eval x = .slice (some ⟨c, 0, none⟩) 1 C) (h : W.ownsRow base 31 8 lv rs.length (clOls rs)) (hg : AtOl W c 0 g) (hl : rs.length + 1 ≤ 2000000) (hbase : base ≤ W.heap.size)
    (k : ∀ v' w', w'.ownsRow base 31 8 v' (rs ++ [g]).length (clOls (rs ++ [g])) → W.grownBy w' lv.ownBlock → (∃ A C, v' = .slice A (rs ++ [g]).length C) → wpList Try.prog ops Q rest (a.put o.dst v') w') : wpList Try.prog ops Q (o :: rest) a W := by
  obtain ⟨i0, hi, hz0, hz1, hz2⟩ := info_parts infoOlA
  obtain ⟨q0, q1, q2, q3, q4, q5, q6, q7⟩ := hg
  refine wpList_append_own W hgd s x 23 ho base 31 i0 (.agg #[.string ⟨#[]⟩, .string ⟨#[]⟩, .int .i64 0, .string ⟨#[]⟩, .int .i64 0, .int .i64 0, .int .i64 0, .int .i64 0]) 8 88 Try.underlying23 hi hz0 hz1 hz2 rfl (by decide) lv rs.length (clOls rs) hs' h ⟨c, 0, none⟩ 1 C (clOl g) hx rfl (fun j u hu => ?_) (fun u hu => ?_) (by unfold maxLen; omega) (by omega) hbase ?_
  · rw [fl_addr]
    have hj := (List.getElem?_eq_some_iff.1 hu).1
    have hj3 : j < 8 := hj
    match j, hj3 with
    | 0, _ =>
      cases hu
      simpa using q0
    | 1, _ =>
      cases hu
      simpa using q1
    | 2, _ =>
      cases hu
      simpa using q2
    | 3, _ =>
      cases hu
      simpa using q3
    | 4, _ =>
      cases hu
      simpa using q4
    | 5, _ =>
      cases hu
      simpa using q5
    | 6, _ =>
      cases hu
      simpa using q6
    | 7, _ =>
      cases hu
      simpa using q7
  · simp only [clOl, List.mem_cons, List.not_mem_nil, or_false] at hu
    rcases hu with rfl | rfl | rfl | rfl | rfl | rfl | rfl | rfl <;> rfl
  · intro v' w' hown hgrow hnil
    have e1 : (rs ++ [g]).length = rs.length + 1 := by simp
    have hown' : w'.ownsRow base 31 8 v' (rs ++ [g]).length (clOls (rs ++ [g])) := by
      rw [e1, clOls_app]
      exact hown
    refine k v' w' hown' hgrow ?_
    rcases hown'.2 with ⟨rfl, h0⟩ | ⟨b, cap, cur, rfl, _⟩
    · exact ⟨none, 0, by rw [h0]⟩
    · exact ⟨_, _, rfl⟩
theorem clOls_get : ∀ {rs : List OLn} {j : Nat} {u : Value}, (clOls rs)[j]? = some u → ∃ (i : Nat) (g : OLn), rs[i]? = some g ∧ ((j = i * 8 ∧ u = .string g.partner) ∨ (j = i * 8 + 1 ∧ u = .string g.ref) ∨ (j = i * 8 + 2 ∧ u = .int .i64 g.no) ∨ (j = i * 8 + 3 ∧ u = .string g.item) ∨ (j = i * 8 + 4 ∧ u = .int .i64 g.ordered) ∨ (j = i * 8 + 5 ∧ u = .int .i64 g.sent) ∨ (j = i * 8 + 6 ∧ u = .int .i64 g.got) ∨ (j = i * 8 + 7 ∧ u = .int .i64 g.cut))
  | [], j, u, h => by simp [clOls] at h
  | x :: r, j, u, h => by
    have hc : clOls (x :: r) = clOl x ++ clOls r := rfl
    have hl : (clOl x).length = 8 := rfl
    rw [hc] at h
    by_cases hj : j < 8
    · rw [List.getElem?_append_left (by omega)] at h
      refine ⟨0, x, rfl, ?_⟩
      match j, hj with
      | 0, _ => cases h; simp
      | 1, _ => cases h; simp
      | 2, _ => cases h; simp
      | 3, _ => cases h; simp
      | 4, _ => cases h; simp
      | 5, _ => cases h; simp
      | 6, _ => cases h; simp
      | 7, _ => cases h; simp
    · rw [List.getElem?_append_right (by omega), hl] at h
      obtain ⟨i, g, hg, ho⟩ := clOls_get h
      refine ⟨i + 1, g, by simpa using hg, ?_⟩
      rcases ho with ⟨h1, h2⟩ | ⟨h1, h2⟩ | ⟨h1, h2⟩ | ⟨h1, h2⟩ | ⟨h1, h2⟩ | ⟨h1, h2⟩ | ⟨h1, h2⟩ | ⟨h1, h2⟩
      · exact .inl ⟨by omega, h2⟩
      · exact .inr (.inl ⟨by omega, h2⟩)
      · exact .inr (.inr (.inl ⟨by omega, h2⟩))
      · exact .inr (.inr (.inr (.inl ⟨by omega, h2⟩)))
      · exact .inr (.inr (.inr (.inr (.inl ⟨by omega, h2⟩))))
      · exact .inr (.inr (.inr (.inr (.inr (.inl ⟨by omega, h2⟩)))))
      · exact .inr (.inr (.inr (.inr (.inr (.inr (.inl ⟨by omega, h2⟩))))))
      · exact .inr (.inr (.inr (.inr (.inr (.inr (.inr (⟨by omega, h2⟩)))))))
/-- An append of a list, at the list of a plain region's operations. -/
theorem wpList_appsOl {ops : Array Oper} {rest : List Oper} {o : Oper} {a : Act} {Q : Exit → Act → World → Prop} {W : World} {base C : Nat} {lv : Value} {ad : Addr} {rs ms : List OLn} (hgd : o.guard = none) (s x : Operand)
    (ho : o.op = .call { callee := .builtin .append, args := #[s, x], argTypes := #[23, 23] })
    (hs' : a.eval s = lv) (hx : a.eval x = .slice (some ad) ms.length C) (h : W.ownsRow base 31 8 lv rs.length (clOls rs)) (hg : RowOl W (.slice (some ad) ms.length C) ms) (hl : rs.length + ms.length ≤ 2000000) (hbase : base ≤ W.heap.size)
    (k : ∀ v' w', w'.ownsRow base 31 8 v' (rs ++ ms).length (clOls (rs ++ ms)) → W.grownBy w' lv.ownBlock → (∃ A C, v' = .slice A (rs ++ ms).length C) → wpList Try.prog ops Q rest (a.put o.dst v') w') : wpList Try.prog ops Q (o :: rest) a W := by
  obtain ⟨i0, hi, hz0, hz1, hz2⟩ := info_parts infoOlA
  refine wpList_append_own W hgd s x 23 ho base 31 i0 (.agg #[.string ⟨#[]⟩, .string ⟨#[]⟩, .int .i64 0, .string ⟨#[]⟩, .int .i64 0, .int .i64 0, .int .i64 0, .int .i64 0]) 8 88 Try.underlying23 hi hz0 hz1 hz2 rfl (by decide) lv rs.length (clOls rs) hs' h ad ms.length C (clOls ms) hx (clOls_len ms) (fun j u hu => ?_) (fun u hu => ?_) (by unfold maxLen; omega) (by omega) hbase ?_
  · obtain ⟨i, g, hg', ho'⟩ := clOls_get hu
    obtain ⟨a', cap, e, hc⟩ := hg.shape
    simp only [Value.slice.injEq] at e
    obtain ⟨b, o', ea, hcell⟩ := hc (by intro e2; rw [e2] at hg'; simp at hg')
    rw [← e.1] at ea
    cases ea
    obtain ⟨q0, q1, q2, q3, q4, q5, q6, q7⟩ := hcell i g hg'
    rw [fl_addr]
    rcases ho' with ⟨rfl, rfl⟩ | ⟨rfl, rfl⟩ | ⟨rfl, rfl⟩ | ⟨rfl, rfl⟩ | ⟨rfl, rfl⟩ | ⟨rfl, rfl⟩ | ⟨rfl, rfl⟩ | ⟨rfl, rfl⟩
    · first | exact q0 | (rw [← q0]; congr 2; omega)
    · first | exact q1 | (rw [← q1]; congr 2; omega)
    · first | exact q2 | (rw [← q2]; congr 2; omega)
    · first | exact q3 | (rw [← q3]; congr 2; omega)
    · first | exact q4 | (rw [← q4]; congr 2; omega)
    · first | exact q5 | (rw [← q5]; congr 2; omega)
    · first | exact q6 | (rw [← q6]; congr 2; omega)
    · first | exact q7 | (rw [← q7]; congr 2; omega)
  · obtain ⟨j, hj⟩ := List.getElem?_of_mem hu
    obtain ⟨i, g, _, ho'⟩ := clOls_get hj
    rcases ho' with ⟨_, rfl⟩ | ⟨_, rfl⟩ | ⟨_, rfl⟩ | ⟨_, rfl⟩ | ⟨_, rfl⟩ | ⟨_, rfl⟩ | ⟨_, rfl⟩ | ⟨_, rfl⟩ <;> rfl
  · intro v' w' hown hgrow hnil
    have e1 : (rs ++ ms).length = rs.length + ms.length := by simp
    have e2 : clOls (rs ++ ms) = clOls rs ++ clOls ms := by simp [clOls]
    have hown' : w'.ownsRow base 31 8 v' (rs ++ ms).length (clOls (rs ++ ms)) := by
      rw [e1, e2]
      exact hown
    refine k v' w' hown' hgrow ?_
    rcases hown'.2 with ⟨rfl, h0⟩ | ⟨b, cap, cur, rfl, _⟩
    · exact ⟨none, 0, by rw [h0]⟩
    · exact ⟨_, _, rfl⟩
end Go.Proofs.Ytppfobeencnbdaa
