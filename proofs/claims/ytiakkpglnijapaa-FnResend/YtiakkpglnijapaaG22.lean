/- Texts of ours put together: OoT. -/
import Derived.Test.YtiakkpglnijapaaG12
import Derived.Test.YtiakkpglnijapaaG19
import Derived.Test.YtiakkpglnijapaaG21
namespace Go.Proofs.Ytiakkpglnijapaa
open Go.ChangeShapes Go.WideShapes Go.ChangeAt Go.RowKit
theorem tgt_key (o : OutR) : keyO (tgtO o.partner o.number) = keyO o := rfl
theorem plc_tgt (rs : List OutR) (o : OutR) : plcO rs (tgtO o.partner o.number) = plcO rs o := by
  unfold plcO
  congr 1
theorem place_yes {rs : List OutR} {t : OutR} (q : (rs[plcO rs t]?).any (fun x => decide (ocmp x t = 0)) = true) : ∃ x, rs[plcO rs t]? = some x ∧ keyO x = keyO t := by
  cases hx : rs[plcO rs t]? with
  | none => rw [hx] at q; cases q
  | some x =>
    rw [hx, Option.any_some] at q
    exact ⟨x, rfl, (ocmp_zero _ _).1 (of_decide_eq_true q)⟩
theorem place_no {rs : List OutR} {t : OutR} (hr : RightO rs) (q : (rs[plcO rs t]?).any (fun x => decide (ocmp x t = 0)) = false) : ∀ x ∈ rs, keyO x ≠ keyO t := fun x hx hk => by
  obtain ⟨i, hi⟩ := List.mem_iff_getElem?.1 hx
  have hp := hr.pair
  rw [List.pairwise_iff_getElem] at hp
  obtain ⟨hil, e⟩ := List.getElem?_eq_some_iff.1 hi
  have hpl : plcO rs t = i := cnt_at _ rs i (by omega) (fun j y hj hy => by
    obtain ⟨hjl, e'⟩ := List.getElem?_eq_some_iff.1 hy
    have := hp j i hjl hil hj
    rw [e, e'] at this
    rw [← befO_congr rfl hk]
    exact this) (fun j y hj hy => by
    obtain ⟨hjl, e'⟩ := List.getElem?_eq_some_iff.1 hy
    rw [← befO_congr rfl hk]
    rcases Nat.lt_or_ge i j with g | g
    · have := hp i j hil hjl g
      rw [e, e'] at this
      exact befO_asymm this
    · obtain rfl : i = j := by omega
      rw [hi] at hy
      cases hy
      exact befO_irrefl _)
  rw [hpl, hi, Option.any_some, decide_eq_true ((ocmp_zero _ _).2 hk)] at q
  cases q
open Classical in
/-- What OutboxPut tells. -/
noncomputable def putO (rs : List OutR) (o : OutR) : OOu := if 400 < rs.length then errO 2 else if ¬ (RightO rs ∧ OuOk o) then errO 1 else if (∃ x ∈ rs, keyO x = keyO o) then errO 11 else if rs.length = 60 then errO 12 else ⟨insT rs (plcO rs o) o, [], [], 0⟩
theorem putO_big {rs : List OutR} {o : OutR} (h : 400 < rs.length) : putO rs o = errO 2 := if_pos h
theorem putO_form {rs : List OutR} {o : OutR} (h : ¬ 400 < rs.length) (h1 : ¬ (RightO rs ∧ OuOk o)) : putO rs o = errO 1 := by
  unfold putO
  rw [if_neg h, if_pos h1]
theorem putO_there {rs : List OutR} {o : OutR} (h1 : RightO rs) (h2 : OuOk o) (h3 : ∃ x ∈ rs, keyO x = keyO o) : putO rs o = errO 11 := by
  have := h1.len
  unfold putO
  rw [if_neg (by omega), if_neg (fun h => h ⟨h1, h2⟩), if_pos h3]
theorem putO_full {rs : List OutR} {o : OutR} (h1 : RightO rs) (h2 : OuOk o) (h3 : ∀ x ∈ rs, keyO x ≠ keyO o) (h4 : rs.length = 60) : putO rs o = errO 12 := by
  unfold putO
  rw [if_neg (by omega), if_neg (fun h => h ⟨h1, h2⟩), if_neg (fun ⟨x, hx, hk⟩ => h3 x hx hk), if_pos h4]
theorem putO_yes {rs : List OutR} {o : OutR} (h1 : RightO rs) (h2 : OuOk o) (h3 : ∀ x ∈ rs, keyO x ≠ keyO o) (h4 : rs.length ≠ 60) : putO rs o = ⟨insT rs (plcO rs o) o, [], [], 0⟩ := by
  have := h1.len
  unfold putO
  rw [if_neg (by omega), if_neg (fun h => h ⟨h1, h2⟩), if_neg (fun ⟨x, hx, hk⟩ => h3 x hx hk), if_neg h4]
theorem putO_rest (rs : List OutR) (o : OutR) : (putO rs o).sent = [] ∧ (putO rs o).lost = [] := by
  unfold putO
  repeat' split
  all_goals exact ⟨rfl, rfl⟩
theorem putO_len (rs : List OutR) (o : OutR) : (putO rs o).list.length ≤ rs.length + 1 := by
  unfold putO
  repeat' split
  all_goals first | exact Nat.zero_le _ | exact Nat.le_of_eq (insT_len _ _ _ (plc_le rs o))
theorem putO_mem {rs : List OutR} {o x : OutR} (h : x ∈ (putO rs o).list) : x = o ∨ x ∈ rs := by
  unfold putO at h
  repeat' split at h
  all_goals first | (cases h; done) | exact insT_mem h
open Classical in
/-- What OutboxHeard tells. -/
noncomputable def hrdO (rs : List OutR) (p : ByteArray) (n : Int) : OOu := if 400 < rs.length ∨ 20000 < p.size then errO 2 else if ¬ RightO rs then errO 1 else if (∃ x ∈ rs, keyO x = (p, n)) then ⟨rs.filter (fun x => decide (keyO x ≠ (p, n))), [], [], 0⟩ else errO 6
theorem hrdO_big {rs : List OutR} {p : ByteArray} {n : Int} (h : 400 < rs.length ∨ 20000 < p.size) : hrdO rs p n = errO 2 := if_pos h
theorem hrdO_form {rs : List OutR} {p : ByteArray} {n : Int} (h : ¬ (400 < rs.length ∨ 20000 < p.size)) (h1 : ¬ RightO rs) : hrdO rs p n = errO 1 := by
  unfold hrdO
  rw [if_neg h, if_pos h1]
theorem hrdO_none {rs : List OutR} {p : ByteArray} {n : Int} (h : ¬ (400 < rs.length ∨ 20000 < p.size)) (h1 : RightO rs) (h2 : ∀ x ∈ rs, keyO x ≠ (p, n)) : hrdO rs p n = errO 6 := by
  unfold hrdO
  rw [if_neg h, if_neg (fun g => g h1), if_neg (fun ⟨x, hx, hk⟩ => h2 x hx hk)]
theorem hrdO_yes {rs : List OutR} {p : ByteArray} {n : Int} (h : ¬ (400 < rs.length ∨ 20000 < p.size)) (h1 : RightO rs) (h2 : ∃ x ∈ rs, keyO x = (p, n)) : hrdO rs p n = ⟨rs.filter (fun x => decide (keyO x ≠ (p, n))), [], [], 0⟩ := by
  unfold hrdO
  rw [if_neg h, if_neg (fun g => g h1), if_pos h2]
theorem hrdO_rest (rs : List OutR) (p : ByteArray) (n : Int) : (hrdO rs p n).sent = [] ∧ (hrdO rs p n).lost = [] := by
  unfold hrdO
  repeat' split
  all_goals exact ⟨rfl, rfl⟩
theorem hrdO_len (rs : List OutR) (p : ByteArray) (n : Int) : (hrdO rs p n).list.length ≤ rs.length := by
  unfold hrdO
  repeat' split
  all_goals first | exact Nat.zero_le _ | exact List.length_filter_le _ _
theorem hrdO_mem {rs : List OutR} {p : ByteArray} {n : Int} {x : OutR} (h : x ∈ (hrdO rs p n).list) : x ∈ rs := by
  unfold hrdO at h
  repeat' split at h
  all_goals first | (cases h; done) | exact (List.mem_filter.1 h).1
/-- In a rising list the one of a key stands at its place. -/
theorem heard_at {rs : List OutR} {t : OutR} {i : Nat} {x : OutR} (hp : rs.Pairwise fun a b => befO a b = true) (hx : rs[i]? = some x) (hk : keyO x = keyO t) : rs.filter (fun y => decide (keyO y ≠ keyO t)) = rs.take i ++ rs.drop (i + 1) := by
  have hall : ∀ (l : List OutR), (∀ y ∈ l, keyO y ≠ keyO t) → l.filter (fun y => decide (keyO y ≠ keyO t)) = l := fun l h => List.filter_eq_self.2 fun y hy => decide_eq_true (h y hy)
  obtain ⟨hi, e⟩ := List.getElem?_eq_some_iff.1 hx
  have hsp : rs = rs.take i ++ x :: rs.drop (i + 1) := by
    rw [← e, List.getElem_cons_drop, List.take_append_drop]
  rw [List.pairwise_iff_getElem] at hp
  have h1 : ∀ y ∈ rs.take i, keyO y ≠ keyO t := fun y hy => by
    obtain ⟨j, hj⟩ := List.getElem?_of_mem hy
    rw [List.getElem?_take] at hj
    split at hj
    · obtain ⟨hjl, e'⟩ := List.getElem?_eq_some_iff.1 hj
      have := hp j i hjl hi (by omega)
      rw [e, e'] at this
      rw [← hk]
      exact befO_key this
    · cases hj
  have h2 : ∀ y ∈ rs.drop (i + 1), keyO y ≠ keyO t := fun y hy => by
    obtain ⟨j, hj⟩ := List.getElem?_of_mem hy
    rw [List.getElem?_drop] at hj
    obtain ⟨hjl, e'⟩ := List.getElem?_eq_some_iff.1 hj
    have := hp i (i + 1 + j) hi hjl (by omega)
    rw [e, e'] at this
    rw [← hk]
    exact fun e => befO_key this e.symm
  have h3 : rs.filter (fun y => decide (keyO y ≠ keyO t)) = (rs.take i ++ x :: rs.drop (i + 1)).filter (fun y => decide (keyO y ≠ keyO t)) := by rw [← hsp]
  rw [h3, List.filter_append, List.filter_cons, if_neg (by simp [hk]), hall _ h1, hall _ h2]
end Go.Proofs.Ytiakkpglnijapaa
