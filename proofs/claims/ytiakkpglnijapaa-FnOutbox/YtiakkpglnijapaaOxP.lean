/- What is put into an outbox is there till it is heard, and then the outbox is as it was: pure. -/
import Derived.Test.YtiakkpglnijapaaOoT
namespace Go.Proofs.Ytiakkpglnijapaa
open Go.ChangeShapes Go.WideShapes Go.ChangeAt Go.RowKit
theorem putO_zero {rs : List OutR} {o : OutR} (h : (putO rs o).code = 0) : RightO rs ∧ OuOk o ∧ (∀ x ∈ rs, keyO x ≠ keyO o) ∧ rs.length ≠ 60 := by
  unfold putO at h
  split at h
  · simp [errO] at h
  · split at h
    · simp [errO] at h
    · split at h
      · simp [errO] at h
      · split at h
        · simp [errO] at h
        · rename_i h1 h2 h3 h4
          have h2' := Classical.not_not.1 h2
          exact ⟨h2'.1, h2'.2, fun x hx hk => h3 ⟨x, hx, hk⟩, h4⟩
theorem ins_right {rs : List OutR} {o : OutR} (h : RightO rs) (ho : OuOk o) (hk : ∀ x ∈ rs, keyO x ≠ keyO o) (hl : rs.length ≠ 60) : RightO (insT rs (plcO rs o) o) := by
  have hlen := h.len
  have hp := h.pair
  obtain ⟨s1, s2⟩ := plc_spec o hp
  refine RightO.of_pair (by rw [insT_len _ _ _ (plc_le rs o)]; omega) (fun c hc => ?_) ?_
  · rcases insT_mem hc with rfl | hc
    · exact ho
    · exact h.ok c hc
  · unfold insT
    rw [List.pairwise_append]
    have e1 : ∀ x ∈ rs.take (plcO rs o), befO x o = true := fun x hx => by
      obtain ⟨j, hj⟩ := List.getElem?_of_mem hx
      rw [List.getElem?_take] at hj
      split at hj
      · rename_i g
        exact s1 j x g hj
      · cases hj
    have e2 : ∀ x ∈ rs.drop (plcO rs o), befO o x = true := fun x hx => by
      obtain ⟨j, hj⟩ := List.getElem?_of_mem hx
      rw [List.getElem?_drop] at hj
      have g := s2 _ x (Nat.le_add_right _ _) hj
      cases e : befO o x with
      | true => rfl
      | false => exact absurd (befO_tri g e) (hk x (List.mem_of_getElem? hj))
    refine ⟨List.Pairwise.sublist (List.take_sublist _ _) hp, List.pairwise_cons.2 ⟨e2, List.Pairwise.sublist (List.drop_sublist _ _) hp⟩, fun a ha b hb => ?_⟩
    rcases List.mem_cons.1 hb with rfl | hb
    · exact e1 a ha
    · exact befO_trans (e1 a ha) (e2 b hb)
theorem put_back {rs : List OutR} {o : OutR} (hk : ∀ x ∈ rs, keyO x ≠ keyO o) : (insT rs (plcO rs o) o).filter (fun x => decide (keyO x ≠ (o.partner, o.number))) = rs := by
  have hall : ∀ (l : List OutR), (∀ y ∈ l, y ∈ rs) → l.filter (fun y => decide (keyO y ≠ (o.partner, o.number))) = l := fun l h => List.filter_eq_self.2 fun y hy => decide_eq_true (hk y (h y hy))
  unfold insT
  rw [List.filter_append, List.filter_cons, if_neg (by simp [keyO]), hall _ fun y hy => List.mem_of_mem_take hy, hall _ fun y hy => List.mem_of_mem_drop hy, List.take_append_drop]
/-- What FnOutbox asks: L is what OutboxPut leaves. -/
structure PutBack (rs : List OutR) (o : OutR) (L : List OutR) : Prop where
  put : putO rs o = ⟨L, [], [], 0⟩
  len : L.length = rs.length + 1
  right : ousB L = true
  heard : hrdO L o.partner o.number = ⟨rs, [], [], 0⟩
  gone : hrdO rs o.partner o.number = errO 6
theorem putBack_of {rs : List OutR} {o : OutR} (h : (putO rs o).code = 0) : ∃ L, PutBack rs o L := by
  obtain ⟨h1, h2, h3, h4⟩ := putO_zero h
  have hR := ins_right h1 h2 h3 h4
  have hn := nameB_sizesU h2.p
  have hl := h1.len
  have hL := hR.len
  refine ⟨insT rs (plcO rs o) o, putO_yes h1 h2 h3 h4, insT_len _ _ _ (plc_le rs o), ousB_yes hR, ?_, hrdO_none (by omega) h1 h3⟩
  rw [hrdO_yes (by omega) hR ⟨o, by simp [insT], rfl⟩, put_back h3]
end Go.Proofs.Ytiakkpglnijapaa
