/- A line put into a right list: pure. -/
import Derived.Test.YtppfobeencnbdaaInsA
import Derived.Test.YtppfobeencnbdaaLnFp
namespace Go.Proofs.Ytppfobeencnbdaa
open Go.ChangeShapes Go.WideShapes Go.ChangeAt Go.RowKit
/-- What the model puts together: ahead of the first that the line stands ahead of. -/
def mIns (l : OLn) : List OLn → List OLn
  | [] => [l]
  | x :: r => if befL l x = true then l :: x :: r else x :: mIns l r
theorem mIns_perm (l : OLn) : ∀ rs : List OLn, (mIns l rs).Perm (l :: rs)
  | [] => .refl _
  | x :: r => by
    unfold mIns
    split
    · exact .refl _
    · exact (List.Perm.cons x (mIns_perm l r)).trans (List.Perm.swap l x r)
theorem insT_perm (rs : List OLn) (i : Nat) (l : OLn) : (insT rs i l).Perm (l :: rs) := by
  have h := List.perm_middle (a := l) (l₁ := rs.take i) (l₂ := rs.drop i)
  rw [List.take_append_drop] at h
  exact h
theorem mIns_at (l : OLn) : ∀ (rs : List OLn) (i : Nat), (∀ j x, j < i → rs[j]? = some x → befL l x = false) → (∀ x, rs[i]? = some x → befL l x = true) → i ≤ rs.length → mIns l rs = insT rs i l
  | [], i, _, _, hi => by
    have : i = 0 := by simpa using hi
    subst this
    rfl
  | x :: r, 0, _, h2, _ => by
    unfold mIns
    rw [if_pos (h2 x rfl)]
    rfl
  | x :: r, i + 1, h1, h2, hi => by
    have e : insT (x :: r) (i + 1) l = x :: insT r i l := by simp [insT]
    unfold mIns
    rw [if_neg (by rw [h1 0 x (by omega) rfl]; simp), e, mIns_at l r i (fun j y hj hy => h1 (j + 1) y (by omega) (by simpa using hy)) (fun y hy => h2 y (by simpa using hy)) (by simpa using hi)]
theorem mIns_app_no (l : OLn) : ∀ (ts : List OLn), ts.any (fun x => befL l x) = false → mIns l ts = ts ++ [l]
  | [], _ => rfl
  | x :: r, h => by
    simp only [List.any_cons, Bool.or_eq_false_iff] at h
    unfold mIns
    rw [if_neg (by simp [h.1]), mIns_app_no l r h.2]
    rfl
theorem mIns_app_yes (l y : OLn) : ∀ (ts : List OLn), ts.any (fun x => befL l x) = true → mIns l (ts ++ [y]) = mIns l ts ++ [y]
  | [], h => by simp at h
  | x :: r, h => by
    simp only [List.any_cons, Bool.or_eq_true] at h
    rw [List.cons_append]
    unfold mIns
    by_cases hx : befL l x = true
    · rw [if_pos hx, if_pos hx]
      rfl
    · rw [if_neg hx, if_neg hx, mIns_app_yes l y r (h.resolve_left hx)]
      rfl
theorem mIns_app_new (l y : OLn) (hy : befL l y = true) : ∀ (ts : List OLn), ts.any (fun x => befL l x) = false → mIns l (ts ++ [y]) = ts ++ [l, y]
  | [], _ => by
    unfold mIns
    rw [List.nil_append]
    simp only [hy, if_true]
    rfl
  | x :: r, h => by
    simp only [List.any_cons, Bool.or_eq_false_iff] at h
    rw [List.cons_append]
    unfold mIns
    rw [if_neg (by simp [h.1]), mIns_app_new l y hy r h.2]
    rfl
theorem plc_spec (l : OLn) : ∀ {rs : List OLn}, (rs.Pairwise fun a b => befL a b = true) → (∀ j x, j < plcL rs l → rs[j]? = some x → befL x l = true) ∧ (∀ j x, plcL rs l ≤ j → rs[j]? = some x → befL x l = false)
  | [], _ => ⟨fun j x _ hx => by simp at hx, fun j x _ hx => by simp at hx⟩
  | a :: r, h => by
    obtain ⟨h1, h2⟩ := List.pairwise_cons.1 h
    obtain ⟨i1, i2⟩ := plc_spec l h2
    by_cases ha : befL a l = true
    · have e : plcL (a :: r) l = plcL r l + 1 := List.countP_cons_of_pos (p := fun x => befL x l) ha
      rw [e]
      refine ⟨fun j x hj hx => ?_, fun j x hj hx => ?_⟩
      · cases j with
        | zero => cases hx; exact ha
        | succ j => exact i1 j x (by omega) (by simpa using hx)
      · cases j with
        | zero => omega
        | succ j => exact i2 j x (by omega) (by simpa using hx)
    · have hall : ∀ y ∈ r, befL y l = false := fun y hy => by
        cases hb : befL y l with
        | false => rfl
        | true => exact absurd (befL_trans (h1 y hy) hb) ha
      have e : plcL (a :: r) l = 0 := by
        unfold plcL
        rw [List.countP_eq_zero]
        intro y hy
        rcases List.mem_cons.1 hy with rfl | hy
        · exact ha
        · simp [hall y hy]
      rw [e]
      refine ⟨fun j x hj => by omega, fun j x _ hx => ?_⟩
      cases j with
      | zero => cases hx; simpa using ha
      | succ j => exact hall x (List.mem_of_getElem? (by simpa using hx))
theorem plc_le (rs : List OLn) (l : OLn) : plcL rs l ≤ rs.length := List.countP_le_length
theorem keys_ne {L rs : List OLn} {l : OLn} (h : RightL L) (hp : L.Perm (l :: rs)) : ∀ x ∈ rs, keyL x ≠ keyL l := by
  have h1 : L.Pairwise fun a b => keyL a ≠ keyL b := h.pair.imp fun hb => befL_key hb
  have h2 := (hp.pairwise_iff (fun h => Ne.symm h)).1 h1
  intro x hx e
  exact (List.pairwise_cons.1 h2).1 x hx e.symm
theorem mIns_eq {rs : List OLn} {l : OLn} (hs : rs.Pairwise fun a b => befL a b = true) (hk : ∀ x ∈ rs, keyL x ≠ keyL l) : mIns l rs = insT rs (plcL rs l) l := by
  obtain ⟨h1, h2⟩ := plc_spec l hs
  refine mIns_at l rs _ (fun j x hj hx => befL_asymm (h1 j x hj hx)) (fun x hx => ?_) (plc_le rs l)
  have h3 := h2 _ x (Nat.le_refl _) hx
  cases hb : befL l x with
  | true => rfl
  | false => exact absurd (befL_tri h3 hb) (hk x (List.mem_of_getElem? hx))
open Classical in
/-- What LinesAdd tells. -/
noncomputable def addT (rs : List OLn) (l : OLn) : List OLn := if 400 < rs.length then [] else if RightL rs ∧ RightL (insT rs (plcL rs l) l) then insT rs (plcL rs l) l else rs
theorem addT_big {rs : List OLn} {l : OLn} (h : 400 < rs.length) : addT rs l = [] := if_pos h
theorem addT_no {rs : List OLn} {l : OLn} (h : ¬ 400 < rs.length) (hr : ¬ (RightL rs ∧ RightL (insT rs (plcL rs l) l))) : addT rs l = rs := by
  unfold addT
  rw [if_neg h, if_neg hr]
theorem addT_yes {rs : List OLn} {l : OLn} (h1 : RightL rs) (h2 : RightL (insT rs (plcL rs l) l)) : addT rs l = insT rs (plcL rs l) l := by
  have := h1.len
  unfold addT
  rw [if_neg (by omega), if_pos ⟨h1, h2⟩]
theorem addT_m {rs : List OLn} {l : OLn} (h1 : RightL rs) (h2 : RightL (mIns l rs)) : addT rs l = mIns l rs := by
  have e := mIns_eq h1.pair (keys_ne h2 (mIns_perm l rs))
  rw [e] at h2 ⊢
  exact addT_yes h1 h2
theorem addT_mno {rs : List OLn} {l : OLn} (h1 : RightL rs) (h2 : ¬ RightL (mIns l rs)) : addT rs l = rs := by
  have := h1.len
  refine addT_no (by omega) fun ⟨_, h3⟩ => h2 ?_
  rw [mIns_eq h1.pair (keys_ne h3 (insT_perm _ _ _))]
  exact h3
theorem addT_mem {rs : List OLn} {l x : OLn} (h : x ∈ addT rs l) : x = l ∨ x ∈ rs := by
  unfold addT at h
  split at h
  · cases h
  · split at h
    · exact insT_mem h
    · exact .inr h
theorem addT_len (rs : List OLn) (l : OLn) : (addT rs l).length ≤ rs.length + 1 := by
  unfold addT
  split
  · simp
  · split
    · rw [insT_len _ _ _ (plc_le rs l)]
      exact Nat.le_refl _
    · omega
end Go.Proofs.Ytppfobeencnbdaa
