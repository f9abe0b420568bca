/- A number just taken as new, taken once more: pure. -/
import Derived.Test.YtbnjieppcojckaaWinP
namespace Go.Proofs.Ytbnjieppcojckaa
open Go.ChangeShapes Go.WideShapes Go.ChangeAt Go.RowKit
theorem ins_find {s : Sn} : ∀ {l : List Sn}, (∀ x ∈ l, x.number ≠ s.number) → (insSn s l).find? (fun x => decide (x.number = s.number)) = some s
  | [], _ => by simp [insSn]
  | y :: r, h => by
    unfold insSn
    split
    · simp
    · have hy : ¬ y.number = s.number := h y (by simp)
      rw [List.find?_cons_of_neg (by simpa using hy)]
      exact ins_find fun x hx => h x (by simp [hx])
theorem newPt_find {p : Ptn} {k c : Int} (h : kndZ p.low p.seen k = 1) : (newPt p k c).seen.find? (fun x => decide (x.number = k)) = some ⟨k, p.next, c⟩ := by
  have hn := find_none (kndZ_new h).2
  exact ins_find (s := ⟨k, p.next, c⟩) fun x hx => hn x (List.mem_filter.1 hx).1
theorem newPt_kind {p : Ptn} {k c : Int} (h : kndZ p.low p.seen k = 1) : kndZ (newPt p k c).low (newPt p k c).seen k = 2 := by
  have hk := (kndZ_new h).1
  unfold kndZ
  rw [newPt_find h]
  have : ¬ k < (newPt p k c).low := by
    show ¬ k < max p.low (k - 31)
    omega
  simp [this]
/-- Taken as new, then once more. -/
theorem take_twice {p : Ptn} {k c : Int} (h : (ptnB p && (ctlB k && codeB c)) = true) (h1 : kndZ p.low p.seen k = 1) (h2 : p.next ≠ 999999) :
    takeT p k c = ⟨newPt p k c, 1, ⟨k, p.next, c⟩, 0⟩ ∧ ptnB (newPt p k c) = true ∧ askZ (newPt p k c) k = 2 ∧ takeT (newPt p k c) k 0 = ⟨newPt p k c, 2, ⟨k, p.next, c⟩, 0⟩ := by
  have h' := h
  simp only [Bool.and_eq_true] at h'
  obtain ⟨g1, g2, g3⟩ := h'
  have hr := newPt_right g1 g2 g3 h1 h2
  have hk := newPt_kind (c := c) h1
  have hok : (ptnB (newPt p k c) && (ctlB k && codeB 0)) = true := by
    rw [hr, g2]
    rfl
  refine ⟨takeT_new h h1 h2, hr, ?_, ?_⟩
  · simp [askZ, hr, g2, hk]
  · rw [takeT_old hok (by omega), hk, newPt_find h1]
    rfl
/-- Code and kind tell which of the four it was. -/
theorem takeT_new_of {p : Ptn} {k c : Int} (h0 : (takeT p k c).code = 0) (h1 : (takeT p k c).kind = 1) : (ptnB p && (ctlB k && codeB c)) = true ∧ kndZ p.low p.seen k = 1 ∧ p.next ≠ 999999 := by
  cases h : (ptnB p && (ctlB k && codeB c)) with
  | false =>
    rw [takeT_form h] at h0
    simp at h0
  | true =>
    by_cases g1 : kndZ p.low p.seen k = 1
    · by_cases g2 : p.next = 999999
      · rw [takeT_full h g1 g2] at h0
        simp at h0
      · exact ⟨rfl, g1, g2⟩
    · rw [takeT_old h g1] at h1
      exact absurd h1 g1
/-- What was not new leaves the partner as it was. -/
theorem takeT_same {p : Ptn} {k c : Int} (h0 : (takeT p k c).code = 0) (h1 : (takeT p k c).kind ≠ 1) : (takeT p k c).p = p := by
  cases h : (ptnB p && (ctlB k && codeB c)) with
  | false =>
    rw [takeT_form h] at h0
    simp at h0
  | true =>
    by_cases g1 : kndZ p.low p.seen k = 1
    · by_cases g2 : p.next = 999999
      · rw [takeT_full h g1 g2] at h0
        simp at h0
      · rw [takeT_new h g1 g2] at h1
        exact absurd rfl h1
    · rw [takeT_old h g1]
end Go.Proofs.Ytbnjieppcojckaa
