/- Texts of ours put together: TrP. -/
import Derived.Test.YtjnikogaleofaaaDoorG36
namespace Go.Proofs.YtjnikogaleofaaaDoor
open Go.ChangeShapes Go.WideShapes Go.ChangeAt Go.RowKit
theorem flat_le {α β : Type} (f : α → List β) (k : Nat) : ∀ (l : List α), (∀ x ∈ l, (f x).length ≤ k) → (l.flatMap f).length ≤ l.length * k
  | [], _ => by simp
  | a :: r, h => by
    have h1 := flat_le f k r fun x hx => h x (List.mem_cons_of_mem _ hx)
    have h2 := h a List.mem_cons_self
    have e : (r.length + 1) * k = r.length * k + k := by rw [Nat.add_mul, Nat.one_mul]
    rw [List.flatMap_cons, List.length_append, List.length_cons, e]
    omega
theorem ixSegs_len {x : Ixc} (hb : x.buns.length ≤ 6) (hm : ∀ b ∈ x.buns, b.msgs.length ≤ 11 ∧ ∀ m ∈ b.msgs, m.body.length ≤ 3) : (ixSegs x).length ≤ 344 := by
  have h1 := flat_le bunSegs 57 x.buns fun b hb => by
    obtain ⟨h2, h3⟩ := hm b hb
    have h4 := flat_le msgSegs 5 b.msgs fun m hm => by
      have := h3 m hm
      simp only [msgSegs, List.length_cons, List.length_append, List.length_nil]
      omega
    simp only [bunSegs, List.length_cons, List.length_append, List.length_nil]
    omega
  simp only [ixSegs, List.length_cons, List.length_append, List.length_nil]
  omega
theorem tr_own {t : ByteArray} (h : isTr t) : ownT t = true := by
  rcases h with rfl | rfl | rfl <;> decide
theorem tr_two {x : Ixc} (h : ixB x = true) {g : Seg} (hg : g ∈ ixSegs x) (ht : isTr g.1) : ∃ a b, g.2 = [[a], [b]] := by
  unfold ixB at h
  simp only [Bool.and_eq_true, List.all_eq_true] at h
  obtain ⟨_, _, _, _, _, hbs⟩ := h
  rcases List.mem_cons.1 hg with rfl | hg
  · rcases ht with h | h | h <;> exact absurd (show tIXH = _ from h) (by decide)
  rcases List.mem_append.1 hg with hg | hg
  · obtain ⟨b, hb, hg⟩ := List.mem_flatMap.1 hg
    have hB := hbs b hb
    unfold bunB at hB
    simp only [Bool.and_eq_true, List.all_eq_true] at hB
    obtain ⟨_, _, _, _, _, hms⟩ := hB
    rcases List.mem_cons.1 hg with rfl | hg
    · rcases ht with h | h | h <;> exact absurd (show tGRH = _ from h) (by decide)
    rcases List.mem_append.1 hg with hg | hg
    · obtain ⟨m, hm, hg⟩ := List.mem_flatMap.1 hg
      have hM := hms m hm
      unfold msgB at hM
      simp only [Bool.and_eq_true, List.all_eq_true] at hM
      obtain ⟨_, _, hbd⟩ := hM
      rcases List.mem_cons.1 hg with rfl | hg
      · rcases ht with h | h | h <;> exact absurd (show tMSH = _ from h) (by decide)
      rcases List.mem_append.1 hg with hg | hg
      · have hy := hbd g hg
        unfold bodyB at hy
        rw [tr_own ht] at hy
        simp at hy
      · rw [List.mem_singleton.1 hg]
        exact ⟨_, _, rfl⟩
    · rw [List.mem_singleton.1 hg]
      exact ⟨_, _, rfl⟩
  · rw [List.mem_singleton.1 hg]
    exact ⟨_, _, rfl⟩
end Go.Proofs.YtjnikogaleofaaaDoor
