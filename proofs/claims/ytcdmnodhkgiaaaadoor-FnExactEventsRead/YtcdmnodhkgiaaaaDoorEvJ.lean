/- What EventsRead tells: pure. -/
import Derived.Test.YtcdmnodhkgiaaaaDoorErP
namespace Go.Proofs.YtcdmnodhkgiaaaaDoor
open Go.ChangeShapes Go.WideShapes Go.ChangeAt Go.RowKit
/-- What EventsRead tells: the events, the line, the code. -/
noncomputable def evJ (t : ByteArray) : List EvR × Nat × Int := if 20000 < t.size then ([], 0, 2) else rdJ ((pcB 10 t).getLast (pcB_ne 10 t)) 0 (pcB 10 t).dropLast []
theorem evJ_long {t : ByteArray} (h : 20000 < t.size) : evJ t = ([], 0, 2) := if_pos h
theorem evJ_cut {t rest : ByteArray} {ls : List ByteArray} (h : ¬ 20000 < t.size) (e : pcB 10 t = ls ++ [rest]) : evJ t = rdJ rest 0 ls [] := by
  refine (if_neg h).trans ?_
  have e1 : (pcB 10 t).dropLast = ls := by rw [e]; simp
  have e2 : (pcB 10 t).getLast (pcB_ne 10 t) = rest := by
    simp only [e]
    simp
  rw [e1, e2]
theorem rdJ_len (rest : ByteArray) : ∀ (ls : List ByteArray) (k : Nat) (acc : List EvR), acc.length = k → k ≤ 60 → (rdJ rest k ls acc).1.length ≤ 60
  | [], k, acc, h, hk => by
    unfold rdJ
    split
    · simpa [h] using hk
    · simp
  | l :: ls, k, acc, h, hk => by
    unfold rdJ
    split
    · rename_i hg
      exact rdJ_len rest ls (k + 1) _ (by simp [h]) (by omega)
    · simp
theorem rdJ_all (rest : ByteArray) : ∀ (ls : List ByteArray) (k : Nat) (acc : List EvR), (∀ e ∈ acc, evB e = true) → ∀ e ∈ (rdJ rest k ls acc).1, evB e = true
  | [], k, acc, h => by
    unfold rdJ
    split
    · exact h
    · intro e he
      cases he
  | l :: ls, k, acc, h => by
    unfold rdJ
    split
    · rename_i hg
      refine rdJ_all rest ls (k + 1) _ fun e he => ?_
      rcases List.mem_append.1 he with he | he
      · exact h e he
      · rw [List.mem_singleton.1 he]
        exact hg.1
    · intro e he
      cases he
theorem evJ_len (t : ByteArray) : (evJ t).1.length ≤ 60 := by
  unfold evJ
  split
  · simp
  · exact rdJ_len _ _ _ _ rfl (by omega)
theorem evJ_all (t : ByteArray) : ∀ e ∈ (evJ t).1, evB e = true := by
  unfold evJ
  split
  · intro e he
    cases he
  · exact rdJ_all _ _ _ _ (fun e he => by cases he)
theorem ev_size {e : EvR} (h : evB e = true) : e.a.size ≤ 4000 ∧ e.b.size ≤ 4000 ∧ e.c.size ≤ 4000 := by
  rcases (evB_iff.1 h).ok with ⟨_, n, hb, hc⟩ | ⟨_, n1, n2, n3⟩ | ⟨_, n, hb, hc⟩ | ⟨_, ha, hb, hc⟩
  · rw [hb, hc]
    have := nm12 n
    exact ⟨by omega, by decide, by decide⟩
  · have := nm12 n1
    have := nm12 n2
    have := nm12 n3
    omega
  · rw [hb, hc]
    exact ⟨n, by decide, by decide⟩
  · rw [ha, hb, hc]
    exact ⟨by decide, by decide, by decide⟩
end Go.Proofs.YtcdmnodhkgiaaaaDoor
