/- What the model's HeadOf asks: pure. -/
import Derived.Test.YthjddnhdfnhalaaDoorHdP
import Derived.Test.YthjddnhdfnhalaaDoorNumS
import Derived.Test.YthjddnhdfnhalaaDoorIxPa
import Derived.Test.YthjddnhdfnhalaaDoorIxDa
namespace Go.Proofs.YthjddnhdfnhalaaDoor
open Go.ChangeShapes Go.WideShapes Go.ChangeAt Go.RowKit
theorem partF_size {es : List (List ByteArray)} (h : BdE 1048576 es) (i j : Int) : (partF es i j).size ≤ 1048576 := by
  unfold partF
  split
  · split
    · rename_i h1 h2
      cases he : es[i.toNat]? with
      | none => rw [he] at h2; simp at h2; omega
      | some e =>
        simp only [Option.getD_some]
        cases ht : e[j.toNat]? with
        | none => exact Nat.zero_le _
        | some t => exact ((h.2 _ e he).2 _ t ht)
    · exact Nat.zero_le _
  · exact Nat.zero_le _
/-- What the model's reading of a number tells, told again. -/
def L1N (t : ByteArray) (n : Int) : Prop := numT t.data.toList = some n ∨ ∀ v : Int, numT t.data.toList = some v → v ≤ -1000000000000 ∨ 1000000000000 ≤ v
open Classical in
theorem hdT_model (tag : ByteArray) (es : List (List ByteArray)) (n : Int) (hn : L1N (partF es 2 0) n) :
    hdT tag es = if (nameB (partF es 0 0) && (nameB (partF es 1 0) && (ctlB n && decide (tag = tIXH ∧ es = [[(partF es 0 0)], [(partF es 1 0)], [decS n]])))) = true then some ((partF es 0 0), (partF es 1 0), n) else none := by
  by_cases hc : (nameB (partF es 0 0) && (nameB (partF es 1 0) && (ctlB n && decide (tag = tIXH ∧ es = [[(partF es 0 0)], [(partF es 1 0)], [decS n]])))) = true
  · rw [if_pos hc]
    simp only [Bool.and_eq_true, decide_eq_true_eq, ctlB_iff] at hc
    obtain ⟨h1, h2, h3, h4, h5⟩ := hc
    subst h4
    exact hdT_of h3.1 h3.2 h5 h1 h2
  · rw [if_neg hc]
    cases hh : hdT tag es with
    | none => rfl
    | some x =>
      obtain ⟨a, b, m⟩ := x
      obtain ⟨h1, h2, h3, h4, h5, h6, h7⟩ := hdT_some hh
      have e0 : (partF es 0 0) = a := by rw [h4]; rfl
      have e1 : (partF es 1 0) = b := by rw [h4]; rfl
      have e2 : (partF es 2 0) = decS m := by rw [h4]; rfl
      have hm : m = n := by
        rw [e2] at hn
        rcases hn with hn | hn
        · rw [h7] at hn
          exact Option.some.inj hn
        · have := hn m h7
          omega
      subst hm
      refine absurd ?_ hc
      rw [e0, e1]
      simp only [Bool.and_eq_true, decide_eq_true_eq, ctlB_iff]
      exact ⟨h5, h6, ⟨h2, h3⟩, h1, h4⟩
theorem decS_size7 {n : Int} (h1 : 1 ≤ n) (h2 : n ≤ 999999) : (decS n).size ≤ 40 := by
  have := decS_size n (by omega) (by omega)
  omega
end Go.Proofs.YthjddnhdfnhalaaDoor
