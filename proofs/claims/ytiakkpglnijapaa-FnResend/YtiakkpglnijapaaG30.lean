/- Texts of ours put together: RnP. -/
import Derived.Test.YtiakkpglnijapaaG29
namespace Go.Proofs.Ytiakkpglnijapaa
open Go.ChangeShapes Go.WideShapes Go.ChangeAt Go.RowKit
/-- Rising days. -/
structure RisD (ds : List Int) : Prop where
  at_ : ∀ i d, ds[i]? = some d → dayB d = true ∧ ∀ e, 0 < i → ds[i - 1]? = some e → e < d
/-- The days on which it is sent. -/
def runD : OutR → List Int → List Int
  | _, [] => []
  | o, d :: r => if sntB d o = true then d :: runD (trdO d o) r else runD o r
structure RunOk (o : OutR) (ds : List Int) : Prop where
  len : ds.length ≤ 400
  ok : OuOk o
  ris : RisD ds
open Classical in
noncomputable def runO (o : OutR) (ds : List Int) : List Int := if RunOk o ds then runD o ds else []
theorem runO_no {o : OutR} {ds : List Int} (h : ¬ RunOk o ds) : runO o ds = [] := if_neg h
theorem runO_yes {o : OutR} {ds : List Int} (h : RunOk o ds) : runO o ds = runD o ds := if_pos h
theorem runD_len : ∀ (ds : List Int) (o : OutR), (runD o ds).length ≤ ds.length
  | [], _ => Nat.le_refl _
  | d :: r, o => by
    unfold runD
    split
    · have := runD_len r (trdO d o)
      simp
      omega
    · have := runD_len r o
      simp
      omega
theorem runO_len (o : OutR) (ds : List Int) : (runO o ds).length ≤ 400 := by
  by_cases h : RunOk o ds
  · rw [runO_yes h]
    have := runD_len ds o
    have := h.len
    omega
  · rw [runO_no h]
    simp
theorem trd_ok {d : Int} {o : OutR} (h : OuOk o) (hs : sntB d o = true) (hd : dayB d = true) : OuOk (trdO d o) := by
  simp only [sntB, Bool.and_eq_true, decide_eq_true_eq] at hs
  have hd' := dayB_iff.1 hd
  have h0 := h.r0
  refine ⟨h.p, h.n, h.t1, h.t2, by simp only [trdO]; omega, by simp only [trdO]; omega, by simp only [trdO]; omega⟩
theorem runD_step {o : OutR} {ds : List Int} {j : Nat} {d : Int} (h : ds[j]? = some d) : runD o (ds.drop j) = if sntB d o = true then d :: runD (trdO d o) (ds.drop (j + 1)) else runD o (ds.drop (j + 1)) := by
  obtain ⟨hj, e⟩ := List.getElem?_eq_some_iff.1 h
  rw [List.drop_eq_getElem_cons hj, e]
  rfl
theorem runD_gone : ∀ (ds : List Int) (o : OutR), o.tries = 5 → runD o ds = []
  | [], _, _ => rfl
  | d :: r, o, h => by
    unfold runD
    rw [if_neg (by simp [sntB, h]), runD_gone r o h]
theorem one_right {o : OutR} (h : OuOk o) : RightO [o] := by
  refine ⟨by simp, fun i c hc => ?_⟩
  match i, hc with
  | 0, hc =>
    cases hc
    exact ⟨h, fun d h0 => by omega⟩
  | i + 1, hc => simp at hc
theorem nil_right : RightO [] := ⟨by simp, fun i c hc => by simp at hc⟩
theorem tck_one {o : OutR} {d : Int} (h : OuOk o) (hd : dayB d = true) : tckO [o] d = ⟨tLi d [o], tSe d [o], tLo d [o], 0⟩ := tckO_yes (one_right h) hd
theorem tck_nil {d : Int} (hd : dayB d = true) : tckO [] d = ⟨[], [], [], 0⟩ := tckO_yes nil_right hd
end Go.Proofs.Ytiakkpglnijapaa
