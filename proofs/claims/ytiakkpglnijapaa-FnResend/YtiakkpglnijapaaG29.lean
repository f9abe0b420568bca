/- Texts of ours put together: TkP. -/
import Derived.Test.YtiakkpglnijapaaG12
import Derived.Test.YtiakkpglnijapaaG04
namespace Go.Proofs.Ytiakkpglnijapaa
open Go.ChangeShapes Go.WideShapes Go.ChangeAt Go.RowKit
/-- Lost on that day; sent on that day. -/
def lstB (d : Int) (o : OutR) : Bool := decide (o.due ≤ d) && decide (o.tries = 5)
def sntB (d : Int) (o : OutR) : Bool := decide (o.due ≤ d) && decide (o.tries < 5)
theorem snt_lst {d : Int} {o : OutR} (h : sntB d o = true) : lstB d o = false := by
  simp only [sntB, Bool.and_eq_true, decide_eq_true_eq] at h
  simp only [lstB, Bool.and_eq_false_iff, decide_eq_false_iff_not]
  right
  omega
/-- As it is once it was sent. -/
def trdO (d : Int) (o : OutR) : OutR := ⟨o.partner, o.number, o.text, o.tries + 1, min (d + 3 * (o.tries + 1)) 100000⟩
def aftO (d : Int) (o : OutR) : OutR := if sntB d o = true then trdO d o else o
def senO (o : OutR) : SenR := ⟨o.partner, o.number, o.text⟩
def kepL (d : Int) (ts : List OutR) : List OutR := ts.filter fun o => !lstB d o
def tLi (d : Int) (ts : List OutR) : List OutR := (kepL d ts).map (aftO d)
def tSe (d : Int) (ts : List OutR) : List SenR := (ts.filter (sntB d)).map senO
def tLo (d : Int) (ts : List OutR) : List OutR := ts.filter (lstB d)
open Classical in
noncomputable def tckO (rs : List OutR) (d : Int) : OOu := if 400 < rs.length then errO 2 else if ¬ (RightO rs ∧ dayB d = true) then errO 1 else ⟨tLi d rs, tSe d rs, tLo d rs, 0⟩
theorem tckO_big {rs : List OutR} {d : Int} (h : 400 < rs.length) : tckO rs d = errO 2 := if_pos h
theorem tckO_form {rs : List OutR} {d : Int} (h : ¬ 400 < rs.length) (h1 : ¬ (RightO rs ∧ dayB d = true)) : tckO rs d = errO 1 := by
  unfold tckO
  rw [if_neg h, if_pos h1]
theorem tckO_yes {rs : List OutR} {d : Int} (h1 : RightO rs) (h2 : dayB d = true) : tckO rs d = ⟨tLi d rs, tSe d rs, tLo d rs, 0⟩ := by
  have := h1.len
  unfold tckO
  rw [if_neg (by omega), if_neg (fun h => h ⟨h1, h2⟩)]
theorem tckO_len (rs : List OutR) (d : Int) : (tckO rs d).list.length ≤ rs.length ∧ (tckO rs d).sent.length ≤ rs.length ∧ (tckO rs d).lost.length ≤ rs.length := by
  unfold tckO
  repeat' split
  · exact ⟨Nat.zero_le _, Nat.zero_le _, Nat.zero_le _⟩
  · exact ⟨Nat.zero_le _, Nat.zero_le _, Nat.zero_le _⟩
  · refine ⟨?_, ?_, ?_⟩
    · simp only [tLi, kepL, List.length_map]; exact List.length_filter_le _ _
    · simp only [tSe, List.length_map]; exact List.length_filter_le _ _
    · exact List.length_filter_le _ _
theorem tLi_app (d : Int) (ts : List OutR) (c : OutR) : tLi d (ts ++ [c]) = tLi d ts ++ (if lstB d c = true then [] else [aftO d c]) := by
  simp only [tLi, kepL, List.filter_append, List.map_append]
  congr 1
  cases h : lstB d c <;> simp [h]
theorem kepL_app (d : Int) (ts : List OutR) (c : OutR) : kepL d (ts ++ [c]) = kepL d ts ++ (if lstB d c = true then [] else [c]) := by
  simp only [kepL, List.filter_append]
  congr 1
  cases h : lstB d c <;> simp [h]
theorem tSe_app (d : Int) (ts : List OutR) (c : OutR) : tSe d (ts ++ [c]) = tSe d ts ++ (if sntB d c = true then [senO c] else []) := by
  simp only [tSe, List.filter_append, List.map_append]
  congr 1
  cases h : sntB d c <;> simp [h]
theorem tLo_app (d : Int) (ts : List OutR) (c : OutR) : tLo d (ts ++ [c]) = tLo d ts ++ (if lstB d c = true then [c] else []) := by
  simp only [tLo, List.filter_append]
  congr 1
  cases h : lstB d c <;> simp [h]
theorem tSe_kep (d : Int) (ts : List OutR) : tSe d (kepL d ts) = tSe d ts := by
  simp only [tSe, kepL, List.filter_filter]
  congr 2
  funext o
  cases h : sntB d o with
  | false => simp
  | true => simp [snt_lst h]
end Go.Proofs.Ytiakkpglnijapaa
