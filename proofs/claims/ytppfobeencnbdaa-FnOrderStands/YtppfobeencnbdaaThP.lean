/- Where an order line stands: pure. -/
import Derived.Test.YtppfobeencnbdaaLnP
namespace Go.Proofs.Ytppfobeencnbdaa
open Go.ChangeShapes Go.WideShapes Go.ChangeAt Go.RowKit
/-- The five questions, of a right line. -/
def thA (l : OLn) : Prop := l.cut = l.ordered
def thE (l : OLn) : Prop := l.ordered - l.sent - l.cut + (l.sent - l.got) = 0
def thY (l : OLn) : Prop := l.ordered - l.sent - l.cut = 0 ∧ 0 < l.sent - l.got
def thU (l : OLn) : Prop := l.sent = 0 ∧ l.cut = 0
instance (l : OLn) : Decidable (thA l) := inferInstanceAs (Decidable (_ = _))
instance (l : OLn) : Decidable (thE l) := inferInstanceAs (Decidable (_ = _))
instance (l : OLn) : Decidable (thY l) := inferInstanceAs (Decidable (_ ∧ _))
instance (l : OLn) : Decidable (thU l) := inferInstanceAs (Decidable (_ ∧ _))
/-- Where a right line stands. -/
def stR (l : OLn) : Int := if thA l then 5 else if thE l then 4 else if thY l then 3 else if thU l then 1 else 2
/-- Where a line stands: 0, if it is not right. -/
noncomputable def stT (l : OLn) : Int := if lnB l = true then stR l else 0
/-- The word for a place. -/
def wdT (z : Int) : ByteArray := if z = 1 then ⟨#[110, 101, 119]⟩ else if z = 2 then ⟨#[112, 97, 114, 116]⟩ else if z = 3 then ⟨#[119, 97, 121]⟩ else if z = 4 then ⟨#[100, 111, 110, 101]⟩ else if z = 5 then ⟨#[103, 111, 110, 101]⟩ else ⟨#[]⟩
theorem stT_yes {l : OLn} (h : LnOk l) : stT l = stR l := if_pos (lnB_yes h)
theorem stT_no {l : OLn} (h : ¬ LnOk l) : stT l = 0 := if_neg (by simp [lnB_no h])
theorem stR_ran (l : OLn) : 1 ≤ stR l ∧ stR l ≤ 5 := by
  unfold stR
  split
  · omega
  · split
    · omega
    · split
      · omega
      · split <;> omega
theorem stT_ran (l : OLn) : 0 ≤ stT l ∧ stT l ≤ 5 := by
  have := stR_ran l
  unfold stT
  split <;> omega
/-- Done or gone. -/
def clZ (z : Int) : Bool := decide (z = 4 ∨ z = 5)
theorem clZ_iff {z : Int} : clZ z = true ↔ z = 4 ∨ z = 5 := decide_eq_true_iff
end Go.Proofs.Ytppfobeencnbdaa
