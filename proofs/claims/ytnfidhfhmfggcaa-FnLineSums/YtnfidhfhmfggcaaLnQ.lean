/- What a posting makes of a line: pure. -/
import Derived.Test.YtnfidhfhmfggcaaLnP
namespace Go.Proofs.Ytnfidhfhmfggcaa
open Go.ChangeShapes Go.WideShapes Go.ChangeAt Go.RowKit
def fitZ (q m : Int) : Int := min q m
/-- What LinePost tells. -/
structure PO where
  line : OLn
  fit : Int
  over : Int
  code : Int
def mostT (l : OLn) (kind : Int) : Int := if kind = 3 then l.sent - l.got else l.ordered - l.sent - l.cut
def aftT (l : OLn) (kind f : Int) : OLn := if kind = 1 then { l with cut := l.cut + f } else if kind = 2 then { l with sent := l.sent + f } else { l with got := l.got + f }
structure PostOk (l : OLn) (kind qty : Int) : Prop where
  ok : LnOk l
  k1 : 1 ≤ kind
  k3 : kind ≤ 3
  q : 1 ≤ qty ∧ qty ≤ 1000000
open Classical in
noncomputable def postT (l : OLn) (kind qty : Int) : PO := if PostOk l kind qty then ⟨aftT l kind (fitZ qty (mostT l kind)), fitZ qty (mostT l kind), qty - fitZ qty (mostT l kind), 0⟩ else ⟨zeroL, 0, 0, 1⟩
theorem postT_yes {l : OLn} {kind qty : Int} (h : PostOk l kind qty) : postT l kind qty = ⟨aftT l kind (fitZ qty (mostT l kind)), fitZ qty (mostT l kind), qty - fitZ qty (mostT l kind), 0⟩ := if_pos h
theorem postT_no {l : OLn} {kind qty : Int} (h : ¬ PostOk l kind qty) : postT l kind qty = ⟨zeroL, 0, 0, 1⟩ := if_neg h
def kindB (z : Int) : Bool := decide (1 ≤ z ∧ z ≤ 3)
theorem kindB_yes {z : Int} (h : 1 ≤ z ∧ z ≤ 3) : kindB z = true := decide_eq_true h
theorem kindB_no {z : Int} (h : ¬ (1 ≤ z ∧ z ≤ 3)) : kindB z = false := decide_eq_false h
end Go.Proofs.Ytnfidhfhmfggcaa
