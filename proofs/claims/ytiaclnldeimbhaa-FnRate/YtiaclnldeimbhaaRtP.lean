/- What RateOf tells: pure. -/
import Derived.Test.YtiaclnldeimbhaaBkP
namespace Go.Proofs.Ytiaclnldeimbhaa
open Go.ChangeShapes Go.WideShapes Go.ChangeAt Go.RowKit
/-- A line of that Partner. -/
def ofP (q : ByteArray) (l : OLn) : Bool := l.partner.toList == q.toList
/-- Those of the first k that are of that Partner. -/
def prK (q : ByteArray) (rs : List OLn) (k : Nat) : List OLn := (rs.take k).filter (ofP q)
theorem prK_no {q : ByteArray} {rs : List OLn} {k : Nat} {l : OLn} (h : rs[k]? = some l) (e : ofP q l = false) : prK q rs (k + 1) = prK q rs k := by
  unfold prK
  rw [List.take_add_one, h, List.filter_append]
  simp [e]
theorem prK_yes {q : ByteArray} {rs : List OLn} {k : Nat} {l : OLn} (h : rs[k]? = some l) (e : ofP q l = true) : prK q rs (k + 1) = prK q rs k ++ [l] := by
  unfold prK
  rw [List.take_add_one, h, List.filter_append]
  simp [e]
theorem prK_all (q : ByteArray) (rs : List OLn) : prK q rs rs.length = rs.filter (ofP q) := by
  unfold prK
  rw [List.take_length]
theorem sumL_one (f : OLn → Int) (a : List OLn) (l : OLn) : sumL f (a ++ [l]) = sumL f a + f l := by
  rw [sumL_app]
  simp [sumL]
/-- What was got, and what was ordered, of a Partner's lines. -/
def gotS (q : ByteArray) (rs : List OLn) : Int := sumL OLn.got (rs.filter (ofP q))
def ordS (q : ByteArray) (rs : List OLn) : Int := sumL OLn.ordered (rs.filter (ofP q))
/-- The rate of two sums. -/
def quoT (g o : Int) : Int := if o = 0 then -1 else 100 * g / o
theorem quoT_no (g : Int) : quoT g 0 = -1 := by simp [quoT]
theorem quoT_yes {g o : Int} (h : o ≠ 0) : quoT g o = 100 * g / o := by simp [quoT, h]
/-- What RateOf tells. -/
noncomputable def rateT (p : Bk) (q : ByteArray) : Int := if 20000 < q.size then 0 else if bkB p = true then quoT (gotS q p.lines) (ordS q p.lines) else -1
theorem rateT_long {p : Bk} {q : ByteArray} (h : 20000 < q.size) : rateT p q = 0 := by simp [rateT, h]
theorem rateT_no {p : Bk} {q : ByteArray} (h : ¬ 20000 < q.size) (h2 : bkB p = false) : rateT p q = -1 := by simp [rateT, h, h2]
theorem rateT_yes {p : Bk} {q : ByteArray} (h : ¬ 20000 < q.size) (h2 : bkB p = true) : rateT p q = quoT (gotS q p.lines) (ordS q p.lines) := by simp [rateT, h, h2]
end Go.Proofs.Ytiaclnldeimbhaa
