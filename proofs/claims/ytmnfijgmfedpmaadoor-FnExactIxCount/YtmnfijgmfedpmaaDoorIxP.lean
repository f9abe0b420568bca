/- What it is that a message, a bundle, an interchange is right. -/
import Derived.Test.YtmnfijgmfedpmaaDoorRowIx
import Derived.Test.YtmnfijgmfedpmaaDoorRightG
import Derived.Test.YtmnfijgmfedpmaaDoorNameB
import Derived.Test.YtmnfijgmfedpmaaDoorCtlB
namespace Go.Proofs.YtmnfijgmfedpmaaDoor
open Go.ChangeShapes Go.WideShapes Go.ChangeAt Go.RowKit
/-- The Tags of envelopes. -/
def ownT (t : ByteArray) : Bool := decide (t = ⟨#[73, 88, 72]⟩) || (decide (t = ⟨#[71, 82, 72]⟩) || (decide (t = ⟨#[77, 83, 72]⟩) || (decide (t = ⟨#[77, 83, 84]⟩) || (decide (t = ⟨#[71, 82, 84]⟩) || decide (t = ⟨#[73, 88, 84]⟩)))))
def bodyB (g : Seg) : Bool := !ownT g.1 && rightG g.1 g.2
def msgB (m : Msg) : Bool := ctlB m.num && (decide (m.body.length ≤ 40) && m.body.all bodyB)
def bunB (b : Bun) : Bool := ctlB b.num && (decide (1 ≤ b.kind) && (decide (b.kind ≤ 7) && (decide (1 ≤ b.msgs.length) && (decide (b.msgs.length ≤ 10) && b.msgs.all msgB))))
def ixB (x : Ixc) : Bool := ctlB x.num && (nameB x.frm && (nameB x.to && (decide (1 ≤ x.buns.length) && (decide (x.buns.length ≤ 5) && x.buns.all bunB))))
theorem toList_neq {s t : ByteArray} (h : s ≠ t) : (s.toList == t.toList) = false ∧ (s.toList != t.toList) = true ∧ ¬ s.toList = t.toList := by
  have h0 : ¬ s.toList = t.toList := fun e => h (by rw [ByteArray.toList_eq, ByteArray.toList_eq] at e; exact ByteArray.ext (Array.toList_inj.1 e))
  exact ⟨by rw [beq_eq_false_iff_ne]; exact h0, by rw [bne_iff_ne]; exact h0, h0⟩
theorem toList_neq3 {s : ByteArray} {a b c : UInt8} (h : s ≠ ⟨#[a, b, c]⟩) : (s.toList == [a, b, c]) = false ∧ (s.toList != [a, b, c]) = true ∧ ¬ s.toList = [a, b, c] := by
  have e : (⟨#[a, b, c]⟩ : ByteArray).toList = [a, b, c] := by rw [ByteArray.toList_eq]
  have := toList_neq h
  rwa [e] at this
end Go.Proofs.YtmnfijgmfedpmaaDoor
