/- What it is that a value is a partner, in a world. -/
import Derived.Test.YtagajindaipaeaaRowSn
namespace Go.Proofs.Ytagajindaipaeaa
open Go.ChangeShapes Go.WideShapes Go.ChangeAt Go.RowKit
/-- A Partner. -/
structure Ptn where
  name : ByteArray
  low : Int
  next : Int
  seen : List Sn
/-- What stands behind its cells. -/
structure RPt (W : World) (u : Value) (r : Ptn) : Prop where
  ls : RowSn W u r.seen
  z_name : r.name.size ≤ 9223372036854775807
theorem RPt.below {W W' : World} {u : Value} {r : Ptn} (h : RPt W u r) (hb : Below W.heap.size W W') : RPt W' u r := ⟨h.ls.below hb, h.z_name⟩
def BdPt (n : Nat) (r : Ptn) : Prop := r.name.size ≤ n ∧ BdSn n r.seen
theorem BdPt.mono {m n : Nat} {r : Ptn} (h : BdPt m r) (hmn : m ≤ n) : BdPt n r := ⟨Nat.le_trans h.1 hmn, BdSn.mono h.2 hmn⟩
end Go.Proofs.Ytagajindaipaeaa
