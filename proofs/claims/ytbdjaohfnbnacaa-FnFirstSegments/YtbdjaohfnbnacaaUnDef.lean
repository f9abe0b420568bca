/- What Unescape tells, and small lemmas on blocks of three cells. -/
import Derived.Test.YtbdjaohfnbnacaaWithout
namespace Go.Proofs.Ytbdjaohfnbnacaa
open Go.ChangeShapes Go.WideShapes Go.ChangeAt Go.RowKit
/-- What Unescape tells. -/
def UnOut (a b c d : Int) (s : ByteArray) (t : ByteArray) (at_ code : Int) : Prop :=
  (20000 < s.size ∧ t = ⟨#[]⟩ ∧ at_ = 0 ∧ code = 2) ∨ (s.size ≤ 20000 ∧ rightB a b c d = false ∧ t = ⟨#[]⟩ ∧ at_ = 0 ∧ code = 1) ∨
  (s.size ≤ 20000 ∧ rightB a b c d = true ∧ ∃ P f, Res a b c d s P f ∧ ((0 ≤ f ∧ t = ⟨#[]⟩ ∧ at_ = f ∧ code = 3) ∨ (f < 0 ∧ t = strOfNums P ∧ at_ = 0 ∧ code = 0)))
theorem res3 {W : World} {t : Nat} {z0 z1 z2 : Value} {b : Nat} (hb : W.heap[b]? = some (.cells #[z0, z1, z2] t)) :
    W.cell? ⟨b, 0, none⟩ = some z0 ∧ W.cell? ⟨b, 1, none⟩ = some z1 ∧ W.cell? ⟨b, 2, none⟩ = some z2 ∧ (∀ o, W.frozen? ⟨b, o, none⟩ = false) :=
  ⟨by simp [World.cell?, hb], by simp [World.cell?, hb], by simp [World.cell?, hb], fun o => by simp [World.frozen?, hb]⟩
theorem sets3 {B : Nat} {w W : World} (h : Below B w W) {b : Nat} (hb : B ≤ b) (v0 v1 v2 : Value) : Below B w (((W.setCell ⟨b, 0, none⟩ v0).setCell ⟨b, 1, none⟩ v1).setCell ⟨b, 2, none⟩ v2) :=
  ((h.setCell hb _).setCell hb _).setCell hb _
end Go.Proofs.Ytbdjaohfnbnacaa
