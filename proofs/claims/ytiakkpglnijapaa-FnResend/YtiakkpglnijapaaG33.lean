/- Texts of ours put together: NIo. -/
import Derived.Test.YtiakkpglnijapaaG32
import Derived.Test.YtiakkpglnijapaaG10
namespace Go.Proofs.Ytiakkpglnijapaa
open Go.ChangeShapes Go.WideShapes Go.ChangeAt Go.RowKit
theorem keep_grownN {B : Nat} {W W' : World} (h : Keep B W W') : W.grownBy W' (some B) := ⟨h.os, h.tape, h.output, h.size, fun k hk hB => h.block k hk (fun e => hB (by rw [e]))⟩
/-- What stands while numbers are drawn: the source in block B, a row of numbers of the call's own. -/
structure NI (B : Nat) (w W : World) (v : Value) (xs : List Int) : Prop where
  src : IsSrc B W
  kp : Keep B w W
  row : W.ownsRow w.heap.size 2 1 v xs.length (xs.map (Value.int .i64))
  hB : B < w.heap.size
  nn : ∃ ad C, v = .slice (some ad) xs.length C
theorem NI.not {B : Nat} {w W : World} {v : Value} {xs : List Int} (h : NI B w W v xs) : v.ownBlock ≠ some B := fun e => by
  have := (h.row.lt B e).1
  have := h.hB
  omega
theorem NI.keep {B : Nat} {w W W' : World} {v : Value} {xs : List Int} (h : NI B w W v xs) (hk : Keep B W W') (hs : IsSrc B W') : NI B w W' v xs :=
  ⟨hs, h.kp.trans hk, h.row.kept (keep_grownN hk) (.inr h.not), h.hB, h.nn⟩
theorem NI.app {B : Nat} {w W w1 : World} {v v' : Value} {xs ys : List Int} {tmp : Obj} (h : NI B w W v xs)
    (hown' : w1.ownsRow w.heap.size 2 1 v' ys.length (ys.map (Value.int .i64))) (hgrow : (W.alloc tmp).grownBy w1 v.ownBlock) (hne : ys ≠ []) : NI B w w1 v' ys := by
  have hsz := h.kp.size
  have hB := h.hB
  have h1 : Below w.heap.size W w1 := appN_below (Below.refl _ _) hsz h.row hgrow
  refine ⟨h.src.below (h1.mono (by omega)), ⟨h1.os.trans h.kp.os, h1.tape.trans h.kp.tape, h1.output.trans h.kp.output, Nat.le_trans hsz h1.size, fun k hk hB => (h1.block k hk).trans (h.kp.block k hk hB)⟩, hown', hB, ?_⟩
  rcases hown'.2 with ⟨rfl, h0⟩ | ⟨b, cap, cur, rfl, _⟩
  · exact absurd (List.eq_nil_of_length_eq_zero h0) hne
  · exact ⟨_, _, rfl⟩
end Go.Proofs.Ytiakkpglnijapaa
