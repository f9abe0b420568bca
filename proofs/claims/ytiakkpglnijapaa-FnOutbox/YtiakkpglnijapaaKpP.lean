/- All but the blocks of a set as it lay. -/
import Derived.Test.YtiakkpglnijapaaFlat0
namespace Go.Proofs.Ytiakkpglnijapaa
open Go.ChangeShapes Go.WideShapes Go.ChangeAt Go.RowKit
/-- All but the blocks of a set as it lay. -/
structure KeepP (S : Nat → Prop) (w w' : World) : Prop where
  os : w'.os = w.os
  tape : w'.tape = w.tape
  output : w'.output = w.output
  size : w.heap.size ≤ w'.heap.size
  block : ∀ k, k < w.heap.size → ¬ S k → w'.heap[k]? = w.heap[k]?
theorem KeepP.of_below {S : Nat → Prop} {w w' : World} (h : Below w.heap.size w w') : KeepP S w w' := ⟨h.os, h.tape, h.output, h.size, fun k hk _ => h.block k hk⟩
theorem KeepP.trans {S : Nat → Prop} {a b c : World} (h : KeepP S a b) (h' : KeepP S b c) : KeepP S a c :=
  ⟨h'.os.trans h.os, h'.tape.trans h.tape, h'.output.trans h.output, Nat.le_trans h.size h'.size, fun k hk hs => (h'.block k (Nat.lt_of_lt_of_le hk h.size) hs).trans (h.block k hk hs)⟩
theorem KeepP.mono {S S' : Nat → Prop} {w w' : World} (h : KeepP S w w') (hs : ∀ k, S k → S' k) : KeepP S' w w' := ⟨h.os, h.tape, h.output, h.size, fun k hk hn => h.block k hk fun x => hn (hs k x)⟩
theorem KeepP.below {S : Nat → Prop} {M : Nat} {w w' : World} (h : KeepP S w w') (hs : ∀ k, S k → M ≤ k) (hM : M ≤ w.heap.size) : Below M w w' :=
  ⟨h.os, h.tape, h.output, h.size, fun k hk => h.block k (by omega) fun x => by have := hs k x; omega⟩
end Go.Proofs.Ytiakkpglnijapaa
