/- What stands in an exact law over a segment: nothing old has turned, the argument lies in its block and reads as it did. -/
import Derived.Test.YtjoacjohjhpafaaDoorDeepRow
namespace Go.Proofs.YtjoacjohjhpafaaDoor
open Go.ChangeShapes Go.WideShapes Go.ChangeAt Go.RowKit
/-- Block A holds the segment. -/
structure LG (A t : Nat) (w W : World) (tag : ByteArray) (v : Value) (es : List (List ByteArray)) : Prop where
  bel : Below w.heap.size w W
  blk : W.heap[A]? = some (.cells #[.string tag, v] t)
  row : RowE W v es
theorem LG.below {A t : Nat} {w W W' : World} {tag : ByteArray} {v : Value} {es : List (List ByteArray)} (h : LG A t w W tag v es) (hb : Below W.heap.size W W') : LG A t w W' tag v es :=
  ⟨h.bel.trans (hb.mono h.bel.size), (hb.block A (Array.getElem?_eq_some_iff.1 h.blk).1).trans h.blk, h.row.below hb⟩
theorem LG.c0 {A t : Nat} {w W : World} {tag : ByteArray} {v : Value} {es : List (List ByteArray)} (h : LG A t w W tag v es) : W.cell? ⟨A, 0, none⟩ = some (.string tag) := by
  have := h.blk
  simp [World.cell?, this]
theorem LG.c1 {A t : Nat} {w W : World} {tag : ByteArray} {v : Value} {es : List (List ByteArray)} (h : LG A t w W tag v es) : W.cell? ⟨A, 1, none⟩ = some v := by
  have := h.blk
  simp [World.cell?, this]
theorem LG.lt {A t : Nat} {w W : World} {tag : ByteArray} {v : Value} {es : List (List ByteArray)} (h : LG A t w W tag v es) : A < W.heap.size := (Array.getElem?_eq_some_iff.1 h.blk).1
theorem LG.begun (w : World) (t : Nat) {tag : ByteArray} {v : Value} {es : List (List ByteArray)} (h : RowE w v es) : LG w.heap.size t w (w.alloc (.cells #[.string tag, v] t)) tag v es :=
  ⟨(Below.refl _ _).alloc (Nat.le_refl _) _, World.alloc_heap_new w _, h.below ((Below.refl _ _).alloc (Nat.le_refl _) _)⟩
/-- Another segment's block, made later. -/
theorem LG.made {A t : Nat} {w W : World} {tag : ByteArray} {v : Value} {es : List (List ByteArray)} (h : LG A t w W tag v es) (t' : Nat) {tag' : ByteArray} {v' : Value} {es' : List (List ByteArray)} (h' : RowE W v' es') :
    LG A t w (W.alloc (.cells #[.string tag', v'] t')) tag v es ∧ LG W.heap.size t' w (W.alloc (.cells #[.string tag', v'] t')) tag' v' es' ∧ A ≠ W.heap.size :=
  ⟨h.below ((Below.refl _ _).alloc (Nat.le_refl _) _), ⟨h.bel.alloc h.bel.size _, World.alloc_heap_new W _, h'.below ((Below.refl _ _).alloc (Nat.le_refl _) _)⟩, by have := h.lt; omega⟩
end Go.Proofs.YtjoacjohjhpafaaDoor
