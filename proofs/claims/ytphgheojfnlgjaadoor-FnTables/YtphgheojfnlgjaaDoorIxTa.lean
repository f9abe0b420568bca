/- A segment at hand that grows. -/
import Derived.Test.YtphgheojfnlgjaaDoorIxQa
import Derived.Deep.RegionHeld3
import Derived.Deep.RegionLaw
import Derived.Deep.AppendLies
namespace Go.Proofs.YtphgheojfnlgjaaDoor
open Go.ChangeShapes Go.WideShapes Go.ChangeAt Go.RowKit
theorem infoStr : (Tryd.prog.info? 9).map (fun i => (i.zero, i.size, i.bytes)) = some (some (.string ⟨#[]⟩), 1, 16) := by kernel_rfl
theorem row_n' {n₀ t k N C : Nat} {W : World} {A : Option Addr} {xs : List Value} (h : W.ownsRow n₀ t 1 (.slice A N C) k xs) : N = k := by
  rcases h.2 with ⟨e, h0⟩ | ⟨g, cap, cur, e, _⟩
  · simp only [Value.slice.injEq] at e
    omega
  · simp only [Value.slice.injEq] at e
    exact e.2.1
theorem row1 (w : World) (t : ByteArray) (hz : t.size ≤ 9223372036854775807) : RowS (w.alloc (.cells #[.string t] 9)) (.slice (some ⟨w.heap.size, 0, none⟩) 1 1) [t] := by
  refine ⟨⟨_, _, rfl, fun _ => ⟨w.heap.size, 0, rfl, fun i s hi => ?_⟩⟩, by simp, fun i s hi => ?_⟩
  · rcases i with _ | i
    · simp at hi
      subst hi
      simp [go_sem]
    · simp at hi
  · rcases i with _ | i
    · simp at hi
      subst hi
      exact hz
    · simp at hi
/-- A segment at hand in block B, the answer's block R ahead of it. -/
structure GB (R B : Nat) (w W : World) (tag : ByteArray) (u : Value) (vals : List Value) (es : List (List ByteArray)) : Prop where
  r : W.heap[R]? = some (.cells #[.string ⟨#[]⟩, .slice none 0 0] 36)
  g : W.heap[B]? = some (.cells #[.string tag, u] 36)
  own : OwnV (B + 1) W u vals es
  bel : Below w.heap.size w W
  wr : w.heap.size ≤ R
  rb : R < B
theorem GB.lt {R B : Nat} {w W : World} {tag : ByteArray} {u : Value} {vals : List Value} {es : List (List ByteArray)} (h : GB R B w W tag u vals es) : B + 1 ≤ W.heap.size := (Array.getElem?_eq_some_iff.1 h.g).1
theorem GB.below {R B : Nat} {w W W' : World} {tag : ByteArray} {u : Value} {vals : List Value} {es : List (List ByteArray)} (h : GB R B w W tag u vals es) (hb : Below W.heap.size W W') : GB R B w W' tag u vals es :=
  ⟨(hb.block _ (Array.getElem?_eq_some_iff.1 h.r).1).trans h.r, (hb.block _ (Array.getElem?_eq_some_iff.1 h.g).1).trans h.g, h.own.below hb, h.bel.trans (hb.mono h.bel.size), h.wr, h.rb⟩
theorem GB.cells {R B : Nat} {w W : World} {tag : ByteArray} {u : Value} {vals : List Value} {es : List (List ByteArray)} (h : GB R B w W tag u vals es) : W.cell? ⟨B, 0, none⟩ = some (.string tag) ∧ W.cell? ⟨B, 1, none⟩ = some u := by
  have := h.g
  exact ⟨by simp [World.cell?, this], by simp [World.cell?, this]⟩
/-- One element more: appended in w4, then stored. -/
theorem GB.push {R B : Nat} {w W W2 W3 w4 : World} {tag : ByteArray} {u x u' : Value} {vals : List Value} {es : List (List ByteArray)} {e : List ByteArray} (h : GB R B w W tag u vals es) (hb2 : Below W.heap.size W W2) (hx : W2.ownsRow W.heap.size 9 1 x e.length (e.map Value.string)) (he : 0 < e.length) (hb3 : Below W2.heap.size W2 W3)
    (hown : w4.ownsRow (B + 1) 55 1 u' (es.length + 1) (vals ++ [x])) (hg : W3.grownBy w4 u.ownBlock) :
    (w4.cell? ⟨B, 1, none⟩ = some u ∧ w4.frozen? ⟨B, 1, none⟩ = false) ∧ GB R B w (w4.setCell ⟨B, 1, none⟩ u') tag u' (vals ++ [x]) (es ++ [e]) := by
  have h3 := (h.below hb2).below hb3
  have l3 := h3.lt
  have q1 := h.wr
  have q2 := h.rb
  have hO := h.own.push h.lt hb2 hx he hb3 hown hg
  have hold : ∀ k, k < B + 1 → w4.heap[k]? = W3.heap[k]? := fun k hk => hg.block k (by omega) (row_lt h3.own.row hk)
  have hgg : w4.heap[B]? = some (.cells #[.string tag, u] 36) := (hold _ (by omega)).trans h3.g
  have hbb : Below w.heap.size W3 w4 := ⟨hg.os, hg.tape, hg.output, hg.size, fun k hk => hold k (by omega)⟩
  have hset : (w4.setCell ⟨B, 1, none⟩ u').heap[B]? = some (.cells #[.string tag, u'] 36) := by
    have := heap_setCell_same w4 B 1 _ _ u' hgg
    simpa using this
  refine ⟨⟨by simp [World.cell?, hgg], by simp [World.frozen?, hgg]⟩, ?_, hset, hO.set (by omega) 1 u', (h3.bel.trans hbb).setCell (show w.heap.size ≤ B by omega) _, q1, q2⟩
  rw [Below.heap_setCell w4 ⟨B, 1, none⟩ u' R (show R ≠ B by omega)]
  exact (hold _ (by omega)).trans h3.r
end Go.Proofs.YtphgheojfnlgjaaDoor
