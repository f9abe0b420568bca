/- What it is that a value is a list of texts, of elements, of segments in a world: readings of memory, kept by whatever keeps what lay there. -/
import Derived.Test.YtphgheojfnlgjaaDoorKeep
import Derived.Test.YtphgheojfnlgjaaDoorRet
import Derived.Deep.QuietTactic
import Derived.BigQuiet
import Derived.BigRegion
namespace Go.Proofs.YtphgheojfnlgjaaDoor
open Go.ChangeShapes Go.WideShapes Go.ChangeAt Go.RowKit
/-- A list of texts. -/
structure RowS (W : World) (v : Value) (ss : List ByteArray) : Prop where
  shape : ∃ a cap, v = .slice a ss.length cap ∧ (ss ≠ [] → ∃ b o, a = some ⟨b, o, none⟩ ∧ ∀ (i : Nat) (s : ByteArray), ss[i]? = some s → W.cell? ⟨b, o + i, none⟩ = some (.string s))
  len : ss.length ≤ 9223372036854775807
  sizes : ∀ (i : Nat) (s : ByteArray), ss[i]? = some s → s.size ≤ 9223372036854775807
theorem RowS.below {W W' : World} {v : Value} {ss : List ByteArray} (h : RowS W v ss) (hb : Below W.heap.size W W') : RowS W' v ss := by
  obtain ⟨a, cap, e, hc⟩ := h.shape
  refine ⟨⟨a, cap, e, fun hn => ?_⟩, h.len, h.sizes⟩
  obtain ⟨b, o, ea, hcell⟩ := hc hn
  exact ⟨b, o, ea, fun i s hi => (hb.cell (p := ⟨b, o + i, none⟩) (cell_lt (hcell i s hi))).trans (hcell i s hi)⟩
theorem RowS.at {W : World} {v : Value} {ss : List ByteArray} (h : RowS W v ss) {k : Nat} (hk : k < ss.length) : ∃ b o cap s, v = .slice (some ⟨b, o, none⟩) ss.length cap ∧ ss[k]? = some s ∧ W.cell? ⟨b, o + k, none⟩ = some (.string s) ∧ s.size ≤ 9223372036854775807 := by
  obtain ⟨a, cap, e, hc⟩ := h.shape
  obtain ⟨b, o, rfl, hcell⟩ := hc (by intro g; rw [g] at hk; simp at hk)
  have hs : ss[k]? = some ss[k] := List.getElem?_eq_getElem hk
  exact ⟨b, o, cap, _, e, hs, hcell k _ hs, h.sizes k _ hs⟩
/-- A list of elements, each a list of texts. -/
structure RowE (W : World) (v : Value) (es : List (List ByteArray)) : Prop where
  shape : ∃ a cap, v = .slice a es.length cap ∧ (es ≠ [] → ∃ b o, a = some ⟨b, o, none⟩ ∧ ∀ (i : Nat) (e : List ByteArray), es[i]? = some e → ∃ u, W.cell? ⟨b, o + i, none⟩ = some u ∧ RowS W u e)
  len : es.length ≤ 9223372036854775807
theorem RowE.below {W W' : World} {v : Value} {es : List (List ByteArray)} (h : RowE W v es) (hb : Below W.heap.size W W') : RowE W' v es := by
  obtain ⟨a, cap, e, hc⟩ := h.shape
  refine ⟨⟨a, cap, e, fun hn => ?_⟩, h.len⟩
  obtain ⟨b, o, ea, hcell⟩ := hc hn
  refine ⟨b, o, ea, fun i s hi => ?_⟩
  obtain ⟨u, h1, h2⟩ := hcell i s hi
  exact ⟨u, (hb.cell (p := ⟨b, o + i, none⟩) (cell_lt h1)).trans h1, h2.below hb⟩
theorem RowE.at {W : World} {v : Value} {es : List (List ByteArray)} (h : RowE W v es) {k : Nat} (hk : k < es.length) : ∃ b o cap e u, v = .slice (some ⟨b, o, none⟩) es.length cap ∧ es[k]? = some e ∧ W.cell? ⟨b, o + k, none⟩ = some u ∧ RowS W u e := by
  obtain ⟨a, cap, e, hc⟩ := h.shape
  obtain ⟨b, o, rfl, hcell⟩ := hc (by intro g; rw [g] at hk; simp at hk)
  have hs : es[k]? = some es[k] := List.getElem?_eq_getElem hk
  obtain ⟨u, h1, h2⟩ := hcell k _ hs
  exact ⟨b, o, cap, _, u, e, hs, h1, h2⟩
theorem RowS.val {W : World} {v : Value} {ss : List ByteArray} (h : RowS W v ss) : ∃ a cap, v = .slice a ss.length cap := by
  obtain ⟨a, cap, e, _⟩ := h.shape
  exact ⟨a, cap, e⟩
theorem RowE.val {W : World} {v : Value} {es : List (List ByteArray)} (h : RowE W v es) : ∃ a cap, v = .slice a es.length cap := by
  obtain ⟨a, cap, e, _⟩ := h.shape
  exact ⟨a, cap, e⟩
/-- Bounded sizes. -/
def BdS (n : Nat) (ss : List ByteArray) : Prop := ss.length ≤ n ∧ ∀ (i : Nat) (s : ByteArray), ss[i]? = some s → s.size ≤ n
def BdE (n : Nat) (es : List (List ByteArray)) : Prop := es.length ≤ n ∧ ∀ (i : Nat) (e : List ByteArray), es[i]? = some e → BdS n e
end Go.Proofs.YtphgheojfnlgjaaDoor
