/- What it is that a value is a list of segments in a world. -/
import Derived.Test.YtphgheojfnlgjaaDoorDeepRow
namespace Go.Proofs.YtphgheojfnlgjaaDoor
open Go.ChangeShapes Go.WideShapes Go.ChangeAt Go.RowKit
abbrev Seg := ByteArray × List (List ByteArray)
/-- A list of segments. -/
structure RowG (W : World) (v : Value) (gs : List Seg) : Prop where
  shape : ∃ a cap, v = .slice a gs.length cap ∧ (gs ≠ [] → ∃ b o, a = some ⟨b, o, none⟩ ∧ ∀ (i : Nat) (g : Seg), gs[i]? = some g → W.cell? ⟨b, o + i * 2, none⟩ = some (.string g.1) ∧ ∃ u, W.cell? ⟨b, o + i * 2 + 1, none⟩ = some u ∧ RowE W u g.2)
  len : gs.length ≤ 9223372036854775807
  sizes : ∀ (i : Nat) (g : Seg), gs[i]? = some g → g.1.size ≤ 9223372036854775807
theorem RowG.below {W W' : World} {v : Value} {gs : List Seg} (h : RowG W v gs) (hb : Below W.heap.size W W') : RowG W' v gs := by
  obtain ⟨a, cap, e, hc⟩ := h.shape
  refine ⟨⟨a, cap, e, fun hn => ?_⟩, h.len, h.sizes⟩
  obtain ⟨b, o, ea, hcell⟩ := hc hn
  refine ⟨b, o, ea, fun i g hi => ?_⟩
  obtain ⟨h1, u, h2, h3⟩ := hcell i g hi
  exact ⟨(hb.cell (p := ⟨b, o + i * 2, none⟩) (cell_lt h1)).trans h1, u, (hb.cell (p := ⟨b, o + i * 2 + 1, none⟩) (cell_lt h2)).trans h2, h3.below hb⟩
theorem RowG.at {W : World} {v : Value} {gs : List Seg} (h : RowG W v gs) {k : Nat} (hk : k < gs.length) : ∃ b o cap g u, v = .slice (some ⟨b, o, none⟩) gs.length cap ∧ gs[k]? = some g ∧ W.cell? ⟨b, o + k * 2, none⟩ = some (.string g.1) ∧ W.cell? ⟨b, o + k * 2 + 1, none⟩ = some u ∧ RowE W u g.2 ∧ g.1.size ≤ 9223372036854775807 := by
  obtain ⟨a, cap, e, hc⟩ := h.shape
  obtain ⟨b, o, rfl, hcell⟩ := hc (by intro g; rw [g] at hk; simp at hk)
  have hs : gs[k]? = some gs[k] := List.getElem?_eq_getElem hk
  obtain ⟨h1, u, h2, h3⟩ := hcell k _ hs
  exact ⟨b, o, cap, _, u, e, hs, h1, h2, h3, h.sizes k _ hs⟩
theorem RowG.val {W : World} {v : Value} {gs : List Seg} (h : RowG W v gs) : ∃ a cap, v = .slice a gs.length cap := by
  obtain ⟨a, cap, e, _⟩ := h.shape
  exact ⟨a, cap, e⟩
def BdG (n : Nat) (gs : List Seg) : Prop := gs.length ≤ n ∧ ∀ (i : Nat) (g : Seg), gs[i]? = some g → g.1.size ≤ n ∧ BdE n g.2
end Go.Proofs.YtphgheojfnlgjaaDoor
