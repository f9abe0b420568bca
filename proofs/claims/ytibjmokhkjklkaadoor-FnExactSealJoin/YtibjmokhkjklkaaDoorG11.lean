/- Texts of ours put together: RowCs. -/
import Derived.Test.YtibjmokhkjklkaaDoorG01
namespace Go.Proofs.YtibjmokhkjklkaaDoor
open Go.ChangeShapes Go.WideShapes Go.ChangeAt Go.RowKit
/-- A Cross. -/
structure Crs where
  partner : ByteArray
  theirs : ByteArray
  own : ByteArray
/-- Its cells. -/
def AtCs (W : World) (b o : Nat) (g : Crs) : Prop :=
  W.cell? ⟨b, o, none⟩ = some (.string g.partner) ∧ W.cell? ⟨b, o + 1, none⟩ = some (.string g.theirs) ∧ W.cell? ⟨b, o + 2, none⟩ = some (.string g.own)
theorem AtCs.below {W W' : World} {b o : Nat} {g : Crs} (h : AtCs W b o g) (hb : Below W.heap.size W W') : AtCs W' b o g := by
  obtain ⟨h0, h1, h2⟩ := h
  exact ⟨(hb.cell (cell_lt h0)).trans h0, (hb.cell (cell_lt h1)).trans h1, (hb.cell (cell_lt h2)).trans h2⟩
/-- A list of such. -/
structure RowCs (W : World) (v : Value) (rs : List Crs) : Prop where
  shape : ∃ a cap, v = .slice a rs.length cap ∧ (rs ≠ [] → ∃ b o, a = some ⟨b, o, none⟩ ∧ ∀ (i : Nat) (g : Crs), rs[i]? = some g → AtCs W b (o + i * 3) g)
  len : rs.length ≤ 9223372036854775807
  sizes : ∀ (i : Nat) (g : Crs), rs[i]? = some g → g.partner.size ≤ 9223372036854775807 ∧ g.theirs.size ≤ 9223372036854775807 ∧ g.own.size ≤ 9223372036854775807
theorem RowCs.below {W W' : World} {v : Value} {rs : List Crs} (h : RowCs W v rs) (hb : Below W.heap.size W W') : RowCs W' v rs := by
  obtain ⟨a, cap, e, hc⟩ := h.shape
  refine ⟨⟨a, cap, e, fun hn => ?_⟩, h.len, h.sizes⟩
  obtain ⟨b, o, ea, hcell⟩ := hc hn
  exact ⟨b, o, ea, fun i g hi => (hcell i g hi).below hb⟩
theorem RowCs.at {W : World} {v : Value} {rs : List Crs} (h : RowCs W v rs) {k : Nat} (hk : k < rs.length) : ∃ b o cap g, v = .slice (some ⟨b, o, none⟩) rs.length cap ∧ rs[k]? = some g ∧ AtCs W b (o + k * 3) g ∧ g.partner.size ≤ 9223372036854775807 ∧ g.theirs.size ≤ 9223372036854775807 ∧ g.own.size ≤ 9223372036854775807 := by
  obtain ⟨a, cap, e, hc⟩ := h.shape
  obtain ⟨b, o, rfl, hcell⟩ := hc (by intro g; rw [g] at hk; simp at hk)
  have hs : rs[k]? = some rs[k] := List.getElem?_eq_getElem hk
  exact ⟨b, o, cap, _, e, hs, hcell k _ hs, h.sizes k _ hs⟩
theorem RowCs.val {W : World} {v : Value} {rs : List Crs} (h : RowCs W v rs) : ∃ a cap, v = .slice a rs.length cap := by
  obtain ⟨a, cap, e, _⟩ := h.shape
  exact ⟨a, cap, e⟩
theorem RowCs.nil (W : World) : RowCs W (.slice none 0 0) [] := ⟨⟨none, 0, rfl, fun h => absurd rfl h⟩, by simp, fun i g hi => by simp at hi⟩
def BdCs (n : Nat) (rs : List Crs) : Prop := rs.length ≤ n ∧ ∀ (i : Nat) (g : Crs), rs[i]? = some g → g.partner.size ≤ n ∧ g.theirs.size ≤ n ∧ g.own.size ≤ n
theorem BdCs.mono {m n : Nat} {rs : List Crs} (h : BdCs m rs) (hmn : m ≤ n) : BdCs n rs := ⟨Nat.le_trans h.1 hmn, fun i g hi => by
  have := h.2 i g hi
  omega⟩
theorem BdCs.len {n : Nat} {rs : List Crs} (h : BdCs n rs) : rs.length ≤ n := h.1
/-- A list in a block of its own, b, whose row may be longer; nil if it has none. -/
structure LCs (b : Nat) (W : World) (v : Value) (rs : List Crs) : Prop where
  shape : ∃ a cap, v = .slice a rs.length cap ∧ (rs ≠ [] → a = some ⟨b, 0, none⟩ ∧ ∃ (n : Nat) (f : Nat → Value), W.rowIs b 68 n f ∧ rs.length * 3 ≤ n ∧ ∀ (i : Nat) (g : Crs), rs[i]? = some g → f (i * 3) = .string g.partner ∧ f (i * 3 + 1) = .string g.theirs ∧ f (i * 3 + 2) = .string g.own)
  len : rs.length ≤ 9223372036854775807
  sizes : ∀ (i : Nat) (g : Crs), rs[i]? = some g → g.partner.size ≤ 9223372036854775807 ∧ g.theirs.size ≤ 9223372036854775807 ∧ g.own.size ≤ 9223372036854775807
theorem LCs.row {b : Nat} {W : World} {v : Value} {rs : List Crs} (h : LCs b W v rs) : RowCs W v rs := by
  obtain ⟨a, cap, e, hc⟩ := h.shape
  refine ⟨⟨a, cap, e, fun hn => ?_⟩, h.len, h.sizes⟩
  obtain ⟨ea, m, f, hR, hm, hf⟩ := hc hn
  refine ⟨b, 0, ea, fun i g hi => ?_⟩
  have hlt := (List.getElem?_eq_some_iff.1 hi).1
  obtain ⟨e0, e1, e2⟩ := hf i g hi
  have c0 := hR.cell (i := i * 3) (by omega)
  rw [e0] at c0
  have c1 := hR.cell (i := i * 3 + 1) (by omega)
  rw [e1] at c1
  have c2 := hR.cell (i := i * 3 + 2) (by omega)
  rw [e2] at c2
  rw [Nat.zero_add]
  exact ⟨c0, c1, c2⟩
theorem LCs.of_block {b : Nat} {W W' : World} {v : Value} {rs : List Crs} (h : LCs b W v rs) (hb : rs ≠ [] → W'.heap[b]? = W.heap[b]?) : LCs b W' v rs := by
  obtain ⟨a, cap, e, hc⟩ := h.shape
  refine ⟨⟨a, cap, e, fun hn => ?_⟩, h.len, h.sizes⟩
  obtain ⟨ea, m, f, hR, hm, hf⟩ := hc hn
  exact ⟨ea, m, f, hR.of_block (hb hn), hm, hf⟩
theorem LCs.lt {b : Nat} {W : World} {v : Value} {rs : List Crs} (h : LCs b W v rs) (hn : rs ≠ []) : b < W.heap.size := by
  obtain ⟨a, cap, e, hc⟩ := h.shape
  obtain ⟨ea, m, f, hR, hm, hf⟩ := hc hn
  exact hR.lt
theorem LCs.below {b : Nat} {W W' : World} {v : Value} {rs : List Crs} (h : LCs b W v rs) (hb : Below W.heap.size W W') : LCs b W' v rs := h.of_block fun hn => hb.block b (h.lt hn)
theorem LCs.keep {b c : Nat} {W W' : World} {v : Value} {rs : List Crs} (h : LCs b W v rs) (hb : Keep c W W') (hne : b ≠ c) : LCs b W' v rs := h.of_block fun hn => hb.block b (h.lt hn) hne
theorem LCs.nil (b : Nat) (W : World) : LCs b W (.slice none 0 0) [] := ⟨⟨none, 0, rfl, fun h => absurd rfl h⟩, by simp, fun i g hi => by simp at hi⟩
theorem LCs.val {b : Nat} {W : World} {v : Value} {rs : List Crs} (h : LCs b W v rs) : ∃ a cap, v = .slice a rs.length cap := by
  obtain ⟨a, cap, e, _⟩ := h.shape
  exact ⟨a, cap, e⟩
end Go.Proofs.YtibjmokhkjklkaaDoor
