/- What it is that a value is a list of Rule, in a world. -/
import Derived.Test.YtgmbphgkalhceaaFlat0
namespace Go.Proofs.Ytgmbphgkalhceaa
open Go.ChangeShapes Go.WideShapes Go.ChangeAt Go.RowKit
/-- A Rule. -/
structure RulR where
  item : ByteArray
  low : Int
  up : Int
/-- Its cells. -/
def AtRu (W : World) (b o : Nat) (g : RulR) : Prop :=
  W.cell? ⟨b, o, none⟩ = some (.string g.item) ∧ W.cell? ⟨b, o + 1, none⟩ = some (.int .i64 g.low) ∧ W.cell? ⟨b, o + 2, none⟩ = some (.int .i64 g.up)
theorem AtRu.below {W W' : World} {b o : Nat} {g : RulR} (h : AtRu W b o g) (hb : Below W.heap.size W W') : AtRu W' b o g := by
  obtain ⟨h0, h1, h2⟩ := h
  exact ⟨(hb.cell (cell_lt h0)).trans h0, (hb.cell (cell_lt h1)).trans h1, (hb.cell (cell_lt h2)).trans h2⟩
/-- A list of such. -/
structure RowRu (W : World) (v : Value) (rs : List RulR) : Prop where
  shape : ∃ a cap, v = .slice a rs.length cap ∧ (rs ≠ [] → ∃ b o, a = some ⟨b, o, none⟩ ∧ ∀ (i : Nat) (g : RulR), rs[i]? = some g → AtRu W b (o + i * 3) g)
  len : rs.length ≤ 9223372036854775807
  sizes : ∀ (i : Nat) (g : RulR), rs[i]? = some g → g.item.size ≤ 9223372036854775807
theorem RowRu.below {W W' : World} {v : Value} {rs : List RulR} (h : RowRu W v rs) (hb : Below W.heap.size W W') : RowRu W' v rs := by
  obtain ⟨a, cap, e, hc⟩ := h.shape
  refine ⟨⟨a, cap, e, fun hn => ?_⟩, h.len, h.sizes⟩
  obtain ⟨b, o, ea, hcell⟩ := hc hn
  exact ⟨b, o, ea, fun i g hi => (hcell i g hi).below hb⟩
theorem RowRu.at {W : World} {v : Value} {rs : List RulR} (h : RowRu W v rs) {k : Nat} (hk : k < rs.length) : ∃ b o cap g, v = .slice (some ⟨b, o, none⟩) rs.length cap ∧ rs[k]? = some g ∧ AtRu W b (o + k * 3) g ∧ g.item.size ≤ 9223372036854775807 := by
  obtain ⟨a, cap, e, hc⟩ := h.shape
  obtain ⟨b, o, rfl, hcell⟩ := hc (by intro g; rw [g] at hk; simp at hk)
  have hs : rs[k]? = some rs[k] := List.getElem?_eq_getElem hk
  exact ⟨b, o, cap, _, e, hs, hcell k _ hs, h.sizes k _ hs⟩
theorem RowRu.val {W : World} {v : Value} {rs : List RulR} (h : RowRu W v rs) : ∃ a cap, v = .slice a rs.length cap := by
  obtain ⟨a, cap, e, _⟩ := h.shape
  exact ⟨a, cap, e⟩
theorem RowRu.nil (W : World) : RowRu W (.slice none 0 0) [] := ⟨⟨none, 0, rfl, fun h => absurd rfl h⟩, by simp, fun i g hi => by simp at hi⟩
def BdRu (n : Nat) (rs : List RulR) : Prop := rs.length ≤ n ∧ ∀ (i : Nat) (g : RulR), rs[i]? = some g → g.item.size ≤ n
theorem BdRu.mono {m n : Nat} {rs : List RulR} (h : BdRu m rs) (hmn : m ≤ n) : BdRu n rs := ⟨Nat.le_trans h.1 hmn, fun i g hi => by
  have := h.2 i g hi
  omega⟩
theorem BdRu.len {n : Nat} {rs : List RulR} (h : BdRu n rs) : rs.length ≤ n := h.1
/-- A list in a block of its own, b, whose row may be longer; nil if it has none. -/
structure LRu (b : Nat) (W : World) (v : Value) (rs : List RulR) : Prop where
  shape : ∃ a cap, v = .slice a rs.length cap ∧ (rs ≠ [] → a = some ⟨b, 0, none⟩ ∧ ∃ (n : Nat) (f : Nat → Value), W.rowIs b 32 n f ∧ rs.length * 3 ≤ n ∧ ∀ (i : Nat) (g : RulR), rs[i]? = some g → f (i * 3) = .string g.item ∧ f (i * 3 + 1) = .int .i64 g.low ∧ f (i * 3 + 2) = .int .i64 g.up)
  len : rs.length ≤ 9223372036854775807
  sizes : ∀ (i : Nat) (g : RulR), rs[i]? = some g → g.item.size ≤ 9223372036854775807
theorem LRu.row {b : Nat} {W : World} {v : Value} {rs : List RulR} (h : LRu b W v rs) : RowRu W v rs := by
  obtain ⟨a, cap, e, hc⟩ := h.shape
  refine ⟨⟨a, cap, e, fun hn => ?_⟩, h.len, h.sizes⟩
  obtain ⟨ea, m, f, hR, hm, hf⟩ := hc hn
  refine ⟨b, 0, ea, fun i g hi => ?_⟩
  have hlt := (List.getElem?_eq_some_iff.1 hi).1
  obtain ⟨e0, e1, e2⟩ := hf i g hi
  have c0 := hR.cell (i := i * 3) (by omega)
  rw [e0] at c0
  have c1 := hR.cell (i := i * 3 + 1) (by omega)
  rw [e1] at c1
  have c2 := hR.cell (i := i * 3 + 2) (by omega)
  rw [e2] at c2
  rw [Nat.zero_add]
  exact ⟨c0, c1, c2⟩
theorem LRu.of_block {b : Nat} {W W' : World} {v : Value} {rs : List RulR} (h : LRu b W v rs) (hb : rs ≠ [] → W'.heap[b]? = W.heap[b]?) : LRu b W' v rs := by
  obtain ⟨a, cap, e, hc⟩ := h.shape
  refine ⟨⟨a, cap, e, fun hn => ?_⟩, h.len, h.sizes⟩
  obtain ⟨ea, m, f, hR, hm, hf⟩ := hc hn
  exact ⟨ea, m, f, hR.of_block (hb hn), hm, hf⟩
theorem LRu.lt {b : Nat} {W : World} {v : Value} {rs : List RulR} (h : LRu b W v rs) (hn : rs ≠ []) : b < W.heap.size := by
  obtain ⟨a, cap, e, hc⟩ := h.shape
  obtain ⟨ea, m, f, hR, hm, hf⟩ := hc hn
  exact hR.lt
theorem LRu.below {b : Nat} {W W' : World} {v : Value} {rs : List RulR} (h : LRu b W v rs) (hb : Below W.heap.size W W') : LRu b W' v rs := h.of_block fun hn => hb.block b (h.lt hn)
theorem LRu.keep {b c : Nat} {W W' : World} {v : Value} {rs : List RulR} (h : LRu b W v rs) (hb : Keep c W W') (hne : b ≠ c) : LRu b W' v rs := h.of_block fun hn => hb.block b (h.lt hn) hne
theorem LRu.nil (b : Nat) (W : World) : LRu b W (.slice none 0 0) [] := ⟨⟨none, 0, rfl, fun h => absurd rfl h⟩, by simp, fun i g hi => by simp at hi⟩
theorem LRu.val {b : Nat} {W : World} {v : Value} {rs : List RulR} (h : LRu b W v rs) : ∃ a cap, v = .slice a rs.length cap := by
  obtain ⟨a, cap, e, _⟩ := h.shape
  exact ⟨a, cap, e⟩
end Go.Proofs.Ytgmbphgkalhceaa
