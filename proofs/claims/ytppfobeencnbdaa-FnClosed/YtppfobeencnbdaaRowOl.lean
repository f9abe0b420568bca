/- What it is that a value is a list of OrderLine, in a world. -/
import Derived.Test.YtppfobeencnbdaaFlat0
namespace Go.Proofs.Ytppfobeencnbdaa
open Go.ChangeShapes Go.WideShapes Go.ChangeAt Go.RowKit
/-- A OrderLine. -/
structure OLn where
  partner : ByteArray
  ref : ByteArray
  no : Int
  item : ByteArray
  ordered : Int
  sent : Int
  got : Int
  cut : Int
/-- Its cells. -/
def AtOl (W : World) (b o : Nat) (g : OLn) : Prop :=
  W.cell? ⟨b, o, none⟩ = some (.string g.partner) ∧ W.cell? ⟨b, o + 1, none⟩ = some (.string g.ref) ∧ W.cell? ⟨b, o + 2, none⟩ = some (.int .i64 g.no) ∧ W.cell? ⟨b, o + 3, none⟩ = some (.string g.item) ∧ W.cell? ⟨b, o + 4, none⟩ = some (.int .i64 g.ordered) ∧ W.cell? ⟨b, o + 5, none⟩ = some (.int .i64 g.sent) ∧ W.cell? ⟨b, o + 6, none⟩ = some (.int .i64 g.got) ∧ W.cell? ⟨b, o + 7, none⟩ = some (.int .i64 g.cut)
theorem AtOl.below {W W' : World} {b o : Nat} {g : OLn} (h : AtOl W b o g) (hb : Below W.heap.size W W') : AtOl W' b o g := by
  obtain ⟨h0, h1, h2, h3, h4, h5, h6, h7⟩ := h
  exact ⟨(hb.cell (cell_lt h0)).trans h0, (hb.cell (cell_lt h1)).trans h1, (hb.cell (cell_lt h2)).trans h2, (hb.cell (cell_lt h3)).trans h3, (hb.cell (cell_lt h4)).trans h4, (hb.cell (cell_lt h5)).trans h5, (hb.cell (cell_lt h6)).trans h6, (hb.cell (cell_lt h7)).trans h7⟩
/-- A list of such. -/
structure RowOl (W : World) (v : Value) (rs : List OLn) : Prop where
  shape : ∃ a cap, v = .slice a rs.length cap ∧ (rs ≠ [] → ∃ b o, a = some ⟨b, o, none⟩ ∧ ∀ (i : Nat) (g : OLn), rs[i]? = some g → AtOl W b (o + i * 8) g)
  len : rs.length ≤ 9223372036854775807
  sizes : ∀ (i : Nat) (g : OLn), rs[i]? = some g → g.partner.size ≤ 9223372036854775807 ∧ g.ref.size ≤ 9223372036854775807 ∧ g.item.size ≤ 9223372036854775807
theorem RowOl.below {W W' : World} {v : Value} {rs : List OLn} (h : RowOl W v rs) (hb : Below W.heap.size W W') : RowOl W' v rs := by
  obtain ⟨a, cap, e, hc⟩ := h.shape
  refine ⟨⟨a, cap, e, fun hn => ?_⟩, h.len, h.sizes⟩
  obtain ⟨b, o, ea, hcell⟩ := hc hn
  exact ⟨b, o, ea, fun i g hi => (hcell i g hi).below hb⟩
theorem RowOl.at {W : World} {v : Value} {rs : List OLn} (h : RowOl W v rs) {k : Nat} (hk : k < rs.length) : ∃ b o cap g, v = .slice (some ⟨b, o, none⟩) rs.length cap ∧ rs[k]? = some g ∧ AtOl W b (o + k * 8) g ∧ g.partner.size ≤ 9223372036854775807 ∧ g.ref.size ≤ 9223372036854775807 ∧ g.item.size ≤ 9223372036854775807 := by
  obtain ⟨a, cap, e, hc⟩ := h.shape
  obtain ⟨b, o, rfl, hcell⟩ := hc (by intro g; rw [g] at hk; simp at hk)
  have hs : rs[k]? = some rs[k] := List.getElem?_eq_getElem hk
  exact ⟨b, o, cap, _, e, hs, hcell k _ hs, h.sizes k _ hs⟩
theorem RowOl.val {W : World} {v : Value} {rs : List OLn} (h : RowOl W v rs) : ∃ a cap, v = .slice a rs.length cap := by
  obtain ⟨a, cap, e, _⟩ := h.shape
  exact ⟨a, cap, e⟩
theorem RowOl.nil (W : World) : RowOl W (.slice none 0 0) [] := ⟨⟨none, 0, rfl, fun h => absurd rfl h⟩, by simp, fun i g hi => by simp at hi⟩
def BdOl (n : Nat) (rs : List OLn) : Prop := rs.length ≤ n ∧ ∀ (i : Nat) (g : OLn), rs[i]? = some g → g.partner.size ≤ n ∧ g.ref.size ≤ n ∧ g.item.size ≤ n
theorem BdOl.mono {m n : Nat} {rs : List OLn} (h : BdOl m rs) (hmn : m ≤ n) : BdOl n rs := ⟨Nat.le_trans h.1 hmn, fun i g hi => by
  have := h.2 i g hi
  omega⟩
theorem BdOl.len {n : Nat} {rs : List OLn} (h : BdOl n rs) : rs.length ≤ n := h.1
/-- A list in a block of its own, b, whose row may be longer; nil if it has none. -/
structure LOl (b : Nat) (W : World) (v : Value) (rs : List OLn) : Prop where
  shape : ∃ a cap, v = .slice a rs.length cap ∧ (rs ≠ [] → a = some ⟨b, 0, none⟩ ∧ ∃ (n : Nat) (f : Nat → Value), W.rowIs b 31 n f ∧ rs.length * 8 ≤ n ∧ ∀ (i : Nat) (g : OLn), rs[i]? = some g → f (i * 8) = .string g.partner ∧ f (i * 8 + 1) = .string g.ref ∧ f (i * 8 + 2) = .int .i64 g.no ∧ f (i * 8 + 3) = .string g.item ∧ f (i * 8 + 4) = .int .i64 g.ordered ∧ f (i * 8 + 5) = .int .i64 g.sent ∧ f (i * 8 + 6) = .int .i64 g.got ∧ f (i * 8 + 7) = .int .i64 g.cut)
  len : rs.length ≤ 9223372036854775807
  sizes : ∀ (i : Nat) (g : OLn), rs[i]? = some g → g.partner.size ≤ 9223372036854775807 ∧ g.ref.size ≤ 9223372036854775807 ∧ g.item.size ≤ 9223372036854775807
theorem LOl.row {b : Nat} {W : World} {v : Value} {rs : List OLn} (h : LOl b W v rs) : RowOl W v rs := by
  obtain ⟨a, cap, e, hc⟩ := h.shape
  refine ⟨⟨a, cap, e, fun hn => ?_⟩, h.len, h.sizes⟩
  obtain ⟨ea, m, f, hR, hm, hf⟩ := hc hn
  refine ⟨b, 0, ea, fun i g hi => ?_⟩
  have hlt := (List.getElem?_eq_some_iff.1 hi).1
  obtain ⟨e0, e1, e2, e3, e4, e5, e6, e7⟩ := hf i g hi
  have c0 := hR.cell (i := i * 8) (by omega)
  rw [e0] at c0
  have c1 := hR.cell (i := i * 8 + 1) (by omega)
  rw [e1] at c1
  have c2 := hR.cell (i := i * 8 + 2) (by omega)
  rw [e2] at c2
  have c3 := hR.cell (i := i * 8 + 3) (by omega)
  rw [e3] at c3
  have c4 := hR.cell (i := i * 8 + 4) (by omega)
  rw [e4] at c4
  have c5 := hR.cell (i := i * 8 + 5) (by omega)
  rw [e5] at c5
  have c6 := hR.cell (i := i * 8 + 6) (by omega)
  rw [e6] at c6
  have c7 := hR.cell (i := i * 8 + 7) (by omega)
  rw [e7] at c7
  rw [Nat.zero_add]
  exact ⟨c0, c1, c2, c3, c4, c5, c6, c7⟩
theorem LOl.of_block {b : Nat} {W W' : World} {v : Value} {rs : List OLn} (h : LOl b W v rs) (hb : rs ≠ [] → W'.heap[b]? = W.heap[b]?) : LOl b W' v rs := by
  obtain ⟨a, cap, e, hc⟩ := h.shape
  refine ⟨⟨a, cap, e, fun hn => ?_⟩, h.len, h.sizes⟩
  obtain ⟨ea, m, f, hR, hm, hf⟩ := hc hn
  exact ⟨ea, m, f, hR.of_block (hb hn), hm, hf⟩
theorem LOl.lt {b : Nat} {W : World} {v : Value} {rs : List OLn} (h : LOl b W v rs) (hn : rs ≠ []) : b < W.heap.size := by
  obtain ⟨a, cap, e, hc⟩ := h.shape
  obtain ⟨ea, m, f, hR, hm, hf⟩ := hc hn
  exact hR.lt
theorem LOl.below {b : Nat} {W W' : World} {v : Value} {rs : List OLn} (h : LOl b W v rs) (hb : Below W.heap.size W W') : LOl b W' v rs := h.of_block fun hn => hb.block b (h.lt hn)
theorem LOl.keep {b c : Nat} {W W' : World} {v : Value} {rs : List OLn} (h : LOl b W v rs) (hb : Keep c W W') (hne : b ≠ c) : LOl b W' v rs := h.of_block fun hn => hb.block b (h.lt hn) hne
theorem LOl.nil (b : Nat) (W : World) : LOl b W (.slice none 0 0) [] := ⟨⟨none, 0, rfl, fun h => absurd rfl h⟩, by simp, fun i g hi => by simp at hi⟩
theorem LOl.val {b : Nat} {W : World} {v : Value} {rs : List OLn} (h : LOl b W v rs) : ∃ a cap, v = .slice a rs.length cap := by
  obtain ⟨a, cap, e, _⟩ := h.shape
  exact ⟨a, cap, e⟩
end Go.Proofs.Ytppfobeencnbdaa
