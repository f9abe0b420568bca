/- Texts of ours put together: RowBk, RowDf, RowOu, RowGt, SzSn, SzPt, SzPts. -/
import Derived.Test.YtkgkahlhekecmaaGreatG00
namespace Go.Proofs.YtkgkahlhekecmaaGreat
open Go.ChangeShapes Go.WideShapes Go.ChangeAt Go.RowKit
/-- A Book. -/
structure Bk where
  stocks : List Stk
  lines : List OLn
/-- What stands behind its two cells. -/
structure RBk (W : World) (us ul : Value) (b : Bk) : Prop where
  st : RowSt W us b.stocks
  ln : RowOl W ul b.lines
theorem RBk.below {W W' : World} {us ul : Value} {b : Bk} (h : RBk W us ul b) (hb : Below W.heap.size W W') : RBk W' us ul b := ⟨h.st.below hb, h.ln.below hb⟩
def BdBk (n : Nat) (b : Bk) : Prop := BdSt n b.stocks ∧ BdOl n b.lines
theorem BdBk.mono {m n : Nat} {b : Bk} (h : BdBk m b) (hmn : m ≤ n) : BdBk n b := ⟨BdSt.mono h.1 hmn, BdOl.mono h.2 hmn⟩
theorem RBk.val {W : World} {us ul : Value} {b : Bk} (h : RBk W us ul b) : ∃ a c a' c', us = .slice a b.stocks.length c ∧ ul = .slice a' b.lines.length c' := by
  obtain ⟨a, c, e⟩ := h.st.val
  obtain ⟨a', c', e'⟩ := h.ln.val
  exact ⟨a, c, a', c', e, e'⟩
theorem box2 {W : World} {b t : Nat} {x0 x1 : Value} (h : W.heap[b]? = some (.cells #[x0, x1] t)) : W.cell? ⟨b, 0, none⟩ = some x0 ∧ W.cell? ⟨b, 1, none⟩ = some x1 := by
  refine ⟨?_, ?_⟩ <;> simp [World.cell?, h]
theorem frz2 {W : World} {b t : Nat} {x0 x1 : Value} (h : W.heap[b]? = some (.cells #[x0, x1] t)) : ∀ o, W.frozen? ⟨b, o, none⟩ = false := fun o => by simp [World.frozen?, h]
theorem set2a {W : World} {b t : Nat} {x0 x1 : Value} (y : Value) (h : W.heap[b]? = some (.cells #[x0, x1] t)) : (W.setCell ⟨b, 0, none⟩ y).heap[b]? = some (.cells #[y, x1] t) := by
  simp [World.setCell, Array.getElem?_modify, h]
theorem set2b {W : World} {b t : Nat} {x0 x1 : Value} (y : Value) (h : W.heap[b]? = some (.cells #[x0, x1] t)) : (W.setCell ⟨b, 1, none⟩ y).heap[b]? = some (.cells #[x0, y] t) := by
  simp [World.setCell, Array.getElem?_modify, h]
theorem setNe {W : World} {b c i : Nat} (y : Value) (h : b ≠ c) : (W.setCell ⟨c, i, none⟩ y).heap[b]? = W.heap[b]? := by
  simp [World.setCell, Array.getElem?_modify]
  intro e
  omega
end Go.Proofs.YtkgkahlhekecmaaGreat
namespace Go.Proofs.YtkgkahlhekecmaaGreat
open Go.ChangeShapes Go.WideShapes Go.ChangeAt Go.RowKit
/-- A Diff. -/
structure Dff where
  kind : Int
  partner : ByteArray
  ref : ByteArray
  no : Int
  item : ByteArray
  qty : Int
/-- Its cells. -/
def AtDf (W : World) (b o : Nat) (g : Dff) : Prop :=
  W.cell? ⟨b, o, none⟩ = some (.int .i64 g.kind) ∧ W.cell? ⟨b, o + 1, none⟩ = some (.string g.partner) ∧ W.cell? ⟨b, o + 2, none⟩ = some (.string g.ref) ∧ W.cell? ⟨b, o + 3, none⟩ = some (.int .i64 g.no) ∧ W.cell? ⟨b, o + 4, none⟩ = some (.string g.item) ∧ W.cell? ⟨b, o + 5, none⟩ = some (.int .i64 g.qty)
theorem AtDf.below {W W' : World} {b o : Nat} {g : Dff} (h : AtDf W b o g) (hb : Below W.heap.size W W') : AtDf W' b o g := by
  obtain ⟨h0, h1, h2, h3, h4, h5⟩ := h
  exact ⟨(hb.cell (cell_lt h0)).trans h0, (hb.cell (cell_lt h1)).trans h1, (hb.cell (cell_lt h2)).trans h2, (hb.cell (cell_lt h3)).trans h3, (hb.cell (cell_lt h4)).trans h4, (hb.cell (cell_lt h5)).trans h5⟩
/-- A list of such. -/
structure RowDf (W : World) (v : Value) (rs : List Dff) : Prop where
  shape : ∃ a cap, v = .slice a rs.length cap ∧ (rs ≠ [] → ∃ b o, a = some ⟨b, o, none⟩ ∧ ∀ (i : Nat) (g : Dff), rs[i]? = some g → AtDf W b (o + i * 6) g)
  len : rs.length ≤ 9223372036854775807
  sizes : ∀ (i : Nat) (g : Dff), rs[i]? = some g → g.partner.size ≤ 9223372036854775807 ∧ g.ref.size ≤ 9223372036854775807 ∧ g.item.size ≤ 9223372036854775807
theorem RowDf.below {W W' : World} {v : Value} {rs : List Dff} (h : RowDf W v rs) (hb : Below W.heap.size W W') : RowDf W' v rs := by
  obtain ⟨a, cap, e, hc⟩ := h.shape
  refine ⟨⟨a, cap, e, fun hn => ?_⟩, h.len, h.sizes⟩
  obtain ⟨b, o, ea, hcell⟩ := hc hn
  exact ⟨b, o, ea, fun i g hi => (hcell i g hi).below hb⟩
theorem RowDf.at {W : World} {v : Value} {rs : List Dff} (h : RowDf W v rs) {k : Nat} (hk : k < rs.length) : ∃ b o cap g, v = .slice (some ⟨b, o, none⟩) rs.length cap ∧ rs[k]? = some g ∧ AtDf W b (o + k * 6) g ∧ g.partner.size ≤ 9223372036854775807 ∧ g.ref.size ≤ 9223372036854775807 ∧ g.item.size ≤ 9223372036854775807 := by
  obtain ⟨a, cap, e, hc⟩ := h.shape
  obtain ⟨b, o, rfl, hcell⟩ := hc (by intro g; rw [g] at hk; simp at hk)
  have hs : rs[k]? = some rs[k] := List.getElem?_eq_getElem hk
  exact ⟨b, o, cap, _, e, hs, hcell k _ hs, h.sizes k _ hs⟩
theorem RowDf.val {W : World} {v : Value} {rs : List Dff} (h : RowDf W v rs) : ∃ a cap, v = .slice a rs.length cap := by
  obtain ⟨a, cap, e, _⟩ := h.shape
  exact ⟨a, cap, e⟩
theorem RowDf.nil (W : World) : RowDf W (.slice none 0 0) [] := ⟨⟨none, 0, rfl, fun h => absurd rfl h⟩, by simp, fun i g hi => by simp at hi⟩
def BdDf (n : Nat) (rs : List Dff) : Prop := rs.length ≤ n ∧ ∀ (i : Nat) (g : Dff), rs[i]? = some g → g.partner.size ≤ n ∧ g.ref.size ≤ n ∧ g.item.size ≤ n
theorem BdDf.mono {m n : Nat} {rs : List Dff} (h : BdDf m rs) (hmn : m ≤ n) : BdDf n rs := ⟨Nat.le_trans h.1 hmn, fun i g hi => by
  have := h.2 i g hi
  omega⟩
theorem BdDf.len {n : Nat} {rs : List Dff} (h : BdDf n rs) : rs.length ≤ n := h.1
/-- A list in a block of its own, b, whose row may be longer; nil if it has none. -/
structure LDf (b : Nat) (W : World) (v : Value) (rs : List Dff) : Prop where
  shape : ∃ a cap, v = .slice a rs.length cap ∧ (rs ≠ [] → a = some ⟨b, 0, none⟩ ∧ ∃ (n : Nat) (f : Nat → Value), W.rowIs b 110 n f ∧ rs.length * 6 ≤ n ∧ ∀ (i : Nat) (g : Dff), rs[i]? = some g → f (i * 6) = .int .i64 g.kind ∧ f (i * 6 + 1) = .string g.partner ∧ f (i * 6 + 2) = .string g.ref ∧ f (i * 6 + 3) = .int .i64 g.no ∧ f (i * 6 + 4) = .string g.item ∧ f (i * 6 + 5) = .int .i64 g.qty)
  len : rs.length ≤ 9223372036854775807
  sizes : ∀ (i : Nat) (g : Dff), rs[i]? = some g → g.partner.size ≤ 9223372036854775807 ∧ g.ref.size ≤ 9223372036854775807 ∧ g.item.size ≤ 9223372036854775807
theorem LDf.row {b : Nat} {W : World} {v : Value} {rs : List Dff} (h : LDf b W v rs) : RowDf W v rs := by
  obtain ⟨a, cap, e, hc⟩ := h.shape
  refine ⟨⟨a, cap, e, fun hn => ?_⟩, h.len, h.sizes⟩
  obtain ⟨ea, m, f, hR, hm, hf⟩ := hc hn
  refine ⟨b, 0, ea, fun i g hi => ?_⟩
  have hlt := (List.getElem?_eq_some_iff.1 hi).1
  obtain ⟨e0, e1, e2, e3, e4, e5⟩ := hf i g hi
  have c0 := hR.cell (i := i * 6) (by omega)
  rw [e0] at c0
  have c1 := hR.cell (i := i * 6 + 1) (by omega)
  rw [e1] at c1
  have c2 := hR.cell (i := i * 6 + 2) (by omega)
  rw [e2] at c2
  have c3 := hR.cell (i := i * 6 + 3) (by omega)
  rw [e3] at c3
  have c4 := hR.cell (i := i * 6 + 4) (by omega)
  rw [e4] at c4
  have c5 := hR.cell (i := i * 6 + 5) (by omega)
  rw [e5] at c5
  rw [Nat.zero_add]
  exact ⟨c0, c1, c2, c3, c4, c5⟩
theorem LDf.of_block {b : Nat} {W W' : World} {v : Value} {rs : List Dff} (h : LDf b W v rs) (hb : rs ≠ [] → W'.heap[b]? = W.heap[b]?) : LDf b W' v rs := by
  obtain ⟨a, cap, e, hc⟩ := h.shape
  refine ⟨⟨a, cap, e, fun hn => ?_⟩, h.len, h.sizes⟩
  obtain ⟨ea, m, f, hR, hm, hf⟩ := hc hn
  exact ⟨ea, m, f, hR.of_block (hb hn), hm, hf⟩
theorem LDf.lt {b : Nat} {W : World} {v : Value} {rs : List Dff} (h : LDf b W v rs) (hn : rs ≠ []) : b < W.heap.size := by
  obtain ⟨a, cap, e, hc⟩ := h.shape
  obtain ⟨ea, m, f, hR, hm, hf⟩ := hc hn
  exact hR.lt
theorem LDf.below {b : Nat} {W W' : World} {v : Value} {rs : List Dff} (h : LDf b W v rs) (hb : Below W.heap.size W W') : LDf b W' v rs := h.of_block fun hn => hb.block b (h.lt hn)
theorem LDf.keep {b c : Nat} {W W' : World} {v : Value} {rs : List Dff} (h : LDf b W v rs) (hb : Keep c W W') (hne : b ≠ c) : LDf b W' v rs := h.of_block fun hn => hb.block b (h.lt hn) hne
theorem LDf.nil (b : Nat) (W : World) : LDf b W (.slice none 0 0) [] := ⟨⟨none, 0, rfl, fun h => absurd rfl h⟩, by simp, fun i g hi => by simp at hi⟩
theorem LDf.val {b : Nat} {W : World} {v : Value} {rs : List Dff} (h : LDf b W v rs) : ∃ a cap, v = .slice a rs.length cap := by
  obtain ⟨a, cap, e, _⟩ := h.shape
  exact ⟨a, cap, e⟩
end Go.Proofs.YtkgkahlhekecmaaGreat
namespace Go.Proofs.YtkgkahlhekecmaaGreat
open Go.ChangeShapes Go.WideShapes Go.ChangeAt Go.RowKit
/-- A Out. -/
structure OutR where
  partner : ByteArray
  number : Int
  text : ByteArray
  tries : Int
  due : Int
/-- Its cells. -/
def AtOu (W : World) (b o : Nat) (g : OutR) : Prop :=
  W.cell? ⟨b, o, none⟩ = some (.string g.partner) ∧ W.cell? ⟨b, o + 1, none⟩ = some (.int .i64 g.number) ∧ W.cell? ⟨b, o + 2, none⟩ = some (.string g.text) ∧ W.cell? ⟨b, o + 3, none⟩ = some (.int .i64 g.tries) ∧ W.cell? ⟨b, o + 4, none⟩ = some (.int .i64 g.due)
theorem AtOu.below {W W' : World} {b o : Nat} {g : OutR} (h : AtOu W b o g) (hb : Below W.heap.size W W') : AtOu W' b o g := by
  obtain ⟨h0, h1, h2, h3, h4⟩ := h
  exact ⟨(hb.cell (cell_lt h0)).trans h0, (hb.cell (cell_lt h1)).trans h1, (hb.cell (cell_lt h2)).trans h2, (hb.cell (cell_lt h3)).trans h3, (hb.cell (cell_lt h4)).trans h4⟩
/-- A list of such. -/
structure RowOu (W : World) (v : Value) (rs : List OutR) : Prop where
  shape : ∃ a cap, v = .slice a rs.length cap ∧ (rs ≠ [] → ∃ b o, a = some ⟨b, o, none⟩ ∧ ∀ (i : Nat) (g : OutR), rs[i]? = some g → AtOu W b (o + i * 5) g)
  len : rs.length ≤ 9223372036854775807
  sizes : ∀ (i : Nat) (g : OutR), rs[i]? = some g → g.partner.size ≤ 9223372036854775807 ∧ g.text.size ≤ 9223372036854775807
theorem RowOu.below {W W' : World} {v : Value} {rs : List OutR} (h : RowOu W v rs) (hb : Below W.heap.size W W') : RowOu W' v rs := by
  obtain ⟨a, cap, e, hc⟩ := h.shape
  refine ⟨⟨a, cap, e, fun hn => ?_⟩, h.len, h.sizes⟩
  obtain ⟨b, o, ea, hcell⟩ := hc hn
  exact ⟨b, o, ea, fun i g hi => (hcell i g hi).below hb⟩
theorem RowOu.at {W : World} {v : Value} {rs : List OutR} (h : RowOu W v rs) {k : Nat} (hk : k < rs.length) : ∃ b o cap g, v = .slice (some ⟨b, o, none⟩) rs.length cap ∧ rs[k]? = some g ∧ AtOu W b (o + k * 5) g ∧ g.partner.size ≤ 9223372036854775807 ∧ g.text.size ≤ 9223372036854775807 := by
  obtain ⟨a, cap, e, hc⟩ := h.shape
  obtain ⟨b, o, rfl, hcell⟩ := hc (by intro g; rw [g] at hk; simp at hk)
  have hs : rs[k]? = some rs[k] := List.getElem?_eq_getElem hk
  exact ⟨b, o, cap, _, e, hs, hcell k _ hs, h.sizes k _ hs⟩
theorem RowOu.val {W : World} {v : Value} {rs : List OutR} (h : RowOu W v rs) : ∃ a cap, v = .slice a rs.length cap := by
  obtain ⟨a, cap, e, _⟩ := h.shape
  exact ⟨a, cap, e⟩
theorem RowOu.nil (W : World) : RowOu W (.slice none 0 0) [] := ⟨⟨none, 0, rfl, fun h => absurd rfl h⟩, by simp, fun i g hi => by simp at hi⟩
def BdOu (n : Nat) (rs : List OutR) : Prop := rs.length ≤ n ∧ ∀ (i : Nat) (g : OutR), rs[i]? = some g → g.partner.size ≤ n ∧ g.text.size ≤ n
theorem BdOu.mono {m n : Nat} {rs : List OutR} (h : BdOu m rs) (hmn : m ≤ n) : BdOu n rs := ⟨Nat.le_trans h.1 hmn, fun i g hi => by
  have := h.2 i g hi
  omega⟩
theorem BdOu.len {n : Nat} {rs : List OutR} (h : BdOu n rs) : rs.length ≤ n := h.1
/-- A list in a block of its own, b, whose row may be longer; nil if it has none. -/
structure LOu (b : Nat) (W : World) (v : Value) (rs : List OutR) : Prop where
  shape : ∃ a cap, v = .slice a rs.length cap ∧ (rs ≠ [] → a = some ⟨b, 0, none⟩ ∧ ∃ (n : Nat) (f : Nat → Value), W.rowIs b 112 n f ∧ rs.length * 5 ≤ n ∧ ∀ (i : Nat) (g : OutR), rs[i]? = some g → f (i * 5) = .string g.partner ∧ f (i * 5 + 1) = .int .i64 g.number ∧ f (i * 5 + 2) = .string g.text ∧ f (i * 5 + 3) = .int .i64 g.tries ∧ f (i * 5 + 4) = .int .i64 g.due)
  len : rs.length ≤ 9223372036854775807
  sizes : ∀ (i : Nat) (g : OutR), rs[i]? = some g → g.partner.size ≤ 9223372036854775807 ∧ g.text.size ≤ 9223372036854775807
theorem LOu.row {b : Nat} {W : World} {v : Value} {rs : List OutR} (h : LOu b W v rs) : RowOu W v rs := by
  obtain ⟨a, cap, e, hc⟩ := h.shape
  refine ⟨⟨a, cap, e, fun hn => ?_⟩, h.len, h.sizes⟩
  obtain ⟨ea, m, f, hR, hm, hf⟩ := hc hn
  refine ⟨b, 0, ea, fun i g hi => ?_⟩
  have hlt := (List.getElem?_eq_some_iff.1 hi).1
  obtain ⟨e0, e1, e2, e3, e4⟩ := hf i g hi
  have c0 := hR.cell (i := i * 5) (by omega)
  rw [e0] at c0
  have c1 := hR.cell (i := i * 5 + 1) (by omega)
  rw [e1] at c1
  have c2 := hR.cell (i := i * 5 + 2) (by omega)
  rw [e2] at c2
  have c3 := hR.cell (i := i * 5 + 3) (by omega)
  rw [e3] at c3
  have c4 := hR.cell (i := i * 5 + 4) (by omega)
  rw [e4] at c4
  rw [Nat.zero_add]
  exact ⟨c0, c1, c2, c3, c4⟩
theorem LOu.of_block {b : Nat} {W W' : World} {v : Value} {rs : List OutR} (h : LOu b W v rs) (hb : rs ≠ [] → W'.heap[b]? = W.heap[b]?) : LOu b W' v rs := by
  obtain ⟨a, cap, e, hc⟩ := h.shape
  refine ⟨⟨a, cap, e, fun hn => ?_⟩, h.len, h.sizes⟩
  obtain ⟨ea, m, f, hR, hm, hf⟩ := hc hn
  exact ⟨ea, m, f, hR.of_block (hb hn), hm, hf⟩
theorem LOu.lt {b : Nat} {W : World} {v : Value} {rs : List OutR} (h : LOu b W v rs) (hn : rs ≠ []) : b < W.heap.size := by
  obtain ⟨a, cap, e, hc⟩ := h.shape
  obtain ⟨ea, m, f, hR, hm, hf⟩ := hc hn
  exact hR.lt
theorem LOu.below {b : Nat} {W W' : World} {v : Value} {rs : List OutR} (h : LOu b W v rs) (hb : Below W.heap.size W W') : LOu b W' v rs := h.of_block fun hn => hb.block b (h.lt hn)
theorem LOu.keep {b c : Nat} {W W' : World} {v : Value} {rs : List OutR} (h : LOu b W v rs) (hb : Keep c W W') (hne : b ≠ c) : LOu b W' v rs := h.of_block fun hn => hb.block b (h.lt hn) hne
theorem LOu.nil (b : Nat) (W : World) : LOu b W (.slice none 0 0) [] := ⟨⟨none, 0, rfl, fun h => absurd rfl h⟩, by simp, fun i g hi => by simp at hi⟩
theorem LOu.val {b : Nat} {W : World} {v : Value} {rs : List OutR} (h : LOu b W v rs) : ∃ a cap, v = .slice a rs.length cap := by
  obtain ⟨a, cap, e, _⟩ := h.shape
  exact ⟨a, cap, e⟩
end Go.Proofs.YtkgkahlhekecmaaGreat
namespace Go.Proofs.YtkgkahlhekecmaaGreat
open Go.ChangeShapes Go.WideShapes Go.ChangeAt Go.RowKit
/-- A Gate. -/
structure Gat where
  name : ByteArray
  day : Int
  ptns : List Ptn
  crss : List Crs
  book : Bk
  dffs : List Dff
  outs : List OutR
/-- What stands behind its cells. -/
structure RGt (W : World) (up uc us ul ud uo : Value) (g : Gat) : Prop where
  nm : g.name.size ≤ 9223372036854775807
  pt : RowPt W up g.ptns
  cs : RowCs W uc g.crss
  bk : RBk W us ul g.book
  df : RowDf W ud g.dffs
  ou : RowOu W uo g.outs
theorem RGt.below {W W' : World} {up uc us ul ud uo : Value} {g : Gat} (h : RGt W up uc us ul ud uo g) (hb : Below W.heap.size W W') : RGt W' up uc us ul ud uo g := ⟨h.nm, h.pt.below hb, h.cs.below hb, h.bk.below hb, h.df.below hb, h.ou.below hb⟩
def BdGt (n : Nat) (g : Gat) : Prop := g.name.size ≤ n ∧ BdsPt n g.ptns ∧ BdCs n g.crss ∧ BdBk n g.book ∧ BdDf n g.dffs ∧ BdOu n g.outs
theorem RGt.val {W : World} {up uc us ul ud uo : Value} {g : Gat} (h : RGt W up uc us ul ud uo g) : ∃ a0 c0 a1 c1 a2 c2 a3 c3 a4 c4 a5 c5, up = (.slice a0 g.ptns.length c0) ∧ uc = (.slice a1 g.crss.length c1) ∧ us = (.slice a2 g.book.stocks.length c2) ∧ ul = (.slice a3 g.book.lines.length c3) ∧ ud = (.slice a4 g.dffs.length c4) ∧ uo = (.slice a5 g.outs.length c5) := by
  obtain ⟨a0, c0, e0⟩ := h.pt.val
  obtain ⟨a1, c1, e1⟩ := h.cs.val
  obtain ⟨a2, c2, a3, c3, e2, e3⟩ := h.bk.val
  obtain ⟨a4, c4, e4⟩ := h.df.val
  obtain ⟨a5, c5, e5⟩ := h.ou.val
  exact ⟨a0, c0, a1, c1, a2, c2, a3, c3, a4, c4, a5, c5, e0, e1, e2, e3, e4, e5⟩
theorem bx8 {W : World} {b t : Nat} {x0 x1 x2 x3 x4 x5 x6 x7 : Value} (h : W.heap[b]? = some (.cells #[x0, x1, x2, x3, x4, x5, x6, x7] t)) : W.cell? ⟨b, 0, none⟩ = some x0 ∧ W.cell? ⟨b, 1, none⟩ = some x1 ∧ W.cell? ⟨b, 2, none⟩ = some x2 ∧ W.cell? ⟨b, 3, none⟩ = some x3 ∧ W.cell? ⟨b, 4, none⟩ = some x4 ∧ W.cell? ⟨b, 5, none⟩ = some x5 ∧ W.cell? ⟨b, 6, none⟩ = some x6 ∧ W.cell? ⟨b, 7, none⟩ = some x7 := by
  refine ⟨?_, ?_, ?_, ?_, ?_, ?_, ?_, ?_⟩ <;> simp [World.cell?, h]
theorem fz8 {W : World} {b t : Nat} {cs : Array Value} (h : W.heap[b]? = some (.cells cs t)) : ∀ o, W.frozen? ⟨b, o, none⟩ = false := fun o => by simp [World.frozen?, h]
theorem st8_2 {W : World} {b t : Nat} {x0 x1 x2 x3 x4 x5 x6 x7 : Value} (y : Value) (h : W.heap[b]? = some (.cells #[x0, x1, x2, x3, x4, x5, x6, x7] t)) : (W.setCell ⟨b, 2, none⟩ y).heap[b]? = some (.cells #[x0, x1, y, x3, x4, x5, x6, x7] t) := by
  simp [World.setCell, Array.getElem?_modify, h]
theorem st8_3 {W : World} {b t : Nat} {x0 x1 x2 x3 x4 x5 x6 x7 : Value} (y : Value) (h : W.heap[b]? = some (.cells #[x0, x1, x2, x3, x4, x5, x6, x7] t)) : (W.setCell ⟨b, 3, none⟩ y).heap[b]? = some (.cells #[x0, x1, x2, y, x4, x5, x6, x7] t) := by
  simp [World.setCell, Array.getElem?_modify, h]
theorem st8_4 {W : World} {b t : Nat} {x0 x1 x2 x3 x4 x5 x6 x7 : Value} (y : Value) (h : W.heap[b]? = some (.cells #[x0, x1, x2, x3, x4, x5, x6, x7] t)) : (W.setCell ⟨b, 4, none⟩ y).heap[b]? = some (.cells #[x0, x1, x2, x3, y, x5, x6, x7] t) := by
  simp [World.setCell, Array.getElem?_modify, h]
theorem st8_5 {W : World} {b t : Nat} {x0 x1 x2 x3 x4 x5 x6 x7 : Value} (y : Value) (h : W.heap[b]? = some (.cells #[x0, x1, x2, x3, x4, x5, x6, x7] t)) : (W.setCell ⟨b, 5, none⟩ y).heap[b]? = some (.cells #[x0, x1, x2, x3, x4, y, x6, x7] t) := by
  simp [World.setCell, Array.getElem?_modify, h]
theorem st8_6 {W : World} {b t : Nat} {x0 x1 x2 x3 x4 x5 x6 x7 : Value} (y : Value) (h : W.heap[b]? = some (.cells #[x0, x1, x2, x3, x4, x5, x6, x7] t)) : (W.setCell ⟨b, 6, none⟩ y).heap[b]? = some (.cells #[x0, x1, x2, x3, x4, x5, y, x7] t) := by
  simp [World.setCell, Array.getElem?_modify, h]
theorem st8_7 {W : World} {b t : Nat} {x0 x1 x2 x3 x4 x5 x6 x7 : Value} (y : Value) (h : W.heap[b]? = some (.cells #[x0, x1, x2, x3, x4, x5, x6, x7] t)) : (W.setCell ⟨b, 7, none⟩ y).heap[b]? = some (.cells #[x0, x1, x2, x3, x4, x5, x6, y] t) := by
  simp [World.setCell, Array.getElem?_modify, h]
end Go.Proofs.YtkgkahlhekecmaaGreat
namespace Go.Proofs.YtkgkahlhekecmaaGreat
open Go.ChangeShapes Go.WideShapes Go.ChangeAt Go.RowKit
set_option maxHeartbeats 1000000 in
theorem szSns_any (v : Value) (rs : List Sn) (left : Int) (w : World) (h : RowSn w v rs) (hl : 0 ≤ left ∧ left ≤ 1048576) :
    Calls Tryz.prog 88 #[v, .int .i64 left] w fun e w' => ∃ q : Int, e = .returned (.int .i64 q) ∧ (q = -1 ∨ (0 ≤ q ∧ q + (rs.length : Int) ≤ left ∧ BdSn left.toNat rs)) ∧ Below w.heap.size w w' := by
  have hlen := h.len
  obtain ⟨a, cap, rfl⟩ := h.val
  have H : Hid (RowSn w (.slice a rs.length cap) rs) := h
  clear h
  by_cases hn : left < (rs.length : Int)
  · have hn' : left - (rs.length : Int) < 0 := by omega
    go_enter Tryz.func88, Tryz.ntmps88
    go_wp2
    go_ret
    exact ⟨_, rfl, .inl rfl, Below.refl _ _⟩
  · have hn' : ¬ left - (rs.length : Int) < 0 := by omega
    go_enter Tryz.func88, Tryz.ntmps88
    go_wp2
    go_ret
    exact ⟨_, rfl, .inr ⟨by omega, by omega, show rs.length ≤ left.toNat by omega⟩, Below.refl _ _⟩
end Go.Proofs.YtkgkahlhekecmaaGreat
namespace Go.Proofs.YtkgkahlhekecmaaGreat
open Go.ChangeShapes Go.WideShapes Go.ChangeAt Go.RowKit
set_option maxHeartbeats 1000000 in
theorem szPt_any (r : Ptn) (u : Value) (left : Int) (w : World) (h : RPt w u r) (hl : 0 ≤ left ∧ left ≤ 1048576) :
    Calls Tryz.prog 44 #[.agg #[.string r.name, .int .i64 r.low, .int .i64 r.next, u], .int .i64 left] w fun e w' => ∃ q : Int, e = .returned (.int .i64 q) ∧ (q = -1 ∨ (0 ≤ q ∧ q + (r.seen.length : Int) ≤ left ∧ BdPt left.toNat r)) ∧ Below w.heap.size w w' := by
  obtain ⟨name, low, next, seen⟩ := r
  have hz_name : name.size ≤ 9223372036854775807 := h.z_name
  obtain ⟨a, cap, rfl⟩ := h.ls.val
  dsimp only at h ⊢
  have b0 : Below w.heap.size w (w.alloc (.cells #[.string name, .int .i64 low, .int .i64 next, (.slice a seen.length cap)] 87)) := (Below.refl _ _).alloc (Nat.le_refl _) _
  have H : Hid (RowSn (w.alloc (.cells #[.string name, .int .i64 low, .int .i64 next, (.slice a seen.length cap)] 87)) (.slice a seen.length cap) seen) := h.ls.below b0
  clear h
  by_cases h_name : left - (name.size : Int) < 0
  · go_enter Tryz.func44, Tryz.ntmps44
    go_wp2
    go_ret
    exact ⟨_, rfl, .inl rfl, b0⟩
  go_enter Tryz.func44, Tryz.ntmps44
  go_wp2_with fail
  refine (szSns_any _ seen (left - (name.size : Int)) _ H.out ⟨by omega, by omega⟩).mono ?_
  rintro e w1 ⟨q, rfl, hr, hb⟩
  have HB : Hid (Below w.heap.size w w1) := b0.trans (hb.mono (by simp))
  clear hb
  rcases hr with rfl | ⟨g0, g1, g2⟩
  · go_wp2
    go_ret
    exact ⟨_, rfl, .inl rfl, HB.out⟩
  · have g0' : ¬ q < 0 := by omega
    have H2 : Hid (BdSn (left - (name.size : Int)).toNat seen) := g2
    clear g2
    go_wp2
    go_ret
    exact ⟨_, rfl, .inr ⟨by omega, by omega, show name.size ≤ left.toNat by omega, H2.out.mono (by omega)⟩, HB.out⟩
end Go.Proofs.YtkgkahlhekecmaaGreat
namespace Go.Proofs.YtkgkahlhekecmaaGreat
open Go.ChangeShapes Go.WideShapes Go.ChangeAt Go.RowKit
set_option maxHeartbeats 1000000 in
theorem szsPt_any (v : Value) (rs : List Ptn) (left : Int) (w : World) (h : RowPt w v rs) (hl : 0 ≤ left ∧ left ≤ 1048576) :
    Calls Tryz.prog 13 #[v, .int .i64 left] w fun e w' => ∃ q : Int, e = .returned (.int .i64 q) ∧ (q = -1 ∨ (0 ≤ q ∧ q + (snP rs : Int) ≤ left ∧ BdsPt left.toNat rs)) ∧ Below w.heap.size w w' := by
  have hlen := h.len
  obtain ⟨a, cap, rfl⟩ := h.val
  have H : Hid (RowPt w (.slice a rs.length cap) rs) := h
  clear h
  by_cases hn : left < (rs.length : Int)
  · have hn' : left - (rs.length : Int) < 0 := by omega
    go_enter Tryz.func13, Tryz.ntmps13
    go_wp2
    go_ret
    exact ⟨_, rfl, .inl rfl, Below.refl _ _⟩
  · have hn' : ¬ left - (rs.length : Int) < 0 := by omega
    go_enter Tryz.func13, Tryz.ntmps13
    go_wp2
    go_loopw [1, 5] (fun l i wr => ∃ (k : Nat) (r : Int), l = .int .i64 r ∧ i = .int .i64 (k : Int) ∧ k ≤ rs.length ∧ 0 ≤ r ∧ r + (snP (rs.take k) : Int) ≤ left ∧ (∀ (j : Nat) (g : Ptn), j < k → rs[j]? = some g → BdPt left.toNat g) ∧ Below w.heap.size w wr) (fun _ i _ => rs.length - (intOf i).toNat)
    case atStart => exact ⟨0, _, rfl, rfl, by omega, by omega, by simp [snP]; omega, fun j s h => by omega, Below.refl _ _⟩
    case round =>
      obtain ⟨k, r, rfl, rfl, hk, hr0, hr1, hA, hb⟩ := hrel
      have HA : Hid ((∀ (j : Nat) (g : Ptn), j < k → rs[j]? = some g → BdPt left.toNat g) ∧ Below w.heap.size w wr) := ⟨hA, hb⟩
      clear hA hb
      by_cases hlt : k < rs.length
      · have hlt' : (k : Int) < (rs.length : Int) := by omega
        obtain ⟨b, o, cap', g, u, e, hs, ⟨q0, q1, q2, q3⟩, hR⟩ := (H.out.below HA.out.2).at hlt
        simp only [Value.slice.injEq, true_and] at e
        obtain ⟨rfl, rfl⟩ := e
        obtain ⟨n0, c0, rfl⟩ := hR.ls.val
        have HS : Hid (rs[k]? = some g ∧ RPt wr (.slice n0 g.seen.length c0) g) := ⟨hs, hR⟩
        clear hs hR
        go_wp2_with fail
        refine (szPt_any g _ r _ HS.out.2 ⟨hr0, by omega⟩).mono ?_
        rintro e w2 ⟨r2, rfl, hr2, hb2⟩
        have HB : Hid (Below w.heap.size w w2) := HA.out.2.trans (hb2.mono HA.out.2.size)
        clear hb2
        rcases hr2 with rfl | ⟨g0, g1, g2⟩
        · go_wp2
          go_ret
          exact ⟨_, rfl, .inl rfl, HB.out⟩
        · have H2 : Hid (BdPt r.toNat g) := g2
          have g0' : ¬ r2 < 0 := by omega
          clear g2
          go_wp2
          go_roundw
          case rel =>
            refine ⟨k + 1, _, rfl, by go_num, by omega, by omega, by rw [snP_take_succ HS.out.1]; omega, fun j t hj ht => ?_, HB.out⟩
            rcases Nat.lt_or_ge j k with q | q
            · exact HA.out.1 j t q ht
            · obtain rfl : j = k := by omega
              rw [HS.out.1] at ht
              cases ht
              exact H2.out.mono (by omega)
          case measure => simp [intOf]; omega
      · obtain rfl : k = rs.length := by omega
        go_wp2
        go_ret
        refine ⟨r, rfl, .inr ⟨hr0, by rw [List.take_length] at hr1; exact hr1, by omega, fun j s hj => HA.out.1 j s ?_ hj⟩, HA.out.2⟩
        exact (List.getElem?_eq_some_iff.1 hj).1
end Go.Proofs.YtkgkahlhekecmaaGreat
