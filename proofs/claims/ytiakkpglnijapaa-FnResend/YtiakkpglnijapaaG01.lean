/- Texts of ours put together: Flat0, RowOu. -/
import Derived.Test.YtiakkpglnijapaaG00
import Derived.Deep.OwnRows
import Derived.Deep.RegionHeld3
namespace Go.Proofs.Ytiakkpglnijapaa
open Go.ChangeShapes Go.WideShapes Go.ChangeAt Go.RowKit
theorem fl_three (w : World) (o0 o1 o2 : Obj) : (((w.alloc o0).alloc o1).alloc o2).heap[w.heap.size]? = some o0 ∧ (((w.alloc o0).alloc o1).alloc o2).heap[w.heap.size + 1]? = some o1 ∧ (((w.alloc o0).alloc o1).alloc o2).heap[w.heap.size + 1 + 1]? = some o2 := by
  have e : (((w.alloc o0).alloc o1).alloc o2).heap = ((w.heap.push o0).push o1).push o2 := rfl
  rw [e]
  simp only [Array.getElem?_push, Array.size_push]
  refine ⟨?_, ?_, ?_⟩
  · rw [if_neg (by omega), if_neg (by omega), if_pos trivial]
  · rw [if_neg (by omega), if_pos trivial]
  · rw [if_pos trivial]
theorem fl_row (w : World) (c : Array Value) (t n : Nat) (hn : c.size = n) : ∃ f, (w.alloc (.cells c t)).rowIs w.heap.size t n f := by
  subst hn
  exact ⟨fun i => c[i]?.getD undef, World.rowIs_alloc w c t _ (fun i hi => by simp [hi])⟩
theorem fl_addr (b o i : Nat) : (⟨b, o, none⟩ : Addr).add i = ⟨b, o + i, none⟩ := by unfold Addr.add; split <;> simp_all
end Go.Proofs.Ytiakkpglnijapaa
namespace Go.Proofs.Ytiakkpglnijapaa
open Go.ChangeShapes Go.WideShapes Go.ChangeAt Go.RowKit
/-- A Out. -/
structure OutR where
  partner : ByteArray
  number : Int
  text : ByteArray
  tries : Int
  due : Int
/-- Its cells. -/
def AtOu (W : World) (b o : Nat) (g : OutR) : Prop :=
  W.cell? ⟨b, o, none⟩ = some (.string g.partner) ∧ W.cell? ⟨b, o + 1, none⟩ = some (.int .i64 g.number) ∧ W.cell? ⟨b, o + 2, none⟩ = some (.string g.text) ∧ W.cell? ⟨b, o + 3, none⟩ = some (.int .i64 g.tries) ∧ W.cell? ⟨b, o + 4, none⟩ = some (.int .i64 g.due)
theorem AtOu.below {W W' : World} {b o : Nat} {g : OutR} (h : AtOu W b o g) (hb : Below W.heap.size W W') : AtOu W' b o g := by
  obtain ⟨h0, h1, h2, h3, h4⟩ := h
  exact ⟨(hb.cell (cell_lt h0)).trans h0, (hb.cell (cell_lt h1)).trans h1, (hb.cell (cell_lt h2)).trans h2, (hb.cell (cell_lt h3)).trans h3, (hb.cell (cell_lt h4)).trans h4⟩
/-- A list of such. -/
structure RowOu (W : World) (v : Value) (rs : List OutR) : Prop where
  shape : ∃ a cap, v = .slice a rs.length cap ∧ (rs ≠ [] → ∃ b o, a = some ⟨b, o, none⟩ ∧ ∀ (i : Nat) (g : OutR), rs[i]? = some g → AtOu W b (o + i * 5) g)
  len : rs.length ≤ 9223372036854775807
  sizes : ∀ (i : Nat) (g : OutR), rs[i]? = some g → g.partner.size ≤ 9223372036854775807 ∧ g.text.size ≤ 9223372036854775807
theorem RowOu.below {W W' : World} {v : Value} {rs : List OutR} (h : RowOu W v rs) (hb : Below W.heap.size W W') : RowOu W' v rs := by
  obtain ⟨a, cap, e, hc⟩ := h.shape
  refine ⟨⟨a, cap, e, fun hn => ?_⟩, h.len, h.sizes⟩
  obtain ⟨b, o, ea, hcell⟩ := hc hn
  exact ⟨b, o, ea, fun i g hi => (hcell i g hi).below hb⟩
theorem RowOu.at {W : World} {v : Value} {rs : List OutR} (h : RowOu W v rs) {k : Nat} (hk : k < rs.length) : ∃ b o cap g, v = .slice (some ⟨b, o, none⟩) rs.length cap ∧ rs[k]? = some g ∧ AtOu W b (o + k * 5) g ∧ g.partner.size ≤ 9223372036854775807 ∧ g.text.size ≤ 9223372036854775807 := by
  obtain ⟨a, cap, e, hc⟩ := h.shape
  obtain ⟨b, o, rfl, hcell⟩ := hc (by intro g; rw [g] at hk; simp at hk)
  have hs : rs[k]? = some rs[k] := List.getElem?_eq_getElem hk
  exact ⟨b, o, cap, _, e, hs, hcell k _ hs, h.sizes k _ hs⟩
theorem RowOu.val {W : World} {v : Value} {rs : List OutR} (h : RowOu W v rs) : ∃ a cap, v = .slice a rs.length cap := by
  obtain ⟨a, cap, e, _⟩ := h.shape
  exact ⟨a, cap, e⟩
theorem RowOu.nil (W : World) : RowOu W (.slice none 0 0) [] := ⟨⟨none, 0, rfl, fun h => absurd rfl h⟩, by simp, fun i g hi => by simp at hi⟩
def BdOu (n : Nat) (rs : List OutR) : Prop := rs.length ≤ n ∧ ∀ (i : Nat) (g : OutR), rs[i]? = some g → g.partner.size ≤ n ∧ g.text.size ≤ n
theorem BdOu.mono {m n : Nat} {rs : List OutR} (h : BdOu m rs) (hmn : m ≤ n) : BdOu n rs := ⟨Nat.le_trans h.1 hmn, fun i g hi => by
  have := h.2 i g hi
  omega⟩
theorem BdOu.len {n : Nat} {rs : List OutR} (h : BdOu n rs) : rs.length ≤ n := h.1
/-- A list in a block of its own, b, whose row may be longer; nil if it has none. -/
structure LOu (b : Nat) (W : World) (v : Value) (rs : List OutR) : Prop where
  shape : ∃ a cap, v = .slice a rs.length cap ∧ (rs ≠ [] → a = some ⟨b, 0, none⟩ ∧ ∃ (n : Nat) (f : Nat → Value), W.rowIs b 25 n f ∧ rs.length * 5 ≤ n ∧ ∀ (i : Nat) (g : OutR), rs[i]? = some g → f (i * 5) = .string g.partner ∧ f (i * 5 + 1) = .int .i64 g.number ∧ f (i * 5 + 2) = .string g.text ∧ f (i * 5 + 3) = .int .i64 g.tries ∧ f (i * 5 + 4) = .int .i64 g.due)
  len : rs.length ≤ 9223372036854775807
  sizes : ∀ (i : Nat) (g : OutR), rs[i]? = some g → g.partner.size ≤ 9223372036854775807 ∧ g.text.size ≤ 9223372036854775807
theorem LOu.row {b : Nat} {W : World} {v : Value} {rs : List OutR} (h : LOu b W v rs) : RowOu W v rs := by
  obtain ⟨a, cap, e, hc⟩ := h.shape
  refine ⟨⟨a, cap, e, fun hn => ?_⟩, h.len, h.sizes⟩
  obtain ⟨ea, m, f, hR, hm, hf⟩ := hc hn
  refine ⟨b, 0, ea, fun i g hi => ?_⟩
  have hlt := (List.getElem?_eq_some_iff.1 hi).1
  obtain ⟨e0, e1, e2, e3, e4⟩ := hf i g hi
  have c0 := hR.cell (i := i * 5) (by omega)
  rw [e0] at c0
  have c1 := hR.cell (i := i * 5 + 1) (by omega)
  rw [e1] at c1
  have c2 := hR.cell (i := i * 5 + 2) (by omega)
  rw [e2] at c2
  have c3 := hR.cell (i := i * 5 + 3) (by omega)
  rw [e3] at c3
  have c4 := hR.cell (i := i * 5 + 4) (by omega)
  rw [e4] at c4
  rw [Nat.zero_add]
  exact ⟨c0, c1, c2, c3, c4⟩
theorem LOu.of_block {b : Nat} {W W' : World} {v : Value} {rs : List OutR} (h : LOu b W v rs) (hb : rs ≠ [] → W'.heap[b]? = W.heap[b]?) : LOu b W' v rs := by
  obtain ⟨a, cap, e, hc⟩ := h.shape
  refine ⟨⟨a, cap, e, fun hn => ?_⟩, h.len, h.sizes⟩
  obtain ⟨ea, m, f, hR, hm, hf⟩ := hc hn
  exact ⟨ea, m, f, hR.of_block (hb hn), hm, hf⟩
theorem LOu.lt {b : Nat} {W : World} {v : Value} {rs : List OutR} (h : LOu b W v rs) (hn : rs ≠ []) : b < W.heap.size := by
  obtain ⟨a, cap, e, hc⟩ := h.shape
  obtain ⟨ea, m, f, hR, hm, hf⟩ := hc hn
  exact hR.lt
theorem LOu.below {b : Nat} {W W' : World} {v : Value} {rs : List OutR} (h : LOu b W v rs) (hb : Below W.heap.size W W') : LOu b W' v rs := h.of_block fun hn => hb.block b (h.lt hn)
theorem LOu.keep {b c : Nat} {W W' : World} {v : Value} {rs : List OutR} (h : LOu b W v rs) (hb : Keep c W W') (hne : b ≠ c) : LOu b W' v rs := h.of_block fun hn => hb.block b (h.lt hn) hne
theorem LOu.nil (b : Nat) (W : World) : LOu b W (.slice none 0 0) [] := ⟨⟨none, 0, rfl, fun h => absurd rfl h⟩, by simp, fun i g hi => by simp at hi⟩
theorem LOu.val {b : Nat} {W : World} {v : Value} {rs : List OutR} (h : LOu b W v rs) : ∃ a cap, v = .slice a rs.length cap := by
  obtain ⟨a, cap, e, _⟩ := h.shape
  exact ⟨a, cap, e⟩
end Go.Proofs.Ytiakkpglnijapaa
