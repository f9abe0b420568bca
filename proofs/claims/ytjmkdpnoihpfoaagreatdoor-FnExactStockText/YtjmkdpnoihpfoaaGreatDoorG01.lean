/- Texts of ours put together: Flat0, RowSt. -/
import Derived.Test.YtjmkdpnoihpfoaaGreatDoorG00
import Derived.Deep.OwnRows
import Derived.Deep.RegionHeld3
namespace Go.Proofs.YtjmkdpnoihpfoaaGreatDoor
open Go.ChangeShapes Go.WideShapes Go.ChangeAt Go.RowKit
theorem fl_three (w : World) (o0 o1 o2 : Obj) : (((w.alloc o0).alloc o1).alloc o2).heap[w.heap.size]? = some o0 ∧ (((w.alloc o0).alloc o1).alloc o2).heap[w.heap.size + 1]? = some o1 ∧ (((w.alloc o0).alloc o1).alloc o2).heap[w.heap.size + 1 + 1]? = some o2 := by
  have e : (((w.alloc o0).alloc o1).alloc o2).heap = ((w.heap.push o0).push o1).push o2 := rfl
  rw [e]
  simp only [Array.getElem?_push, Array.size_push]
  refine ⟨?_, ?_, ?_⟩
  · rw [if_neg (by omega), if_neg (by omega), if_pos trivial]
  · rw [if_neg (by omega), if_pos trivial]
  · rw [if_pos trivial]
theorem fl_row (w : World) (c : Array Value) (t n : Nat) (hn : c.size = n) : ∃ f, (w.alloc (.cells c t)).rowIs w.heap.size t n f := by
  subst hn
  exact ⟨fun i => c[i]?.getD undef, World.rowIs_alloc w c t _ (fun i hi => by simp [hi])⟩
theorem fl_addr (b o i : Nat) : (⟨b, o, none⟩ : Addr).add i = ⟨b, o + i, none⟩ := by unfold Addr.add; split <;> simp_all
end Go.Proofs.YtjmkdpnoihpfoaaGreatDoor
namespace Go.Proofs.YtjmkdpnoihpfoaaGreatDoor
open Go.ChangeShapes Go.WideShapes Go.ChangeAt Go.RowKit
/-- A Stock. -/
structure Stk where
  item : ByteArray
  hand : Int
/-- Its cells. -/
def AtSt (W : World) (b o : Nat) (g : Stk) : Prop :=
  W.cell? ⟨b, o, none⟩ = some (.string g.item) ∧ W.cell? ⟨b, o + 1, none⟩ = some (.int .i64 g.hand)
theorem AtSt.below {W W' : World} {b o : Nat} {g : Stk} (h : AtSt W b o g) (hb : Below W.heap.size W W') : AtSt W' b o g := by
  obtain ⟨h0, h1⟩ := h
  exact ⟨(hb.cell (cell_lt h0)).trans h0, (hb.cell (cell_lt h1)).trans h1⟩
/-- A list of such. -/
structure RowSt (W : World) (v : Value) (rs : List Stk) : Prop where
  shape : ∃ a cap, v = .slice a rs.length cap ∧ (rs ≠ [] → ∃ b o, a = some ⟨b, o, none⟩ ∧ ∀ (i : Nat) (g : Stk), rs[i]? = some g → AtSt W b (o + i * 2) g)
  len : rs.length ≤ 9223372036854775807
  sizes : ∀ (i : Nat) (g : Stk), rs[i]? = some g → g.item.size ≤ 9223372036854775807
theorem RowSt.below {W W' : World} {v : Value} {rs : List Stk} (h : RowSt W v rs) (hb : Below W.heap.size W W') : RowSt W' v rs := by
  obtain ⟨a, cap, e, hc⟩ := h.shape
  refine ⟨⟨a, cap, e, fun hn => ?_⟩, h.len, h.sizes⟩
  obtain ⟨b, o, ea, hcell⟩ := hc hn
  exact ⟨b, o, ea, fun i g hi => (hcell i g hi).below hb⟩
theorem RowSt.at {W : World} {v : Value} {rs : List Stk} (h : RowSt W v rs) {k : Nat} (hk : k < rs.length) : ∃ b o cap g, v = .slice (some ⟨b, o, none⟩) rs.length cap ∧ rs[k]? = some g ∧ AtSt W b (o + k * 2) g ∧ g.item.size ≤ 9223372036854775807 := by
  obtain ⟨a, cap, e, hc⟩ := h.shape
  obtain ⟨b, o, rfl, hcell⟩ := hc (by intro g; rw [g] at hk; simp at hk)
  have hs : rs[k]? = some rs[k] := List.getElem?_eq_getElem hk
  exact ⟨b, o, cap, _, e, hs, hcell k _ hs, h.sizes k _ hs⟩
theorem RowSt.val {W : World} {v : Value} {rs : List Stk} (h : RowSt W v rs) : ∃ a cap, v = .slice a rs.length cap := by
  obtain ⟨a, cap, e, _⟩ := h.shape
  exact ⟨a, cap, e⟩
theorem RowSt.nil (W : World) : RowSt W (.slice none 0 0) [] := ⟨⟨none, 0, rfl, fun h => absurd rfl h⟩, by simp, fun i g hi => by simp at hi⟩
def BdSt (n : Nat) (rs : List Stk) : Prop := rs.length ≤ n ∧ ∀ (i : Nat) (g : Stk), rs[i]? = some g → g.item.size ≤ n
theorem BdSt.mono {m n : Nat} {rs : List Stk} (h : BdSt m rs) (hmn : m ≤ n) : BdSt n rs := ⟨Nat.le_trans h.1 hmn, fun i g hi => by
  have := h.2 i g hi
  omega⟩
theorem BdSt.len {n : Nat} {rs : List Stk} (h : BdSt n rs) : rs.length ≤ n := h.1
/-- A list in a block of its own, b, whose row may be longer; nil if it has none. -/
structure LSt (b : Nat) (W : World) (v : Value) (rs : List Stk) : Prop where
  shape : ∃ a cap, v = .slice a rs.length cap ∧ (rs ≠ [] → a = some ⟨b, 0, none⟩ ∧ ∃ (n : Nat) (f : Nat → Value), W.rowIs b 59 n f ∧ rs.length * 2 ≤ n ∧ ∀ (i : Nat) (g : Stk), rs[i]? = some g → f (i * 2) = .string g.item ∧ f (i * 2 + 1) = .int .i64 g.hand)
  len : rs.length ≤ 9223372036854775807
  sizes : ∀ (i : Nat) (g : Stk), rs[i]? = some g → g.item.size ≤ 9223372036854775807
theorem LSt.row {b : Nat} {W : World} {v : Value} {rs : List Stk} (h : LSt b W v rs) : RowSt W v rs := by
  obtain ⟨a, cap, e, hc⟩ := h.shape
  refine ⟨⟨a, cap, e, fun hn => ?_⟩, h.len, h.sizes⟩
  obtain ⟨ea, m, f, hR, hm, hf⟩ := hc hn
  refine ⟨b, 0, ea, fun i g hi => ?_⟩
  have hlt := (List.getElem?_eq_some_iff.1 hi).1
  obtain ⟨e0, e1⟩ := hf i g hi
  have c0 := hR.cell (i := i * 2) (by omega)
  rw [e0] at c0
  have c1 := hR.cell (i := i * 2 + 1) (by omega)
  rw [e1] at c1
  rw [Nat.zero_add]
  exact ⟨c0, c1⟩
theorem LSt.of_block {b : Nat} {W W' : World} {v : Value} {rs : List Stk} (h : LSt b W v rs) (hb : rs ≠ [] → W'.heap[b]? = W.heap[b]?) : LSt b W' v rs := by
  obtain ⟨a, cap, e, hc⟩ := h.shape
  refine ⟨⟨a, cap, e, fun hn => ?_⟩, h.len, h.sizes⟩
  obtain ⟨ea, m, f, hR, hm, hf⟩ := hc hn
  exact ⟨ea, m, f, hR.of_block (hb hn), hm, hf⟩
theorem LSt.lt {b : Nat} {W : World} {v : Value} {rs : List Stk} (h : LSt b W v rs) (hn : rs ≠ []) : b < W.heap.size := by
  obtain ⟨a, cap, e, hc⟩ := h.shape
  obtain ⟨ea, m, f, hR, hm, hf⟩ := hc hn
  exact hR.lt
theorem LSt.below {b : Nat} {W W' : World} {v : Value} {rs : List Stk} (h : LSt b W v rs) (hb : Below W.heap.size W W') : LSt b W' v rs := h.of_block fun hn => hb.block b (h.lt hn)
theorem LSt.keep {b c : Nat} {W W' : World} {v : Value} {rs : List Stk} (h : LSt b W v rs) (hb : Keep c W W') (hne : b ≠ c) : LSt b W' v rs := h.of_block fun hn => hb.block b (h.lt hn) hne
theorem LSt.nil (b : Nat) (W : World) : LSt b W (.slice none 0 0) [] := ⟨⟨none, 0, rfl, fun h => absurd rfl h⟩, by simp, fun i g hi => by simp at hi⟩
theorem LSt.val {b : Nat} {W : World} {v : Value} {rs : List Stk} (h : LSt b W v rs) : ∃ a cap, v = .slice a rs.length cap := by
  obtain ⟨a, cap, e, _⟩ := h.shape
  exact ⟨a, cap, e⟩
end Go.Proofs.YtjmkdpnoihpfoaaGreatDoor
