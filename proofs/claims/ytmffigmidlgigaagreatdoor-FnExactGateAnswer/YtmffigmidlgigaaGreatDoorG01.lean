/- Texts of ours put together: Flat0, RowSn. -/
import Derived.Test.YtmffigmidlgigaaGreatDoorG00
import Derived.Deep.OwnRows
import Derived.Deep.RegionHeld3
namespace Go.Proofs.YtmffigmidlgigaaGreatDoor
open Go.ChangeShapes Go.WideShapes Go.ChangeAt Go.RowKit
theorem fl_three (w : World) (o0 o1 o2 : Obj) : (((w.alloc o0).alloc o1).alloc o2).heap[w.heap.size]? = some o0 ∧ (((w.alloc o0).alloc o1).alloc o2).heap[w.heap.size + 1]? = some o1 ∧ (((w.alloc o0).alloc o1).alloc o2).heap[w.heap.size + 1 + 1]? = some o2 := by
  have e : (((w.alloc o0).alloc o1).alloc o2).heap = ((w.heap.push o0).push o1).push o2 := rfl
  rw [e]
  simp only [Array.getElem?_push, Array.size_push]
  refine ⟨?_, ?_, ?_⟩
  · rw [if_neg (by omega), if_neg (by omega), if_pos trivial]
  · rw [if_neg (by omega), if_pos trivial]
  · rw [if_pos trivial]
theorem fl_row (w : World) (c : Array Value) (t n : Nat) (hn : c.size = n) : ∃ f, (w.alloc (.cells c t)).rowIs w.heap.size t n f := by
  subst hn
  exact ⟨fun i => c[i]?.getD undef, World.rowIs_alloc w c t _ (fun i hi => by simp [hi])⟩
theorem fl_addr (b o i : Nat) : (⟨b, o, none⟩ : Addr).add i = ⟨b, o + i, none⟩ := by unfold Addr.add; split <;> simp_all
end Go.Proofs.YtmffigmidlgigaaGreatDoor
namespace Go.Proofs.YtmffigmidlgigaaGreatDoor
open Go.ChangeShapes Go.WideShapes Go.ChangeAt Go.RowKit
/-- A Seen. -/
structure Sn where
  number : Int
  answer : Int
  code : Int
/-- Its cells. -/
def AtSn (W : World) (b o : Nat) (g : Sn) : Prop :=
  W.cell? ⟨b, o, none⟩ = some (.int .i64 g.number) ∧ W.cell? ⟨b, o + 1, none⟩ = some (.int .i64 g.answer) ∧ W.cell? ⟨b, o + 2, none⟩ = some (.int .i64 g.code)
theorem AtSn.below {W W' : World} {b o : Nat} {g : Sn} (h : AtSn W b o g) (hb : Below W.heap.size W W') : AtSn W' b o g := by
  obtain ⟨h0, h1, h2⟩ := h
  exact ⟨(hb.cell (cell_lt h0)).trans h0, (hb.cell (cell_lt h1)).trans h1, (hb.cell (cell_lt h2)).trans h2⟩
/-- A list of such. -/
structure RowSn (W : World) (v : Value) (rs : List Sn) : Prop where
  shape : ∃ a cap, v = .slice a rs.length cap ∧ (rs ≠ [] → ∃ b o, a = some ⟨b, o, none⟩ ∧ ∀ (i : Nat) (g : Sn), rs[i]? = some g → AtSn W b (o + i * 3) g)
  len : rs.length ≤ 9223372036854775807
theorem RowSn.below {W W' : World} {v : Value} {rs : List Sn} (h : RowSn W v rs) (hb : Below W.heap.size W W') : RowSn W' v rs := by
  obtain ⟨a, cap, e, hc⟩ := h.shape
  refine ⟨⟨a, cap, e, fun hn => ?_⟩, h.len⟩
  obtain ⟨b, o, ea, hcell⟩ := hc hn
  exact ⟨b, o, ea, fun i g hi => (hcell i g hi).below hb⟩
theorem RowSn.at {W : World} {v : Value} {rs : List Sn} (h : RowSn W v rs) {k : Nat} (hk : k < rs.length) : ∃ b o cap g, v = .slice (some ⟨b, o, none⟩) rs.length cap ∧ rs[k]? = some g ∧ AtSn W b (o + k * 3) g := by
  obtain ⟨a, cap, e, hc⟩ := h.shape
  obtain ⟨b, o, rfl, hcell⟩ := hc (by intro g; rw [g] at hk; simp at hk)
  have hs : rs[k]? = some rs[k] := List.getElem?_eq_getElem hk
  exact ⟨b, o, cap, _, e, hs, hcell k _ hs⟩
theorem RowSn.val {W : World} {v : Value} {rs : List Sn} (h : RowSn W v rs) : ∃ a cap, v = .slice a rs.length cap := by
  obtain ⟨a, cap, e, _⟩ := h.shape
  exact ⟨a, cap, e⟩
theorem RowSn.nil (W : World) : RowSn W (.slice none 0 0) [] := ⟨⟨none, 0, rfl, fun h => absurd rfl h⟩, by simp⟩
def BdSn (n : Nat) (rs : List Sn) : Prop := rs.length ≤ n
theorem BdSn.mono {m n : Nat} {rs : List Sn} (h : BdSn m rs) (hmn : m ≤ n) : BdSn n rs := Nat.le_trans h hmn
theorem BdSn.len {n : Nat} {rs : List Sn} (h : BdSn n rs) : rs.length ≤ n := h
/-- A list in a block of its own, b, whose row may be longer; nil if it has none. -/
structure LSn (b : Nat) (W : World) (v : Value) (rs : List Sn) : Prop where
  shape : ∃ a cap, v = .slice a rs.length cap ∧ (rs ≠ [] → a = some ⟨b, 0, none⟩ ∧ ∃ (n : Nat) (f : Nat → Value), W.rowIs b 140 n f ∧ rs.length * 3 ≤ n ∧ ∀ (i : Nat) (g : Sn), rs[i]? = some g → f (i * 3) = .int .i64 g.number ∧ f (i * 3 + 1) = .int .i64 g.answer ∧ f (i * 3 + 2) = .int .i64 g.code)
  len : rs.length ≤ 9223372036854775807
theorem LSn.row {b : Nat} {W : World} {v : Value} {rs : List Sn} (h : LSn b W v rs) : RowSn W v rs := by
  obtain ⟨a, cap, e, hc⟩ := h.shape
  refine ⟨⟨a, cap, e, fun hn => ?_⟩, h.len⟩
  obtain ⟨ea, m, f, hR, hm, hf⟩ := hc hn
  refine ⟨b, 0, ea, fun i g hi => ?_⟩
  have hlt := (List.getElem?_eq_some_iff.1 hi).1
  obtain ⟨e0, e1, e2⟩ := hf i g hi
  have c0 := hR.cell (i := i * 3) (by omega)
  rw [e0] at c0
  have c1 := hR.cell (i := i * 3 + 1) (by omega)
  rw [e1] at c1
  have c2 := hR.cell (i := i * 3 + 2) (by omega)
  rw [e2] at c2
  rw [Nat.zero_add]
  exact ⟨c0, c1, c2⟩
theorem LSn.of_block {b : Nat} {W W' : World} {v : Value} {rs : List Sn} (h : LSn b W v rs) (hb : rs ≠ [] → W'.heap[b]? = W.heap[b]?) : LSn b W' v rs := by
  obtain ⟨a, cap, e, hc⟩ := h.shape
  refine ⟨⟨a, cap, e, fun hn => ?_⟩, h.len⟩
  obtain ⟨ea, m, f, hR, hm, hf⟩ := hc hn
  exact ⟨ea, m, f, hR.of_block (hb hn), hm, hf⟩
theorem LSn.lt {b : Nat} {W : World} {v : Value} {rs : List Sn} (h : LSn b W v rs) (hn : rs ≠ []) : b < W.heap.size := by
  obtain ⟨a, cap, e, hc⟩ := h.shape
  obtain ⟨ea, m, f, hR, hm, hf⟩ := hc hn
  exact hR.lt
theorem LSn.below {b : Nat} {W W' : World} {v : Value} {rs : List Sn} (h : LSn b W v rs) (hb : Below W.heap.size W W') : LSn b W' v rs := h.of_block fun hn => hb.block b (h.lt hn)
theorem LSn.keep {b c : Nat} {W W' : World} {v : Value} {rs : List Sn} (h : LSn b W v rs) (hb : Keep c W W') (hne : b ≠ c) : LSn b W' v rs := h.of_block fun hn => hb.block b (h.lt hn) hne
theorem LSn.nil (b : Nat) (W : World) : LSn b W (.slice none 0 0) [] := ⟨⟨none, 0, rfl, fun h => absurd rfl h⟩, by simp⟩
theorem LSn.val {b : Nat} {W : World} {v : Value} {rs : List Sn} (h : LSn b W v rs) : ∃ a cap, v = .slice a rs.length cap := by
  obtain ⟨a, cap, e, _⟩ := h.shape
  exact ⟨a, cap, e⟩
end Go.Proofs.YtmffigmidlgigaaGreatDoor
