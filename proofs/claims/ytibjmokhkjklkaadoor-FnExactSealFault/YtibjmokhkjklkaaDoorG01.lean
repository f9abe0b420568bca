/- Texts of ours put together: Flat0, RowEv. -/
import Derived.Test.YtibjmokhkjklkaaDoorG00
import Derived.Deep.OwnRows
import Derived.Deep.RegionHeld3
namespace Go.Proofs.YtibjmokhkjklkaaDoor
open Go.ChangeShapes Go.WideShapes Go.ChangeAt Go.RowKit
theorem fl_three (w : World) (o0 o1 o2 : Obj) : (((w.alloc o0).alloc o1).alloc o2).heap[w.heap.size]? = some o0 ∧ (((w.alloc o0).alloc o1).alloc o2).heap[w.heap.size + 1]? = some o1 ∧ (((w.alloc o0).alloc o1).alloc o2).heap[w.heap.size + 1 + 1]? = some o2 := by
  have e : (((w.alloc o0).alloc o1).alloc o2).heap = ((w.heap.push o0).push o1).push o2 := rfl
  rw [e]
  simp only [Array.getElem?_push, Array.size_push]
  refine ⟨?_, ?_, ?_⟩
  · rw [if_neg (by omega), if_neg (by omega), if_pos trivial]
  · rw [if_neg (by omega), if_pos trivial]
  · rw [if_pos trivial]
theorem fl_row (w : World) (c : Array Value) (t n : Nat) (hn : c.size = n) : ∃ f, (w.alloc (.cells c t)).rowIs w.heap.size t n f := by
  subst hn
  exact ⟨fun i => c[i]?.getD undef, World.rowIs_alloc w c t _ (fun i hi => by simp [hi])⟩
theorem fl_addr (b o i : Nat) : (⟨b, o, none⟩ : Addr).add i = ⟨b, o + i, none⟩ := by unfold Addr.add; split <;> simp_all
end Go.Proofs.YtibjmokhkjklkaaDoor
namespace Go.Proofs.YtibjmokhkjklkaaDoor
open Go.ChangeShapes Go.WideShapes Go.ChangeAt Go.RowKit
/-- A Event. -/
structure EvR where
  kind : Int
  a : ByteArray
  b : ByteArray
  c : ByteArray
/-- Its cells. -/
def AtEv (W : World) (b o : Nat) (g : EvR) : Prop :=
  W.cell? ⟨b, o, none⟩ = some (.int .i64 g.kind) ∧ W.cell? ⟨b, o + 1, none⟩ = some (.string g.a) ∧ W.cell? ⟨b, o + 2, none⟩ = some (.string g.b) ∧ W.cell? ⟨b, o + 3, none⟩ = some (.string g.c)
theorem AtEv.below {W W' : World} {b o : Nat} {g : EvR} (h : AtEv W b o g) (hb : Below W.heap.size W W') : AtEv W' b o g := by
  obtain ⟨h0, h1, h2, h3⟩ := h
  exact ⟨(hb.cell (cell_lt h0)).trans h0, (hb.cell (cell_lt h1)).trans h1, (hb.cell (cell_lt h2)).trans h2, (hb.cell (cell_lt h3)).trans h3⟩
/-- A list of such. -/
structure RowEv (W : World) (v : Value) (rs : List EvR) : Prop where
  shape : ∃ a cap, v = .slice a rs.length cap ∧ (rs ≠ [] → ∃ b o, a = some ⟨b, o, none⟩ ∧ ∀ (i : Nat) (g : EvR), rs[i]? = some g → AtEv W b (o + i * 4) g)
  len : rs.length ≤ 9223372036854775807
  sizes : ∀ (i : Nat) (g : EvR), rs[i]? = some g → g.a.size ≤ 9223372036854775807 ∧ g.b.size ≤ 9223372036854775807 ∧ g.c.size ≤ 9223372036854775807
theorem RowEv.below {W W' : World} {v : Value} {rs : List EvR} (h : RowEv W v rs) (hb : Below W.heap.size W W') : RowEv W' v rs := by
  obtain ⟨a, cap, e, hc⟩ := h.shape
  refine ⟨⟨a, cap, e, fun hn => ?_⟩, h.len, h.sizes⟩
  obtain ⟨b, o, ea, hcell⟩ := hc hn
  exact ⟨b, o, ea, fun i g hi => (hcell i g hi).below hb⟩
theorem RowEv.at {W : World} {v : Value} {rs : List EvR} (h : RowEv W v rs) {k : Nat} (hk : k < rs.length) : ∃ b o cap g, v = .slice (some ⟨b, o, none⟩) rs.length cap ∧ rs[k]? = some g ∧ AtEv W b (o + k * 4) g ∧ g.a.size ≤ 9223372036854775807 ∧ g.b.size ≤ 9223372036854775807 ∧ g.c.size ≤ 9223372036854775807 := by
  obtain ⟨a, cap, e, hc⟩ := h.shape
  obtain ⟨b, o, rfl, hcell⟩ := hc (by intro g; rw [g] at hk; simp at hk)
  have hs : rs[k]? = some rs[k] := List.getElem?_eq_getElem hk
  exact ⟨b, o, cap, _, e, hs, hcell k _ hs, h.sizes k _ hs⟩
theorem RowEv.val {W : World} {v : Value} {rs : List EvR} (h : RowEv W v rs) : ∃ a cap, v = .slice a rs.length cap := by
  obtain ⟨a, cap, e, _⟩ := h.shape
  exact ⟨a, cap, e⟩
theorem RowEv.nil (W : World) : RowEv W (.slice none 0 0) [] := ⟨⟨none, 0, rfl, fun h => absurd rfl h⟩, by simp, fun i g hi => by simp at hi⟩
def BdEv (n : Nat) (rs : List EvR) : Prop := rs.length ≤ n ∧ ∀ (i : Nat) (g : EvR), rs[i]? = some g → g.a.size ≤ n ∧ g.b.size ≤ n ∧ g.c.size ≤ n
theorem BdEv.mono {m n : Nat} {rs : List EvR} (h : BdEv m rs) (hmn : m ≤ n) : BdEv n rs := ⟨Nat.le_trans h.1 hmn, fun i g hi => by
  have := h.2 i g hi
  omega⟩
theorem BdEv.len {n : Nat} {rs : List EvR} (h : BdEv n rs) : rs.length ≤ n := h.1
/-- A list in a block of its own, b, whose row may be longer; nil if it has none. -/
structure LEv (b : Nat) (W : World) (v : Value) (rs : List EvR) : Prop where
  shape : ∃ a cap, v = .slice a rs.length cap ∧ (rs ≠ [] → a = some ⟨b, 0, none⟩ ∧ ∃ (n : Nat) (f : Nat → Value), W.rowIs b 40 n f ∧ rs.length * 4 ≤ n ∧ ∀ (i : Nat) (g : EvR), rs[i]? = some g → f (i * 4) = .int .i64 g.kind ∧ f (i * 4 + 1) = .string g.a ∧ f (i * 4 + 2) = .string g.b ∧ f (i * 4 + 3) = .string g.c)
  len : rs.length ≤ 9223372036854775807
  sizes : ∀ (i : Nat) (g : EvR), rs[i]? = some g → g.a.size ≤ 9223372036854775807 ∧ g.b.size ≤ 9223372036854775807 ∧ g.c.size ≤ 9223372036854775807
theorem LEv.row {b : Nat} {W : World} {v : Value} {rs : List EvR} (h : LEv b W v rs) : RowEv W v rs := by
  obtain ⟨a, cap, e, hc⟩ := h.shape
  refine ⟨⟨a, cap, e, fun hn => ?_⟩, h.len, h.sizes⟩
  obtain ⟨ea, m, f, hR, hm, hf⟩ := hc hn
  refine ⟨b, 0, ea, fun i g hi => ?_⟩
  have hlt := (List.getElem?_eq_some_iff.1 hi).1
  obtain ⟨e0, e1, e2, e3⟩ := hf i g hi
  have c0 := hR.cell (i := i * 4) (by omega)
  rw [e0] at c0
  have c1 := hR.cell (i := i * 4 + 1) (by omega)
  rw [e1] at c1
  have c2 := hR.cell (i := i * 4 + 2) (by omega)
  rw [e2] at c2
  have c3 := hR.cell (i := i * 4 + 3) (by omega)
  rw [e3] at c3
  rw [Nat.zero_add]
  exact ⟨c0, c1, c2, c3⟩
theorem LEv.of_block {b : Nat} {W W' : World} {v : Value} {rs : List EvR} (h : LEv b W v rs) (hb : rs ≠ [] → W'.heap[b]? = W.heap[b]?) : LEv b W' v rs := by
  obtain ⟨a, cap, e, hc⟩ := h.shape
  refine ⟨⟨a, cap, e, fun hn => ?_⟩, h.len, h.sizes⟩
  obtain ⟨ea, m, f, hR, hm, hf⟩ := hc hn
  exact ⟨ea, m, f, hR.of_block (hb hn), hm, hf⟩
theorem LEv.lt {b : Nat} {W : World} {v : Value} {rs : List EvR} (h : LEv b W v rs) (hn : rs ≠ []) : b < W.heap.size := by
  obtain ⟨a, cap, e, hc⟩ := h.shape
  obtain ⟨ea, m, f, hR, hm, hf⟩ := hc hn
  exact hR.lt
theorem LEv.below {b : Nat} {W W' : World} {v : Value} {rs : List EvR} (h : LEv b W v rs) (hb : Below W.heap.size W W') : LEv b W' v rs := h.of_block fun hn => hb.block b (h.lt hn)
theorem LEv.keep {b c : Nat} {W W' : World} {v : Value} {rs : List EvR} (h : LEv b W v rs) (hb : Keep c W W') (hne : b ≠ c) : LEv b W' v rs := h.of_block fun hn => hb.block b (h.lt hn) hne
theorem LEv.nil (b : Nat) (W : World) : LEv b W (.slice none 0 0) [] := ⟨⟨none, 0, rfl, fun h => absurd rfl h⟩, by simp, fun i g hi => by simp at hi⟩
theorem LEv.val {b : Nat} {W : World} {v : Value} {rs : List EvR} (h : LEv b W v rs) : ∃ a cap, v = .slice a rs.length cap := by
  obtain ⟨a, cap, e, _⟩ := h.shape
  exact ⟨a, cap, e⟩
end Go.Proofs.YtibjmokhkjklkaaDoor
