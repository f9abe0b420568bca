/- Texts of ours put together: KpP, RowSe. -/
import Derived.Test.YtiakkpglnijapaaG01
namespace Go.Proofs.Ytiakkpglnijapaa
open Go.ChangeShapes Go.WideShapes Go.ChangeAt Go.RowKit
/-- All but the blocks of a set as it lay. -/
structure KeepP (S : Nat → Prop) (w w' : World) : Prop where
  os : w'.os = w.os
  tape : w'.tape = w.tape
  output : w'.output = w.output
  size : w.heap.size ≤ w'.heap.size
  block : ∀ k, k < w.heap.size → ¬ S k → w'.heap[k]? = w.heap[k]?
theorem KeepP.of_below {S : Nat → Prop} {w w' : World} (h : Below w.heap.size w w') : KeepP S w w' := ⟨h.os, h.tape, h.output, h.size, fun k hk _ => h.block k hk⟩
theorem KeepP.trans {S : Nat → Prop} {a b c : World} (h : KeepP S a b) (h' : KeepP S b c) : KeepP S a c :=
  ⟨h'.os.trans h.os, h'.tape.trans h.tape, h'.output.trans h.output, Nat.le_trans h.size h'.size, fun k hk hs => (h'.block k (Nat.lt_of_lt_of_le hk h.size) hs).trans (h.block k hk hs)⟩
theorem KeepP.mono {S S' : Nat → Prop} {w w' : World} (h : KeepP S w w') (hs : ∀ k, S k → S' k) : KeepP S' w w' := ⟨h.os, h.tape, h.output, h.size, fun k hk hn => h.block k hk fun x => hn (hs k x)⟩
theorem KeepP.below {S : Nat → Prop} {M : Nat} {w w' : World} (h : KeepP S w w') (hs : ∀ k, S k → M ≤ k) (hM : M ≤ w.heap.size) : Below M w w' :=
  ⟨h.os, h.tape, h.output, h.size, fun k hk => h.block k (by omega) fun x => by have := hs k x; omega⟩
end Go.Proofs.Ytiakkpglnijapaa
namespace Go.Proofs.Ytiakkpglnijapaa
open Go.ChangeShapes Go.WideShapes Go.ChangeAt Go.RowKit
/-- A Sent. -/
structure SenR where
  partner : ByteArray
  number : Int
  text : ByteArray
/-- Its cells. -/
def AtSe (W : World) (b o : Nat) (g : SenR) : Prop :=
  W.cell? ⟨b, o, none⟩ = some (.string g.partner) ∧ W.cell? ⟨b, o + 1, none⟩ = some (.int .i64 g.number) ∧ W.cell? ⟨b, o + 2, none⟩ = some (.string g.text)
theorem AtSe.below {W W' : World} {b o : Nat} {g : SenR} (h : AtSe W b o g) (hb : Below W.heap.size W W') : AtSe W' b o g := by
  obtain ⟨h0, h1, h2⟩ := h
  exact ⟨(hb.cell (cell_lt h0)).trans h0, (hb.cell (cell_lt h1)).trans h1, (hb.cell (cell_lt h2)).trans h2⟩
/-- A list of such. -/
structure RowSe (W : World) (v : Value) (rs : List SenR) : Prop where
  shape : ∃ a cap, v = .slice a rs.length cap ∧ (rs ≠ [] → ∃ b o, a = some ⟨b, o, none⟩ ∧ ∀ (i : Nat) (g : SenR), rs[i]? = some g → AtSe W b (o + i * 3) g)
  len : rs.length ≤ 9223372036854775807
  sizes : ∀ (i : Nat) (g : SenR), rs[i]? = some g → g.partner.size ≤ 9223372036854775807 ∧ g.text.size ≤ 9223372036854775807
theorem RowSe.below {W W' : World} {v : Value} {rs : List SenR} (h : RowSe W v rs) (hb : Below W.heap.size W W') : RowSe W' v rs := by
  obtain ⟨a, cap, e, hc⟩ := h.shape
  refine ⟨⟨a, cap, e, fun hn => ?_⟩, h.len, h.sizes⟩
  obtain ⟨b, o, ea, hcell⟩ := hc hn
  exact ⟨b, o, ea, fun i g hi => (hcell i g hi).below hb⟩
theorem RowSe.at {W : World} {v : Value} {rs : List SenR} (h : RowSe W v rs) {k : Nat} (hk : k < rs.length) : ∃ b o cap g, v = .slice (some ⟨b, o, none⟩) rs.length cap ∧ rs[k]? = some g ∧ AtSe W b (o + k * 3) g ∧ g.partner.size ≤ 9223372036854775807 ∧ g.text.size ≤ 9223372036854775807 := by
  obtain ⟨a, cap, e, hc⟩ := h.shape
  obtain ⟨b, o, rfl, hcell⟩ := hc (by intro g; rw [g] at hk; simp at hk)
  have hs : rs[k]? = some rs[k] := List.getElem?_eq_getElem hk
  exact ⟨b, o, cap, _, e, hs, hcell k _ hs, h.sizes k _ hs⟩
theorem RowSe.val {W : World} {v : Value} {rs : List SenR} (h : RowSe W v rs) : ∃ a cap, v = .slice a rs.length cap := by
  obtain ⟨a, cap, e, _⟩ := h.shape
  exact ⟨a, cap, e⟩
theorem RowSe.nil (W : World) : RowSe W (.slice none 0 0) [] := ⟨⟨none, 0, rfl, fun h => absurd rfl h⟩, by simp, fun i g hi => by simp at hi⟩
def BdSe (n : Nat) (rs : List SenR) : Prop := rs.length ≤ n ∧ ∀ (i : Nat) (g : SenR), rs[i]? = some g → g.partner.size ≤ n ∧ g.text.size ≤ n
theorem BdSe.mono {m n : Nat} {rs : List SenR} (h : BdSe m rs) (hmn : m ≤ n) : BdSe n rs := ⟨Nat.le_trans h.1 hmn, fun i g hi => by
  have := h.2 i g hi
  omega⟩
theorem BdSe.len {n : Nat} {rs : List SenR} (h : BdSe n rs) : rs.length ≤ n := h.1
/-- A list in a block of its own, b, whose row may be longer; nil if it has none. -/
structure LSe (b : Nat) (W : World) (v : Value) (rs : List SenR) : Prop where
  shape : ∃ a cap, v = .slice a rs.length cap ∧ (rs ≠ [] → a = some ⟨b, 0, none⟩ ∧ ∃ (n : Nat) (f : Nat → Value), W.rowIs b 66 n f ∧ rs.length * 3 ≤ n ∧ ∀ (i : Nat) (g : SenR), rs[i]? = some g → f (i * 3) = .string g.partner ∧ f (i * 3 + 1) = .int .i64 g.number ∧ f (i * 3 + 2) = .string g.text)
  len : rs.length ≤ 9223372036854775807
  sizes : ∀ (i : Nat) (g : SenR), rs[i]? = some g → g.partner.size ≤ 9223372036854775807 ∧ g.text.size ≤ 9223372036854775807
theorem LSe.row {b : Nat} {W : World} {v : Value} {rs : List SenR} (h : LSe b W v rs) : RowSe W v rs := by
  obtain ⟨a, cap, e, hc⟩ := h.shape
  refine ⟨⟨a, cap, e, fun hn => ?_⟩, h.len, h.sizes⟩
  obtain ⟨ea, m, f, hR, hm, hf⟩ := hc hn
  refine ⟨b, 0, ea, fun i g hi => ?_⟩
  have hlt := (List.getElem?_eq_some_iff.1 hi).1
  obtain ⟨e0, e1, e2⟩ := hf i g hi
  have c0 := hR.cell (i := i * 3) (by omega)
  rw [e0] at c0
  have c1 := hR.cell (i := i * 3 + 1) (by omega)
  rw [e1] at c1
  have c2 := hR.cell (i := i * 3 + 2) (by omega)
  rw [e2] at c2
  rw [Nat.zero_add]
  exact ⟨c0, c1, c2⟩
theorem LSe.of_block {b : Nat} {W W' : World} {v : Value} {rs : List SenR} (h : LSe b W v rs) (hb : rs ≠ [] → W'.heap[b]? = W.heap[b]?) : LSe b W' v rs := by
  obtain ⟨a, cap, e, hc⟩ := h.shape
  refine ⟨⟨a, cap, e, fun hn => ?_⟩, h.len, h.sizes⟩
  obtain ⟨ea, m, f, hR, hm, hf⟩ := hc hn
  exact ⟨ea, m, f, hR.of_block (hb hn), hm, hf⟩
theorem LSe.lt {b : Nat} {W : World} {v : Value} {rs : List SenR} (h : LSe b W v rs) (hn : rs ≠ []) : b < W.heap.size := by
  obtain ⟨a, cap, e, hc⟩ := h.shape
  obtain ⟨ea, m, f, hR, hm, hf⟩ := hc hn
  exact hR.lt
theorem LSe.below {b : Nat} {W W' : World} {v : Value} {rs : List SenR} (h : LSe b W v rs) (hb : Below W.heap.size W W') : LSe b W' v rs := h.of_block fun hn => hb.block b (h.lt hn)
theorem LSe.keep {b c : Nat} {W W' : World} {v : Value} {rs : List SenR} (h : LSe b W v rs) (hb : Keep c W W') (hne : b ≠ c) : LSe b W' v rs := h.of_block fun hn => hb.block b (h.lt hn) hne
theorem LSe.nil (b : Nat) (W : World) : LSe b W (.slice none 0 0) [] := ⟨⟨none, 0, rfl, fun h => absurd rfl h⟩, by simp, fun i g hi => by simp at hi⟩
theorem LSe.val {b : Nat} {W : World} {v : Value} {rs : List SenR} (h : LSe b W v rs) : ∃ a cap, v = .slice a rs.length cap := by
  obtain ⟨a, cap, e, _⟩ := h.shape
  exact ⟨a, cap, e⟩
end Go.Proofs.Ytiakkpglnijapaa
