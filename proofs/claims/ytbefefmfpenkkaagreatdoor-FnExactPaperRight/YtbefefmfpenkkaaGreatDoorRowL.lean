/- What it is that a value is a list of lines, or a paper, in a world; kept where nothing below a size has changed. -/
import Derived.Test.YtbefefmfpenkkaaGreatDoorDeepRow
namespace Go.Proofs.YtbefefmfpenkkaaGreatDoor
open Go.ChangeShapes Go.WideShapes Go.ChangeAt Go.RowKit
/-- A line. -/
structure Ln where
  no : Int
  item : ByteArray
  qty : Int
  money : Int
  note : ByteArray
def Ln.val (l : Ln) : Value := .agg #[.int .i64 l.no, .string l.item, .int .i64 l.qty, .int .i64 l.money, .string l.note]
/-- A line's five cells. -/
def LnAt (W : World) (b o : Nat) (l : Ln) : Prop :=
  W.cell? ⟨b, o, none⟩ = some (.int .i64 l.no) ∧ W.cell? ⟨b, o + 1, none⟩ = some (.string l.item) ∧ W.cell? ⟨b, o + 2, none⟩ = some (.int .i64 l.qty) ∧ W.cell? ⟨b, o + 3, none⟩ = some (.int .i64 l.money) ∧ W.cell? ⟨b, o + 4, none⟩ = some (.string l.note)
theorem LnAt.below {W W' : World} {b o : Nat} {l : Ln} (h : LnAt W b o l) (hb : Below W.heap.size W W') : LnAt W' b o l := by
  obtain ⟨h0, h1, h2, h3, h4⟩ := h
  exact ⟨(hb.cell (cell_lt h0)).trans h0, (hb.cell (cell_lt h1)).trans h1, (hb.cell (cell_lt h2)).trans h2, (hb.cell (cell_lt h3)).trans h3, (hb.cell (cell_lt h4)).trans h4⟩
/-- A list of lines. -/
structure RowL (W : World) (v : Value) (ls : List Ln) : Prop where
  shape : ∃ a cap, v = .slice a ls.length cap ∧ (ls ≠ [] → ∃ b o, a = some ⟨b, o, none⟩ ∧ ∀ (i : Nat) (l : Ln), ls[i]? = some l → LnAt W b (o + i * 5) l)
  len : ls.length ≤ 9223372036854775807
  sizes : ∀ (i : Nat) (l : Ln), ls[i]? = some l → l.item.size ≤ 9223372036854775807 ∧ l.note.size ≤ 9223372036854775807
theorem RowL.below {W W' : World} {v : Value} {ls : List Ln} (h : RowL W v ls) (hb : Below W.heap.size W W') : RowL W' v ls := by
  obtain ⟨a, cap, e, hc⟩ := h.shape
  refine ⟨⟨a, cap, e, fun hn => ?_⟩, h.len, h.sizes⟩
  obtain ⟨b, o, ea, hcell⟩ := hc hn
  exact ⟨b, o, ea, fun i l hi => (hcell i l hi).below hb⟩
theorem RowL.at {W : World} {v : Value} {ls : List Ln} (h : RowL W v ls) {k : Nat} (hk : k < ls.length) : ∃ b o cap l, v = .slice (some ⟨b, o, none⟩) ls.length cap ∧ ls[k]? = some l ∧ LnAt W b (o + k * 5) l ∧ l.item.size ≤ 9223372036854775807 ∧ l.note.size ≤ 9223372036854775807 := by
  obtain ⟨a, cap, e, hc⟩ := h.shape
  obtain ⟨b, o, rfl, hcell⟩ := hc (by intro g; rw [g] at hk; simp at hk)
  have hs : ls[k]? = some ls[k] := List.getElem?_eq_getElem hk
  exact ⟨b, o, cap, _, e, hs, hcell k _ hs, h.sizes k _ hs⟩
theorem RowL.val {W : World} {v : Value} {ls : List Ln} (h : RowL W v ls) : ∃ a cap, v = .slice a ls.length cap := by
  obtain ⟨a, cap, e, _⟩ := h.shape
  exact ⟨a, cap, e⟩
def BdL (n : Nat) (ls : List Ln) : Prop := ls.length ≤ n ∧ ∀ (i : Nat) (l : Ln), ls[i]? = some l → l.item.size ≤ n ∧ l.note.size ≤ n
theorem BdL.mono {m n : Nat} {ls : List Ln} (h : BdL m ls) (hmn : m ≤ n) : BdL n ls := ⟨Nat.le_trans h.1 hmn, fun i l hi => ⟨Nat.le_trans (h.2 i l hi).1 hmn, Nat.le_trans (h.2 i l hi).2 hmn⟩⟩
/-- A paper. -/
structure Pap where
  kind : Int
  ref : ByteArray
  other : ByteArray
  day : Int
  notes : List ByteArray
  lines : List Ln
/-- A paper's value, its lists behind it. -/
def Pap.val (p : Pap) (vn vl : Value) : Value := .agg #[.int .i64 p.kind, .string p.ref, .string p.other, .int .i64 p.day, vn, vl]
/-- The two lists of a paper. -/
structure PapR (W : World) (vn vl : Value) (p : Pap) : Prop where
  ns : RowS W vn p.notes
  ls : RowL W vl p.lines
  rz : p.ref.size ≤ 9223372036854775807
  oz : p.other.size ≤ 9223372036854775807
theorem PapR.below {W W' : World} {vn vl : Value} {p : Pap} (h : PapR W vn vl p) (hb : Below W.heap.size W W') : PapR W' vn vl p := ⟨h.ns.below hb, h.ls.below hb, h.rz, h.oz⟩
def BdP (n : Nat) (p : Pap) : Prop := p.ref.size ≤ n ∧ p.other.size ≤ n ∧ BdS n p.notes ∧ BdL n p.lines
end Go.Proofs.YtbefefmfpenkkaaGreatDoor
