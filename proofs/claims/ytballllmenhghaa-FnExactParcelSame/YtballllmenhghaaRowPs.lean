/- What it is that a value is a list of papers, or a parcel, in a world. -/
import Derived.Test.YtballllmenhghaaRowL
namespace Go.Proofs.Ytballllmenhghaa
open Go.ChangeShapes Go.WideShapes Go.ChangeAt Go.RowKit
/-- A paper's six cells, its lists behind them. -/
def PapAt (W : World) (b o : Nat) (vn vl : Value) (p : Pap) : Prop :=
  W.cell? ⟨b, o, none⟩ = some (.int .i64 p.kind) ∧ W.cell? ⟨b, o + 1, none⟩ = some (.string p.ref) ∧ W.cell? ⟨b, o + 2, none⟩ = some (.string p.other) ∧ W.cell? ⟨b, o + 3, none⟩ = some (.int .i64 p.day) ∧ W.cell? ⟨b, o + 4, none⟩ = some vn ∧ W.cell? ⟨b, o + 5, none⟩ = some vl
theorem PapAt.below {W W' : World} {b o : Nat} {vn vl : Value} {p : Pap} (h : PapAt W b o vn vl p) (hb : Below W.heap.size W W') : PapAt W' b o vn vl p := by
  obtain ⟨h0, h1, h2, h3, h4, h5⟩ := h
  exact ⟨(hb.cell (cell_lt h0)).trans h0, (hb.cell (cell_lt h1)).trans h1, (hb.cell (cell_lt h2)).trans h2, (hb.cell (cell_lt h3)).trans h3, (hb.cell (cell_lt h4)).trans h4, (hb.cell (cell_lt h5)).trans h5⟩
/-- A list of papers. -/
structure RowPs (W : World) (v : Value) (ps : List Pap) : Prop where
  shape : ∃ a cap, v = .slice a ps.length cap ∧ (ps ≠ [] → ∃ b o, a = some ⟨b, o, none⟩ ∧ ∀ (i : Nat) (p : Pap), ps[i]? = some p → ∃ vn vl, PapAt W b (o + i * 6) vn vl p ∧ PapR W vn vl p)
  len : ps.length ≤ 9223372036854775807
theorem RowPs.below {W W' : World} {v : Value} {ps : List Pap} (h : RowPs W v ps) (hb : Below W.heap.size W W') : RowPs W' v ps := by
  obtain ⟨a, cap, e, hc⟩ := h.shape
  refine ⟨⟨a, cap, e, fun hn => ?_⟩, h.len⟩
  obtain ⟨b, o, ea, hcell⟩ := hc hn
  refine ⟨b, o, ea, fun i p hi => ?_⟩
  obtain ⟨vn, vl, h1, h2⟩ := hcell i p hi
  exact ⟨vn, vl, h1.below hb, h2.below hb⟩
theorem RowPs.at {W : World} {v : Value} {ps : List Pap} (h : RowPs W v ps) {k : Nat} (hk : k < ps.length) : ∃ b o cap p vn vl, v = .slice (some ⟨b, o, none⟩) ps.length cap ∧ ps[k]? = some p ∧ PapAt W b (o + k * 6) vn vl p ∧ PapR W vn vl p := by
  obtain ⟨a, cap, e, hc⟩ := h.shape
  obtain ⟨b, o, rfl, hcell⟩ := hc (by intro g; rw [g] at hk; simp at hk)
  have hs : ps[k]? = some ps[k] := List.getElem?_eq_getElem hk
  obtain ⟨vn, vl, h1, h2⟩ := hcell k _ hs
  exact ⟨b, o, cap, _, vn, vl, e, hs, h1, h2⟩
theorem RowPs.val {W : World} {v : Value} {ps : List Pap} (h : RowPs W v ps) : ∃ a cap, v = .slice a ps.length cap := by
  obtain ⟨a, cap, e, _⟩ := h.shape
  exact ⟨a, cap, e⟩
theorem BdP.mono {m n : Nat} {p : Pap} (h : BdP m p) (hmn : m ≤ n) : BdP n p := ⟨Nat.le_trans h.1 hmn, Nat.le_trans h.2.1 hmn, ⟨Nat.le_trans h.2.2.1.1 hmn, fun i s hi => Nat.le_trans (h.2.2.1.2 i s hi) hmn⟩, h.2.2.2.mono hmn⟩
def BdPs (n : Nat) (ps : List Pap) : Prop := ps.length ≤ n ∧ ∀ (i : Nat) (p : Pap), ps[i]? = some p → BdP n p
theorem BdPs.mono {m n : Nat} {ps : List Pap} (h : BdPs m ps) (hmn : m ≤ n) : BdPs n ps := ⟨Nat.le_trans h.1 hmn, fun i p hi => (h.2 i p hi).mono hmn⟩
/-- A parcel. -/
structure Pcl where
  frm : ByteArray
  to : ByteArray
  num : Int
  papers : List Pap
/-- The list of a parcel. -/
structure PclR (W : World) (v : Value) (p : Pcl) : Prop where
  ps : RowPs W v p.papers
  fz : p.frm.size ≤ 9223372036854775807
  tz : p.to.size ≤ 9223372036854775807
theorem PclR.below {W W' : World} {v : Value} {p : Pcl} (h : PclR W v p) (hb : Below W.heap.size W W') : PclR W' v p := ⟨h.ps.below hb, h.fz, h.tz⟩
def BdPc (n : Nat) (p : Pcl) : Prop := p.frm.size ≤ n ∧ p.to.size ≤ n ∧ BdPs n p.papers
theorem BdPc.mono {m n : Nat} {p : Pcl} (h : BdPc m p) (hmn : m ≤ n) : BdPc n p := ⟨Nat.le_trans h.1 hmn, Nat.le_trans h.2.1 hmn, h.2.2.mono hmn⟩
end Go.Proofs.Ytballllmenhghaa
