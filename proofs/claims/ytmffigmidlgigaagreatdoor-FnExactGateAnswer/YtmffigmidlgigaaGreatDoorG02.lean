/- Texts of ours put together: RowPt, RowPts. -/
import Derived.Test.YtmffigmidlgigaaGreatDoorG01
namespace Go.Proofs.YtmffigmidlgigaaGreatDoor
open Go.ChangeShapes Go.WideShapes Go.ChangeAt Go.RowKit
/-- A Partner. -/
structure Ptn where
  name : ByteArray
  low : Int
  next : Int
  seen : List Sn
/-- What stands behind its cells. -/
structure RPt (W : World) (u : Value) (r : Ptn) : Prop where
  ls : RowSn W u r.seen
  z_name : r.name.size ≤ 9223372036854775807
theorem RPt.below {W W' : World} {u : Value} {r : Ptn} (h : RPt W u r) (hb : Below W.heap.size W W') : RPt W' u r := ⟨h.ls.below hb, h.z_name⟩
def BdPt (n : Nat) (r : Ptn) : Prop := r.name.size ≤ n ∧ BdSn n r.seen
theorem BdPt.mono {m n : Nat} {r : Ptn} (h : BdPt m r) (hmn : m ≤ n) : BdPt n r := ⟨Nat.le_trans h.1 hmn, BdSn.mono h.2 hmn⟩
end Go.Proofs.YtmffigmidlgigaaGreatDoor
namespace Go.Proofs.YtmffigmidlgigaaGreatDoor
open Go.ChangeShapes Go.WideShapes Go.ChangeAt Go.RowKit
def AtPt (W : World) (b o : Nat) (u : Value) (r : Ptn) : Prop :=
  W.cell? ⟨b, o, none⟩ = some (.string r.name) ∧ W.cell? ⟨b, o + 1, none⟩ = some (.int .i64 r.low) ∧ W.cell? ⟨b, o + 2, none⟩ = some (.int .i64 r.next) ∧ W.cell? ⟨b, o + 3, none⟩ = some (u)
theorem AtPt.below {W W' : World} {b o : Nat} {u : Value} {r : Ptn} (h : AtPt W b o u r) (hb : Below W.heap.size W W') : AtPt W' b o u r := by
  obtain ⟨h0, h1, h2, h3⟩ := h
  exact ⟨(hb.cell (cell_lt h0)).trans h0, (hb.cell (cell_lt h1)).trans h1, (hb.cell (cell_lt h2)).trans h2, (hb.cell (cell_lt h3)).trans h3⟩
/-- A list of such. -/
structure RowPt (W : World) (v : Value) (rs : List Ptn) : Prop where
  shape : ∃ a cap, v = .slice a rs.length cap ∧ (rs ≠ [] → ∃ b o, a = some ⟨b, o, none⟩ ∧ ∀ (i : Nat) (r : Ptn), rs[i]? = some r → ∃ u, AtPt W b (o + i * 4) u r ∧ RPt W u r)
  len : rs.length ≤ 9223372036854775807
theorem RowPt.below {W W' : World} {v : Value} {rs : List Ptn} (h : RowPt W v rs) (hb : Below W.heap.size W W') : RowPt W' v rs := by
  obtain ⟨a, cap, e, hc⟩ := h.shape
  refine ⟨⟨a, cap, e, fun hn => ?_⟩, h.len⟩
  obtain ⟨b, o, ea, hcell⟩ := hc hn
  refine ⟨b, o, ea, fun i r hi => ?_⟩
  obtain ⟨u, h1, h2⟩ := hcell i r hi
  exact ⟨u, h1.below hb, h2.below hb⟩
theorem RowPt.at {W : World} {v : Value} {rs : List Ptn} (h : RowPt W v rs) {k : Nat} (hk : k < rs.length) : ∃ b o cap r u, v = .slice (some ⟨b, o, none⟩) rs.length cap ∧ rs[k]? = some r ∧ AtPt W b (o + k * 4) u r ∧ RPt W u r := by
  obtain ⟨a, cap, e, hc⟩ := h.shape
  obtain ⟨b, o, rfl, hcell⟩ := hc (by intro g; rw [g] at hk; simp at hk)
  have hs : rs[k]? = some rs[k] := List.getElem?_eq_getElem hk
  obtain ⟨u, h1, h2⟩ := hcell k _ hs
  exact ⟨b, o, cap, _, u, e, hs, h1, h2⟩
theorem RowPt.val {W : World} {v : Value} {rs : List Ptn} (h : RowPt W v rs) : ∃ a cap, v = .slice a rs.length cap := by
  obtain ⟨a, cap, e, _⟩ := h.shape
  exact ⟨a, cap, e⟩
def BdsPt (n : Nat) (rs : List Ptn) : Prop := rs.length ≤ n ∧ ∀ (i : Nat) (r : Ptn), rs[i]? = some r → BdPt n r
theorem BdsPt.mono {m n : Nat} {rs : List Ptn} (h : BdsPt m rs) (hmn : m ≤ n) : BdsPt n rs := ⟨Nat.le_trans h.1 hmn, fun i r hi => (h.2 i r hi).mono hmn⟩
/-- How many numbers they have seen together. -/
def snP : List Ptn → Nat
  | [] => 0
  | p :: r => p.seen.length + snP r
theorem snP_app : ∀ (a b : List Ptn), snP (a ++ b) = snP a + snP b
  | [], b => by simp [snP]
  | p :: r, b => by
    simp only [List.cons_append, snP]
    rw [snP_app r b]
    omega
theorem snP_take_succ {ps : List Ptn} {j : Nat} {p : Ptn} (h : ps[j]? = some p) : snP (ps.take (j + 1)) = snP (ps.take j) + p.seen.length := by
  rw [List.take_add_one, h, snP_app]
  simp [snP]
end Go.Proofs.YtmffigmidlgigaaGreatDoor
