/- What it is that a value is a message, a bundle, an interchange, or a list of such, in a world. -/
import Derived.Test.YtphgheojfnlgjaaDoorRowG
namespace Go.Proofs.YtphgheojfnlgjaaDoor
open Go.ChangeShapes Go.WideShapes Go.ChangeAt Go.RowKit
theorem BdS.mono' {m n : Nat} {ss : List ByteArray} (h : BdS m ss) (hmn : m ≤ n) : BdS n ss := ⟨Nat.le_trans h.1 hmn, fun i s hi => Nat.le_trans (h.2 i s hi) hmn⟩
theorem BdG.mono {m n : Nat} {gs : List Seg} (h : BdG m gs) (hmn : m ≤ n) : BdG n gs := ⟨Nat.le_trans h.1 hmn, fun i g hi => ⟨Nat.le_trans (h.2 i g hi).1 hmn, Nat.le_trans (h.2 i g hi).2.1 hmn, fun j e hj => ((h.2 i g hi).2.2 j e hj).mono' hmn⟩⟩
/-- A Message. -/
structure Msg where
  num : Int
  body : List Seg
/-- What stands behind its cells. -/
structure RM (W : World) (u : Value) (r : Msg) : Prop where
  ls : RowG W u r.body
theorem RM.below {W W' : World} {u : Value} {r : Msg} (h : RM W u r) (hb : Below W.heap.size W W') : RM W' u r := ⟨h.ls.below hb⟩
def BdM (n : Nat) (r : Msg) : Prop := BdG n r.body
theorem BdM.mono {m n : Nat} {r : Msg} (h : BdM m r) (hmn : m ≤ n) : BdM n r := BdG.mono h hmn
def AtM (W : World) (b o : Nat) (u : Value) (r : Msg) : Prop :=
  W.cell? ⟨b, o, none⟩ = some (.int .i64 r.num) ∧ W.cell? ⟨b, o + 1, none⟩ = some (u)
theorem AtM.below {W W' : World} {b o : Nat} {u : Value} {r : Msg} (h : AtM W b o u r) (hb : Below W.heap.size W W') : AtM W' b o u r := by
  obtain ⟨h0, h1⟩ := h
  exact ⟨(hb.cell (cell_lt h0)).trans h0, (hb.cell (cell_lt h1)).trans h1⟩
/-- A list of such. -/
structure RowM (W : World) (v : Value) (rs : List Msg) : Prop where
  shape : ∃ a cap, v = .slice a rs.length cap ∧ (rs ≠ [] → ∃ b o, a = some ⟨b, o, none⟩ ∧ ∀ (i : Nat) (r : Msg), rs[i]? = some r → ∃ u, AtM W b (o + i * 2) u r ∧ RM W u r)
  len : rs.length ≤ 9223372036854775807
theorem RowM.below {W W' : World} {v : Value} {rs : List Msg} (h : RowM W v rs) (hb : Below W.heap.size W W') : RowM W' v rs := by
  obtain ⟨a, cap, e, hc⟩ := h.shape
  refine ⟨⟨a, cap, e, fun hn => ?_⟩, h.len⟩
  obtain ⟨b, o, ea, hcell⟩ := hc hn
  refine ⟨b, o, ea, fun i r hi => ?_⟩
  obtain ⟨u, h1, h2⟩ := hcell i r hi
  exact ⟨u, h1.below hb, h2.below hb⟩
theorem RowM.at {W : World} {v : Value} {rs : List Msg} (h : RowM W v rs) {k : Nat} (hk : k < rs.length) : ∃ b o cap r u, v = .slice (some ⟨b, o, none⟩) rs.length cap ∧ rs[k]? = some r ∧ AtM W b (o + k * 2) u r ∧ RM W u r := by
  obtain ⟨a, cap, e, hc⟩ := h.shape
  obtain ⟨b, o, rfl, hcell⟩ := hc (by intro g; rw [g] at hk; simp at hk)
  have hs : rs[k]? = some rs[k] := List.getElem?_eq_getElem hk
  obtain ⟨u, h1, h2⟩ := hcell k _ hs
  exact ⟨b, o, cap, _, u, e, hs, h1, h2⟩
theorem RowM.val {W : World} {v : Value} {rs : List Msg} (h : RowM W v rs) : ∃ a cap, v = .slice a rs.length cap := by
  obtain ⟨a, cap, e, _⟩ := h.shape
  exact ⟨a, cap, e⟩
def BdsM (n : Nat) (rs : List Msg) : Prop := rs.length ≤ n ∧ ∀ (i : Nat) (r : Msg), rs[i]? = some r → BdM n r
theorem BdsM.mono {m n : Nat} {rs : List Msg} (h : BdsM m rs) (hmn : m ≤ n) : BdsM n rs := ⟨Nat.le_trans h.1 hmn, fun i r hi => (h.2 i r hi).mono hmn⟩
/-- A Bundle. -/
structure Bun where
  kind : Int
  num : Int
  msgs : List Msg
/-- What stands behind its cells. -/
structure RB (W : World) (u : Value) (r : Bun) : Prop where
  ls : RowM W u r.msgs
theorem RB.below {W W' : World} {u : Value} {r : Bun} (h : RB W u r) (hb : Below W.heap.size W W') : RB W' u r := ⟨h.ls.below hb⟩
def BdB (n : Nat) (r : Bun) : Prop := BdsM n r.msgs
theorem BdB.mono {m n : Nat} {r : Bun} (h : BdB m r) (hmn : m ≤ n) : BdB n r := BdsM.mono h hmn
def AtB (W : World) (b o : Nat) (u : Value) (r : Bun) : Prop :=
  W.cell? ⟨b, o, none⟩ = some (.int .i64 r.kind) ∧ W.cell? ⟨b, o + 1, none⟩ = some (.int .i64 r.num) ∧ W.cell? ⟨b, o + 2, none⟩ = some (u)
theorem AtB.below {W W' : World} {b o : Nat} {u : Value} {r : Bun} (h : AtB W b o u r) (hb : Below W.heap.size W W') : AtB W' b o u r := by
  obtain ⟨h0, h1, h2⟩ := h
  exact ⟨(hb.cell (cell_lt h0)).trans h0, (hb.cell (cell_lt h1)).trans h1, (hb.cell (cell_lt h2)).trans h2⟩
/-- A list of such. -/
structure RowB (W : World) (v : Value) (rs : List Bun) : Prop where
  shape : ∃ a cap, v = .slice a rs.length cap ∧ (rs ≠ [] → ∃ b o, a = some ⟨b, o, none⟩ ∧ ∀ (i : Nat) (r : Bun), rs[i]? = some r → ∃ u, AtB W b (o + i * 3) u r ∧ RB W u r)
  len : rs.length ≤ 9223372036854775807
theorem RowB.below {W W' : World} {v : Value} {rs : List Bun} (h : RowB W v rs) (hb : Below W.heap.size W W') : RowB W' v rs := by
  obtain ⟨a, cap, e, hc⟩ := h.shape
  refine ⟨⟨a, cap, e, fun hn => ?_⟩, h.len⟩
  obtain ⟨b, o, ea, hcell⟩ := hc hn
  refine ⟨b, o, ea, fun i r hi => ?_⟩
  obtain ⟨u, h1, h2⟩ := hcell i r hi
  exact ⟨u, h1.below hb, h2.below hb⟩
theorem RowB.at {W : World} {v : Value} {rs : List Bun} (h : RowB W v rs) {k : Nat} (hk : k < rs.length) : ∃ b o cap r u, v = .slice (some ⟨b, o, none⟩) rs.length cap ∧ rs[k]? = some r ∧ AtB W b (o + k * 3) u r ∧ RB W u r := by
  obtain ⟨a, cap, e, hc⟩ := h.shape
  obtain ⟨b, o, rfl, hcell⟩ := hc (by intro g; rw [g] at hk; simp at hk)
  have hs : rs[k]? = some rs[k] := List.getElem?_eq_getElem hk
  obtain ⟨u, h1, h2⟩ := hcell k _ hs
  exact ⟨b, o, cap, _, u, e, hs, h1, h2⟩
theorem RowB.val {W : World} {v : Value} {rs : List Bun} (h : RowB W v rs) : ∃ a cap, v = .slice a rs.length cap := by
  obtain ⟨a, cap, e, _⟩ := h.shape
  exact ⟨a, cap, e⟩
def BdsB (n : Nat) (rs : List Bun) : Prop := rs.length ≤ n ∧ ∀ (i : Nat) (r : Bun), rs[i]? = some r → BdB n r
theorem BdsB.mono {m n : Nat} {rs : List Bun} (h : BdsB m rs) (hmn : m ≤ n) : BdsB n rs := ⟨Nat.le_trans h.1 hmn, fun i r hi => (h.2 i r hi).mono hmn⟩
/-- A Interchange. -/
structure Ixc where
  frm : ByteArray
  to : ByteArray
  num : Int
  buns : List Bun
/-- What stands behind its cells. -/
structure RI (W : World) (u : Value) (r : Ixc) : Prop where
  ls : RowB W u r.buns
  z_frm : r.frm.size ≤ 9223372036854775807
  z_to : r.to.size ≤ 9223372036854775807
theorem RI.below {W W' : World} {u : Value} {r : Ixc} (h : RI W u r) (hb : Below W.heap.size W W') : RI W' u r := ⟨h.ls.below hb, h.z_frm, h.z_to⟩
def BdI (n : Nat) (r : Ixc) : Prop := r.frm.size ≤ n ∧ r.to.size ≤ n ∧ BdsB n r.buns
theorem BdI.mono {m n : Nat} {r : Ixc} (h : BdI m r) (hmn : m ≤ n) : BdI n r := ⟨Nat.le_trans h.1 hmn, Nat.le_trans h.2.1 hmn, BdsB.mono h.2.2 hmn⟩
end Go.Proofs.YtphgheojfnlgjaaDoor
