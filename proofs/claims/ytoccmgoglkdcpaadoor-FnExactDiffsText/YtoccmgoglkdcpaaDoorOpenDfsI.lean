/- A list of Diffs that is an argument, opened: their numbers are of 64 bits. -/
import Derived.Test.YtoccmgoglkdcpaaDoorOpenDfI
namespace Go.Proofs.YtoccmgoglkdcpaaDoor
open Go.ChangeShapes Go.WideShapes Go.ChangeAt Go.RowKit Go.Joins Go.Deep
theorem cellssDf : Tryd.prog.cellsOf 35 = 1 := by kernel_rfl
/-- Its numbers are of 64 bits. -/
def DfZ (g : Dff) : Prop := i64B g.kind ∧ i64B g.no ∧ i64B g.qty
section
variable {H : Type} {enc : TypeId × Value → H} {W : World} {base : Nat} {spare : Nat → Bool} {held : Bool}
theorem openDfZ {fuel : Nat} {cs : List Value} {x : DataW H × List MemPlace} (h : DataW.trod enc Tryd.prog W base spare held fuel 68 cs = some x) :
    ∃ r : Dff, cs = [.int .i64 r.kind, .string r.partner, .string r.ref, .int .i64 r.no, .string r.item, .int .i64 r.qty] ∧ r.partner.size ≤ 9223372036854775807 ∧ r.ref.size ≤ 9223372036854775807 ∧ r.item.size ≤ 9223372036854775807 ∧ DfZ r := by
  obtain ⟨xs, n, rfl, hx, hl, hn, hf⟩ := DataW.trod_struct Tryd.underlying68 h
  rw [cellsDf] at hl
  obtain ⟨c0, c1, c2, c3, c4, c5, rfl⟩ := lstDf hl
  obtain ⟨x0, x1, x2, x3, x4, x5, rfl⟩ := lstDf (show xs.length = 6 from hn)
  obtain ⟨n0, k0, _, i0⟩ := DataW.trod_int Tryd.underlying2 (hf 0 _ rfl)
  obtain ⟨n1, k1, _, z1⟩ := DataW.trod_string Tryd.underlying9 (hf 1 _ rfl)
  obtain ⟨n2, k2, _, z2⟩ := DataW.trod_string Tryd.underlying9 (hf 2 _ rfl)
  obtain ⟨n3, k3, _, i3⟩ := DataW.trod_int Tryd.underlying2 (hf 3 _ rfl)
  obtain ⟨n4, k4, _, z4⟩ := DataW.trod_string Tryd.underlying9 (hf 4 _ rfl)
  obtain ⟨n5, k5, _, i5⟩ := DataW.trod_int Tryd.underlying2 (hf 5 _ rfl)
  simp [cellsI64, cellsString] at k0 k1 k2 k3 k4 k5
  unfold maxLen at z1 z2 z4
  exact ⟨⟨n0, n1, n2, n3, n4, n5⟩, by rw [k0, k1, k2, k3, k4, k5], z1, z2, z4, wf_bd i0, wf_bd i3, wf_bd i5⟩
theorem openDfsZ {fuel : Nat} {cs : List Value} {x : DataW H × List MemPlace} (h : DataW.trod enc Tryd.prog W base spare held fuel 35 cs = some x) : ∃ v rs, cs = [v] ∧ RowDf W v rs ∧ ∀ (i : Nat) (g : Dff), rs[i]? = some g → DfZ g := by
  rcases open_slice Tryd.underlying35 h with ⟨rfl, _⟩ | ⟨a, len, cap, m, n, D, Pl, rfl, _, hl, hm, hmm, _, hx⟩
  · exact ⟨_, [], rfl, RowDf.nil W, fun i g hi => by simp at hi⟩
  · have hlm : len ≤ m := by rw [hmm]; split <;> omega
    have inh : Inhabited Dff := ⟨⟨0, ⟨#[]⟩, ⟨#[]⟩, 0, ⟨#[]⟩, 0⟩⟩
    obtain ⟨f, hf⟩ := choose_lt (α := Dff) (p := fun i l => (W.cell? ((a.add (i * 6)).add 0) = some (.int .i64 l.kind) ∧ W.cell? ((a.add (i * 6)).add 1) = some (.string l.partner) ∧ W.cell? ((a.add (i * 6)).add 2) = some (.string l.ref) ∧ W.cell? ((a.add (i * 6)).add 3) = some (.int .i64 l.no) ∧ W.cell? ((a.add (i * 6)).add 4) = some (.string l.item) ∧ W.cell? ((a.add (i * 6)).add 5) = some (.int .i64 l.qty)) ∧ l.partner.size ≤ 9223372036854775807 ∧ l.ref.size ≤ 9223372036854775807 ∧ l.item.size ≤ 9223372036854775807 ∧ DfZ l) (n := len) (fun i hi => by
      obtain ⟨cs', h1, h2⟩ := hx i (by omega)
      rw [cellsDf] at h1
      obtain ⟨l, rfl, hz⟩ := openDfZ h2
      have k := (World.cells?_some h1).2.2
      have k0 := k 0 (by omega)
      have k1 := k 1 (by omega)
      have k2 := k 2 (by omega)
      have k3 := k 3 (by omega)
      have k4 := k 4 (by omega)
      have k5 := k 5 (by omega)
      refine ⟨l, ⟨⟨?_, ?_, ?_, ?_, ?_, ?_⟩, hz⟩⟩
      · simpa using k0
      · simpa using k1
      · simpa using k2
      · simpa using k3
      · simpa using k4
      · simpa using k5)
    have htl : ((List.range len).map f).length = len := by simp
    unfold maxLen at hm
    have hget : ∀ (i : Nat) (g : Dff), ((List.range len).map f)[i]? = some g → i < len ∧ g = f i := fun i g hi => by
      have hil := (List.getElem?_eq_some_iff.1 hi).1
      rw [htl] at hil
      exact ⟨hil, by simpa [hil] using hi.symm⟩
    refine ⟨_, (List.range len).map f, rfl, ⟨⟨some a, cap, by rw [htl], fun hn => ?_⟩, by omega, fun i g hi => by obtain ⟨hil, rfl⟩ := hget i g hi; exact ⟨(hf i hil).2.1, (hf i hil).2.2.1, (hf i hil).2.2.2.1⟩⟩, fun i g hi => by obtain ⟨hil, rfl⟩ := hget i g hi; exact (hf i hil).2.2.2.2⟩
    obtain ⟨b, off, spot⟩ := a
    have hpos : 0 < len := by
      rcases Nat.eq_zero_or_pos len with rfl | g
      · exact absurd (by simp) hn
      · exact g
    have h0 := (hf 0 hpos).1.1
    have hspot : spot = none := by simpa [Addr.add] using World.cell?_spot h0
    subst hspot
    refine ⟨b, off, rfl, fun i g hi => ?_⟩
    obtain ⟨hil, rfl⟩ := hget i g hi
    obtain ⟨⟨k0, k1, k2, k3, k4, k5⟩, _⟩ := hf i hil
    rw [fl_addr, fl_addr] at k0 k1 k2 k3 k4 k5
    exact ⟨k0, k1, k2, k3, k4, k5⟩
set_option maxRecDepth 100000 in
theorem openDfsaZ {r : Reach} {b0 : Nat} {v : Value} {d : DataW H} {p : List MemPlace} (hv : Value.okWide Tryd.prog W r b0 35 v) (h : DataW.Trod enc Tryd.prog W base spare held 35 v d p) :
    ∃ rs, RowDf W v rs ∧ ∀ (i : Nat) (g : Dff), rs[i]? = some g → DfZ g := by
  obtain ⟨a, l, c, rfl⟩ := okWide_slice Tryd.underlying35 hv
  obtain ⟨fuel, hf0⟩ := h
  obtain ⟨v', rs, e, hR⟩ := openDfsZ hf0
  simp [Value.cells] at e
  subst e
  exact ⟨rs, hR⟩
end
end Go.Proofs.YtoccmgoglkdcpaaDoor
