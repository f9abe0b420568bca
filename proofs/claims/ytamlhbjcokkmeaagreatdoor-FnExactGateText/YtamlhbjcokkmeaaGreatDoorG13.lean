/- Texts of ours put together: OpenDfI, OpenDfsI, OpenOu, OpenGtZ. -/
import Derived.Test.YtamlhbjcokkmeaaGreatDoorG12
import Derived.Test.YtamlhbjcokkmeaaGreatDoorG02
import Derived.Test.YtamlhbjcokkmeaaGreatDoorG10
import Derived.WalkArith
import Derived.Test.YtamlhbjcokkmeaaGreatDoorG03
import Derived.Test.YtamlhbjcokkmeaaGreatDoorG11
namespace Go.Proofs.YtamlhbjcokkmeaaGreatDoor
open Go.ChangeShapes Go.WideShapes Go.ChangeAt Go.RowKit Go.Joins Go.Deep
theorem cellsDf : Tryz.prog.cellsOf 89 = 6 := by kernel_rfl
theorem lstDf {α : Type} {l : List α} (h : l.length = 6) : ∃ a0 a1 a2 a3 a4 a5, l = [a0, a1, a2, a3, a4, a5] := by
  match l, h with
  | [a0, a1, a2, a3, a4, a5], _ => exact ⟨a0, a1, a2, a3, a4, a5, rfl⟩
theorem wf_bd {n : Int} (h : (Lit.int .i64 n).wf = true) : i64B n := by
  simp only [Lit.wf, Bool.and_eq_true, decide_eq_true_eq] at h
  have e1 : IntKind.i64.min = -9223372036854775808 := by decide
  have e2 : IntKind.i64.max = 9223372036854775807 := by decide
  rw [e1, e2] at h
  exact h
section
variable {H : Type} {enc : TypeId × Value → H} {W : World} {base : Nat} {spare : Nat → Bool} {held : Bool}
set_option maxRecDepth 100000 in
theorem openDfI {r : Reach} {b0 : Nat} {v : Value} {d : DataW H} {p : List MemPlace} (hv : Value.okWide Tryz.prog W r b0 89 v) (h : DataW.Trod enc Tryz.prog W base spare held 89 v d p) :
    ∃ q : Dff, v = .agg #[.int .i64 q.kind, .string q.partner, .string q.ref, .int .i64 q.no, .string q.item, .int .i64 q.qty] ∧ (q.partner.size ≤ 9223372036854775807 ∧ q.ref.size ≤ 9223372036854775807 ∧ q.item.size ≤ 9223372036854775807) ∧ i64B q.kind ∧ i64B q.no ∧ i64B q.qty := by
  obtain ⟨cs, rfl, hsz⟩ := okWide_struct Tryz.underlying89 hv
  obtain ⟨fuel, hf0⟩ := h
  obtain ⟨xs, n, rfl, hx, hl, hn, hf⟩ := DataW.trod_struct Tryz.underlying89 hf0
  rw [cellsDf] at hl
  obtain ⟨c0, c1, c2, c3, c4, c5, hcs⟩ := lstDf hl
  rw [hcs] at hf
  obtain ⟨x0, x1, x2, x3, x4, x5, rfl⟩ := lstDf (show xs.length = 6 from hn)
  obtain ⟨n0, k0, _, i0⟩ := DataW.trod_int Tryz.underlying2 (hf 0 _ rfl)
  obtain ⟨n1, k1, _, z1⟩ := DataW.trod_string Tryz.underlying9 (hf 1 _ rfl)
  obtain ⟨n2, k2, _, z2⟩ := DataW.trod_string Tryz.underlying9 (hf 2 _ rfl)
  obtain ⟨n3, k3, _, i3⟩ := DataW.trod_int Tryz.underlying2 (hf 3 _ rfl)
  obtain ⟨n4, k4, _, z4⟩ := DataW.trod_string Tryz.underlying9 (hf 4 _ rfl)
  obtain ⟨n5, k5, _, i5⟩ := DataW.trod_int Tryz.underlying2 (hf 5 _ rfl)
  simp [cellsI64, cellsString] at k0 k1 k2 k3 k4 k5
  unfold maxLen at z1 z2 z4
  refine ⟨⟨n0, n1, n2, n3, n4, n5⟩, ?_, ⟨z1, z2, z4⟩, wf_bd i0, wf_bd i3, wf_bd i5⟩
  obtain ⟨l⟩ := cs
  simp [Value.cells] at hcs
  rw [hcs, k0, k1, k2, k3, k4, k5]
end
end Go.Proofs.YtamlhbjcokkmeaaGreatDoor
namespace Go.Proofs.YtamlhbjcokkmeaaGreatDoor
open Go.ChangeShapes Go.WideShapes Go.ChangeAt Go.RowKit Go.Joins Go.Deep
theorem cellssDf : Tryz.prog.cellsOf 28 = 1 := by kernel_rfl
/-- Its numbers are of 64 bits. -/
def DfZ (g : Dff) : Prop := i64B g.kind ∧ i64B g.no ∧ i64B g.qty
section
variable {H : Type} {enc : TypeId × Value → H} {W : World} {base : Nat} {spare : Nat → Bool} {held : Bool}
theorem openDfZ {fuel : Nat} {cs : List Value} {x : DataW H × List MemPlace} (h : DataW.trod enc Tryz.prog W base spare held fuel 89 cs = some x) :
    ∃ r : Dff, cs = [.int .i64 r.kind, .string r.partner, .string r.ref, .int .i64 r.no, .string r.item, .int .i64 r.qty] ∧ r.partner.size ≤ 9223372036854775807 ∧ r.ref.size ≤ 9223372036854775807 ∧ r.item.size ≤ 9223372036854775807 ∧ DfZ r := by
  obtain ⟨xs, n, rfl, hx, hl, hn, hf⟩ := DataW.trod_struct Tryz.underlying89 h
  rw [cellsDf] at hl
  obtain ⟨c0, c1, c2, c3, c4, c5, rfl⟩ := lstDf hl
  obtain ⟨x0, x1, x2, x3, x4, x5, rfl⟩ := lstDf (show xs.length = 6 from hn)
  obtain ⟨n0, k0, _, i0⟩ := DataW.trod_int Tryz.underlying2 (hf 0 _ rfl)
  obtain ⟨n1, k1, _, z1⟩ := DataW.trod_string Tryz.underlying9 (hf 1 _ rfl)
  obtain ⟨n2, k2, _, z2⟩ := DataW.trod_string Tryz.underlying9 (hf 2 _ rfl)
  obtain ⟨n3, k3, _, i3⟩ := DataW.trod_int Tryz.underlying2 (hf 3 _ rfl)
  obtain ⟨n4, k4, _, z4⟩ := DataW.trod_string Tryz.underlying9 (hf 4 _ rfl)
  obtain ⟨n5, k5, _, i5⟩ := DataW.trod_int Tryz.underlying2 (hf 5 _ rfl)
  simp [cellsI64, cellsString] at k0 k1 k2 k3 k4 k5
  unfold maxLen at z1 z2 z4
  exact ⟨⟨n0, n1, n2, n3, n4, n5⟩, by rw [k0, k1, k2, k3, k4, k5], z1, z2, z4, wf_bd i0, wf_bd i3, wf_bd i5⟩
theorem openDfsZ {fuel : Nat} {cs : List Value} {x : DataW H × List MemPlace} (h : DataW.trod enc Tryz.prog W base spare held fuel 28 cs = some x) : ∃ v rs, cs = [v] ∧ RowDf W v rs ∧ ∀ (i : Nat) (g : Dff), rs[i]? = some g → DfZ g := by
  rcases open_slice Tryz.underlying28 h with ⟨rfl, _⟩ | ⟨a, len, cap, m, n, D, Pl, rfl, _, hl, hm, hmm, _, hx⟩
  · exact ⟨_, [], rfl, RowDf.nil W, fun i g hi => by simp at hi⟩
  · have hlm : len ≤ m := by rw [hmm]; split <;> omega
    have inh : Inhabited Dff := ⟨⟨0, ⟨#[]⟩, ⟨#[]⟩, 0, ⟨#[]⟩, 0⟩⟩
    obtain ⟨f, hf⟩ := choose_lt (α := Dff) (p := fun i l => (W.cell? ((a.add (i * 6)).add 0) = some (.int .i64 l.kind) ∧ W.cell? ((a.add (i * 6)).add 1) = some (.string l.partner) ∧ W.cell? ((a.add (i * 6)).add 2) = some (.string l.ref) ∧ W.cell? ((a.add (i * 6)).add 3) = some (.int .i64 l.no) ∧ W.cell? ((a.add (i * 6)).add 4) = some (.string l.item) ∧ W.cell? ((a.add (i * 6)).add 5) = some (.int .i64 l.qty)) ∧ l.partner.size ≤ 9223372036854775807 ∧ l.ref.size ≤ 9223372036854775807 ∧ l.item.size ≤ 9223372036854775807 ∧ DfZ l) (n := len) (fun i hi => by
      obtain ⟨cs', h1, h2⟩ := hx i (by omega)
      rw [cellsDf] at h1
      obtain ⟨l, rfl, hz⟩ := openDfZ h2
      have k := (World.cells?_some h1).2.2
      have k0 := k 0 (by omega)
      have k1 := k 1 (by omega)
      have k2 := k 2 (by omega)
      have k3 := k 3 (by omega)
      have k4 := k 4 (by omega)
      have k5 := k 5 (by omega)
      refine ⟨l, ⟨⟨?_, ?_, ?_, ?_, ?_, ?_⟩, hz⟩⟩
      · simpa using k0
      · simpa using k1
      · simpa using k2
      · simpa using k3
      · simpa using k4
      · simpa using k5)
    have htl : ((List.range len).map f).length = len := by simp
    unfold maxLen at hm
    have hget : ∀ (i : Nat) (g : Dff), ((List.range len).map f)[i]? = some g → i < len ∧ g = f i := fun i g hi => by
      have hil := (List.getElem?_eq_some_iff.1 hi).1
      rw [htl] at hil
      exact ⟨hil, by simpa [hil] using hi.symm⟩
    refine ⟨_, (List.range len).map f, rfl, ⟨⟨some a, cap, by rw [htl], fun hn => ?_⟩, by omega, fun i g hi => by obtain ⟨hil, rfl⟩ := hget i g hi; exact ⟨(hf i hil).2.1, (hf i hil).2.2.1, (hf i hil).2.2.2.1⟩⟩, fun i g hi => by obtain ⟨hil, rfl⟩ := hget i g hi; exact (hf i hil).2.2.2.2⟩
    obtain ⟨b, off, spot⟩ := a
    have hpos : 0 < len := by
      rcases Nat.eq_zero_or_pos len with rfl | g
      · exact absurd (by simp) hn
      · exact g
    have h0 := (hf 0 hpos).1.1
    have hspot : spot = none := by simpa [Addr.add] using World.cell?_spot h0
    subst hspot
    refine ⟨b, off, rfl, fun i g hi => ?_⟩
    obtain ⟨hil, rfl⟩ := hget i g hi
    obtain ⟨⟨k0, k1, k2, k3, k4, k5⟩, _⟩ := hf i hil
    rw [fl_addr, fl_addr] at k0 k1 k2 k3 k4 k5
    exact ⟨k0, k1, k2, k3, k4, k5⟩
set_option maxRecDepth 100000 in
theorem openDfsaZ {r : Reach} {b0 : Nat} {v : Value} {d : DataW H} {p : List MemPlace} (hv : Value.okWide Tryz.prog W r b0 28 v) (h : DataW.Trod enc Tryz.prog W base spare held 28 v d p) :
    ∃ rs, RowDf W v rs ∧ ∀ (i : Nat) (g : Dff), rs[i]? = some g → DfZ g := by
  obtain ⟨a, l, c, rfl⟩ := okWide_slice Tryz.underlying28 hv
  obtain ⟨fuel, hf0⟩ := h
  obtain ⟨v', rs, e, hR⟩ := openDfsZ hf0
  simp [Value.cells] at e
  subst e
  exact ⟨rs, hR⟩
end
end Go.Proofs.YtamlhbjcokkmeaaGreatDoor
namespace Go.Proofs.YtamlhbjcokkmeaaGreatDoor
open Go.ChangeShapes Go.WideShapes Go.ChangeAt Go.RowKit Go.Joins Go.Deep
theorem cellsOu : Tryz.prog.cellsOf 92 = 5 := by kernel_rfl
theorem cellssOu : Tryz.prog.cellsOf 29 = 1 := by kernel_rfl
theorem lstOu {α : Type} {l : List α} (h : l.length = 5) : ∃ a0 a1 a2 a3 a4, l = [a0, a1, a2, a3, a4] := by
  match l, h with
  | [a0, a1, a2, a3, a4], _ => exact ⟨a0, a1, a2, a3, a4, rfl⟩
section
variable {H : Type} {enc : TypeId × Value → H} {W : World} {base : Nat} {spare : Nat → Bool} {held : Bool}
theorem openOu {fuel : Nat} {cs : List Value} {x : DataW H × List MemPlace} (h : DataW.trod enc Tryz.prog W base spare held fuel 92 cs = some x) :
    ∃ r : OutR, cs = [.string r.partner, .int .i64 r.number, .string r.text, .int .i64 r.tries, .int .i64 r.due] ∧ r.partner.size ≤ 9223372036854775807 ∧ r.text.size ≤ 9223372036854775807 := by
  obtain ⟨xs, n, rfl, hx, hl, hn, hf⟩ := DataW.trod_struct Tryz.underlying92 h
  rw [cellsOu] at hl
  obtain ⟨c0, c1, c2, c3, c4, rfl⟩ := lstOu hl
  obtain ⟨x0, x1, x2, x3, x4, rfl⟩ := lstOu (show xs.length = 5 from hn)
  obtain ⟨n0, k0, _, z0⟩ := DataW.trod_string Tryz.underlying9 (hf 0 _ rfl)
  obtain ⟨n1, k1, _, _⟩ := DataW.trod_int Tryz.underlying2 (hf 1 _ rfl)
  obtain ⟨n2, k2, _, z2⟩ := DataW.trod_string Tryz.underlying9 (hf 2 _ rfl)
  obtain ⟨n3, k3, _, _⟩ := DataW.trod_int Tryz.underlying2 (hf 3 _ rfl)
  obtain ⟨n4, k4, _, _⟩ := DataW.trod_int Tryz.underlying2 (hf 4 _ rfl)
  simp [cellsI64, cellsString] at k0 k1 k2 k3 k4
  unfold maxLen at z0 z2
  exact ⟨⟨n0, n1, n2, n3, n4⟩, by rw [k0, k1, k2, k3, k4], z0, z2⟩
theorem openOus {fuel : Nat} {cs : List Value} {x : DataW H × List MemPlace} (h : DataW.trod enc Tryz.prog W base spare held fuel 29 cs = some x) : ∃ v rs, cs = [v] ∧ RowOu W v rs := by
  rcases open_slice Tryz.underlying29 h with ⟨rfl, _⟩ | ⟨a, len, cap, m, n, D, Pl, rfl, _, hl, hm, hmm, _, hx⟩
  · exact ⟨_, [], rfl, RowOu.nil W⟩
  · have hlm : len ≤ m := by rw [hmm]; split <;> omega
    have inh : Inhabited OutR := ⟨⟨⟨#[]⟩, 0, ⟨#[]⟩, 0, 0⟩⟩
    obtain ⟨f, hf⟩ := choose_lt (α := OutR) (p := fun i l => (W.cell? ((a.add (i * 5)).add 0) = some (.string l.partner) ∧ W.cell? ((a.add (i * 5)).add 1) = some (.int .i64 l.number) ∧ W.cell? ((a.add (i * 5)).add 2) = some (.string l.text) ∧ W.cell? ((a.add (i * 5)).add 3) = some (.int .i64 l.tries) ∧ W.cell? ((a.add (i * 5)).add 4) = some (.int .i64 l.due)) ∧ l.partner.size ≤ 9223372036854775807 ∧ l.text.size ≤ 9223372036854775807) (n := len) (fun i hi => by
      obtain ⟨cs', h1, h2⟩ := hx i (by omega)
      rw [cellsOu] at h1
      obtain ⟨l, rfl, hz⟩ := openOu h2
      have k := (World.cells?_some h1).2.2
      have k0 := k 0 (by omega)
      have k1 := k 1 (by omega)
      have k2 := k 2 (by omega)
      have k3 := k 3 (by omega)
      have k4 := k 4 (by omega)
      refine ⟨l, ⟨⟨?_, ?_, ?_, ?_, ?_⟩, hz⟩⟩
      · simpa using k0
      · simpa using k1
      · simpa using k2
      · simpa using k3
      · simpa using k4)
    have htl : ((List.range len).map f).length = len := by simp
    unfold maxLen at hm
    have hget : ∀ (i : Nat) (g : OutR), ((List.range len).map f)[i]? = some g → i < len ∧ g = f i := fun i g hi => by
      have hil := (List.getElem?_eq_some_iff.1 hi).1
      rw [htl] at hil
      exact ⟨hil, by simpa [hil] using hi.symm⟩
    refine ⟨_, (List.range len).map f, rfl, ⟨⟨some a, cap, by rw [htl], fun hn => ?_⟩, by omega, fun i g hi => by obtain ⟨hil, rfl⟩ := hget i g hi; exact (hf i hil).2⟩⟩
    obtain ⟨b, off, spot⟩ := a
    have hpos : 0 < len := by
      rcases Nat.eq_zero_or_pos len with rfl | g
      · exact absurd (by simp) hn
      · exact g
    have h0 := (hf 0 hpos).1.1
    have hspot : spot = none := by simpa [Addr.add] using World.cell?_spot h0
    subst hspot
    refine ⟨b, off, rfl, fun i g hi => ?_⟩
    obtain ⟨hil, rfl⟩ := hget i g hi
    obtain ⟨⟨k0, k1, k2, k3, k4⟩, _⟩ := hf i hil
    rw [fl_addr, fl_addr] at k0 k1 k2 k3 k4
    exact ⟨k0, k1, k2, k3, k4⟩
set_option maxRecDepth 100000 in
theorem openOua {r : Reach} {b0 : Nat} {v : Value} {d : DataW H} {p : List MemPlace} (hv : Value.okWide Tryz.prog W r b0 92 v) (h : DataW.Trod enc Tryz.prog W base spare held 92 v d p) :
    ∃ q : OutR, v = .agg #[.string q.partner, .int .i64 q.number, .string q.text, .int .i64 q.tries, .int .i64 q.due] ∧ q.partner.size ≤ 9223372036854775807 ∧ q.text.size ≤ 9223372036854775807 := by
  obtain ⟨cs, rfl, hsz⟩ := okWide_struct Tryz.underlying92 hv
  obtain ⟨fuel, hf0⟩ := h
  obtain ⟨q, hq, hz⟩ := openOu hf0
  refine ⟨q, ?_, hz⟩
  obtain ⟨l⟩ := cs
  simp [Value.cells] at hq
  rw [hq]
set_option maxRecDepth 100000 in
theorem openOusa {r : Reach} {b0 : Nat} {v : Value} {d : DataW H} {p : List MemPlace} (hv : Value.okWide Tryz.prog W r b0 29 v) (h : DataW.Trod enc Tryz.prog W base spare held 29 v d p) :
    ∃ rs, RowOu W v rs := by
  obtain ⟨a, l, c, rfl⟩ := okWide_slice Tryz.underlying29 hv
  obtain ⟨fuel, hf0⟩ := h
  obtain ⟨v', rs, e, hR⟩ := openOus hf0
  simp [Value.cells] at e
  subst e
  exact ⟨rs, hR⟩
end
end Go.Proofs.YtamlhbjcokkmeaaGreatDoor
namespace Go.Proofs.YtamlhbjcokkmeaaGreatDoor
open Go.ChangeShapes Go.WideShapes Go.ChangeAt Go.RowKit Go.Joins Go.Deep
theorem cellsGt : Tryz.prog.cellsOf 31 = 8 := by kernel_rfl
theorem lst8 {α : Type} {l : List α} (h : l.length = 8) : ∃ a0 a1 a2 a3 a4 a5 a6 a7, l = [a0, a1, a2, a3, a4, a5, a6, a7] := by
  match l, h with
  | [a0, a1, a2, a3, a4, a5, a6, a7], _ => exact ⟨a0, a1, a2, a3, a4, a5, a6, a7, rfl⟩
theorem lst7 {α : Type} {l : List α} (h : l.length = 7) : ∃ a0 a1 a2 a3 a4 a5 a6, l = [a0, a1, a2, a3, a4, a5, a6] := by
  match l, h with
  | [a0, a1, a2, a3, a4, a5, a6], _ => exact ⟨a0, a1, a2, a3, a4, a5, a6, rfl⟩
section
variable {H : Type} {enc : TypeId × Value → H} {W : World} {base : Nat} {spare : Nat → Bool} {held : Bool}
theorem openGtZ {fuel : Nat} {cs : List Value} {x : DataW H × List MemPlace} (h : DataW.trod enc Tryz.prog W base spare held fuel 31 cs = some x) :
    ∃ (g : Gat) (up uc us ul ud uo : Value), cs = [.string g.name, .int .i64 g.day, up, uc, us, ul, ud, uo] ∧ RGt W up uc us ul ud uo g ∧ ∀ (i : Nat) (d : Dff), g.dffs[i]? = some d → DfZ d := by
  obtain ⟨xs, n, rfl, hx, hl, hn, hf⟩ := DataW.trod_struct Tryz.underlying31 h
  rw [cellsGt] at hl
  obtain ⟨c0, c1, c2, c3, c4, c5, c6, c7, rfl⟩ := lst8 hl
  obtain ⟨x0, x1, x2, x3, x4, x5, x6, rfl⟩ := lst7 (show xs.length = 7 from hn)
  obtain ⟨n0, k0, _, z0⟩ := DataW.trod_string Tryz.underlying9 (hf 0 _ rfl)
  obtain ⟨n1, k1, _, _⟩ := DataW.trod_int Tryz.underlying2 (hf 1 _ rfl)
  obtain ⟨u2, l2, k2, r2⟩ := opensPt (hf 2 _ rfl)
  obtain ⟨u3, l3, k3, r3⟩ := openCss (hf 3 _ rfl)
  obtain ⟨b4, u4, v4, k4, r4⟩ := openBk (hf 4 _ rfl)
  obtain ⟨u5, l5, k5, r5, z5⟩ := openDfsZ (hf 5 _ rfl)
  obtain ⟨u6, l6, k6, r6⟩ := openOus (hf 6 _ rfl)
  simp [cellsI64, cellsString, cellssPt, cellssCs, cellsBk, cellssDf, cellssOu] at k0 k1 k2 k3 k4 k5 k6
  unfold maxLen at z0
  exact ⟨⟨n0, n1, l2, l3, b4, l5, l6⟩, u2, u3, u4, v4, u5, u6, by rw [k0, k1, k2, k3, k4.1, k4.2, k5, k6], ⟨z0, r2, r3, r4, r5, r6⟩, z5⟩
set_option maxRecDepth 100000 in
theorem openGtaZ {r : Reach} {b0 : Nat} {v : Value} {d : DataW H} {p : List MemPlace} (hv : Value.okWide Tryz.prog W r b0 31 v) (h : DataW.Trod enc Tryz.prog W base spare held 31 v d p) :
    ∃ (g : Gat) (up uc us ul ud uo : Value), v = .agg #[.string g.name, .int .i64 g.day, up, uc, us, ul, ud, uo] ∧ RGt W up uc us ul ud uo g ∧ ∀ (i : Nat) (d : Dff), g.dffs[i]? = some d → DfZ d := by
  obtain ⟨cs, rfl, hsz⟩ := okWide_struct Tryz.underlying31 hv
  obtain ⟨fuel, hf0⟩ := h
  obtain ⟨g, u1, u2, u3, u4, u5, u6, hq, hR⟩ := openGtZ hf0
  refine ⟨g, u1, u2, u3, u4, u5, u6, ?_, hR⟩
  obtain ⟨l⟩ := cs
  simp [Value.cells] at hq
  rw [hq]
end
end Go.Proofs.YtamlhbjcokkmeaaGreatDoor
