/- Texts of ours put together: OpenB, OpenSn, OpenPt, OpenPts, OpenCs, OpenSt, OpenOl, OpenBk. -/
import Derived.Deep.Slices
import Derived.SliceStrings
import Derived.Lib.SmallJoins
import Derived.Test.YtkgkahlhekecmaaGreatG00
import Derived.Test.YtkgkahlhekecmaaGreatG01
namespace Go.Proofs.YtkgkahlhekecmaaGreat
open Go.ChangeShapes Go.WideShapes Go.ChangeAt Go.RowKit
theorem cellsI64 : Tryz.prog.cellsOf 2 = 1 := by kernel_rfl
theorem cellsString : Tryz.prog.cellsOf 9 = 1 := by kernel_rfl
end Go.Proofs.YtkgkahlhekecmaaGreat
namespace Go.Proofs.YtkgkahlhekecmaaGreat
open Go.ChangeShapes Go.WideShapes Go.ChangeAt Go.RowKit Go.Joins Go.Deep
theorem cellsSn : Tryz.prog.cellsOf 177 = 3 := by kernel_rfl
theorem cellssSn : Tryz.prog.cellsOf 85 = 1 := by kernel_rfl
theorem lstSn {α : Type} {l : List α} (h : l.length = 3) : ∃ a0 a1 a2, l = [a0, a1, a2] := by
  match l, h with
  | [a0, a1, a2], _ => exact ⟨a0, a1, a2, rfl⟩
section
variable {H : Type} {enc : TypeId × Value → H} {W : World} {base : Nat} {spare : Nat → Bool} {held : Bool}
theorem openSn {fuel : Nat} {cs : List Value} {x : DataW H × List MemPlace} (h : DataW.trod enc Tryz.prog W base spare held fuel 177 cs = some x) :
    ∃ r : Sn, cs = [.int .i64 r.number, .int .i64 r.answer, .int .i64 r.code] := by
  obtain ⟨xs, n, rfl, hx, hl, hn, hf⟩ := DataW.trod_struct Tryz.underlying177 h
  rw [cellsSn] at hl
  obtain ⟨c0, c1, c2, rfl⟩ := lstSn hl
  obtain ⟨x0, x1, x2, rfl⟩ := lstSn (show xs.length = 3 from hn)
  obtain ⟨n0, k0, _, _⟩ := DataW.trod_int Tryz.underlying2 (hf 0 _ rfl)
  obtain ⟨n1, k1, _, _⟩ := DataW.trod_int Tryz.underlying2 (hf 1 _ rfl)
  obtain ⟨n2, k2, _, _⟩ := DataW.trod_int Tryz.underlying2 (hf 2 _ rfl)
  simp [cellsI64] at k0 k1 k2
  exact ⟨⟨n0, n1, n2⟩, by rw [k0, k1, k2]⟩
theorem openSns {fuel : Nat} {cs : List Value} {x : DataW H × List MemPlace} (h : DataW.trod enc Tryz.prog W base spare held fuel 85 cs = some x) : ∃ v rs, cs = [v] ∧ RowSn W v rs := by
  rcases open_slice Tryz.underlying85 h with ⟨rfl, _⟩ | ⟨a, len, cap, m, n, D, Pl, rfl, _, hl, hm, hmm, _, hx⟩
  · exact ⟨_, [], rfl, RowSn.nil W⟩
  · have hlm : len ≤ m := by rw [hmm]; split <;> omega
    have inh : Inhabited Sn := ⟨⟨0, 0, 0⟩⟩
    obtain ⟨f, hf⟩ := choose_lt (α := Sn) (p := fun i l => (W.cell? ((a.add (i * 3)).add 0) = some (.int .i64 l.number) ∧ W.cell? ((a.add (i * 3)).add 1) = some (.int .i64 l.answer) ∧ W.cell? ((a.add (i * 3)).add 2) = some (.int .i64 l.code))) (n := len) (fun i hi => by
      obtain ⟨cs', h1, h2⟩ := hx i (by omega)
      rw [cellsSn] at h1
      obtain ⟨l, rfl⟩ := openSn h2
      have k := (World.cells?_some h1).2.2
      have k0 := k 0 (by omega)
      have k1 := k 1 (by omega)
      have k2 := k 2 (by omega)
      refine ⟨l, ⟨?_, ?_, ?_⟩⟩
      · simpa using k0
      · simpa using k1
      · simpa using k2)
    have htl : ((List.range len).map f).length = len := by simp
    unfold maxLen at hm
    have hget : ∀ (i : Nat) (g : Sn), ((List.range len).map f)[i]? = some g → i < len ∧ g = f i := fun i g hi => by
      have hil := (List.getElem?_eq_some_iff.1 hi).1
      rw [htl] at hil
      exact ⟨hil, by simpa [hil] using hi.symm⟩
    refine ⟨_, (List.range len).map f, rfl, ⟨⟨some a, cap, by rw [htl], fun hn => ?_⟩, by omega⟩⟩
    obtain ⟨b, off, spot⟩ := a
    have hpos : 0 < len := by
      rcases Nat.eq_zero_or_pos len with rfl | g
      · exact absurd (by simp) hn
      · exact g
    have h0 := (hf 0 hpos).1
    have hspot : spot = none := by simpa [Addr.add] using World.cell?_spot h0
    subst hspot
    refine ⟨b, off, rfl, fun i g hi => ?_⟩
    obtain ⟨hil, rfl⟩ := hget i g hi
    obtain ⟨k0, k1, k2⟩ := hf i hil
    rw [fl_addr, fl_addr] at k0 k1 k2
    exact ⟨k0, k1, k2⟩
set_option maxRecDepth 100000 in
theorem openSnsa {r : Reach} {b0 : Nat} {v : Value} {d : DataW H} {p : List MemPlace} (hv : Value.okWide Tryz.prog W r b0 85 v) (h : DataW.Trod enc Tryz.prog W base spare held 85 v d p) :
    ∃ rs, RowSn W v rs := by
  obtain ⟨a, l, c, rfl⟩ := okWide_slice Tryz.underlying85 hv
  obtain ⟨fuel, hf0⟩ := h
  obtain ⟨v', rs, e, hR⟩ := openSns hf0
  simp [Value.cells] at e
  subst e
  exact ⟨rs, hR⟩
end
end Go.Proofs.YtkgkahlhekecmaaGreat
namespace Go.Proofs.YtkgkahlhekecmaaGreat
open Go.ChangeShapes Go.WideShapes Go.ChangeAt Go.RowKit Go.Joins Go.Deep
theorem cellsPt : Tryz.prog.cellsOf 87 = 4 := by kernel_rfl
theorem lstPt {α : Type} {l : List α} (h : l.length = 4) : ∃ a0 a1 a2 a3, l = [a0, a1, a2, a3] := by
  match l, h with
  | [a0, a1, a2, a3], _ => exact ⟨a0, a1, a2, a3, rfl⟩
section
variable {H : Type} {enc : TypeId × Value → H} {W : World} {base : Nat} {spare : Nat → Bool} {held : Bool}
theorem openPt {fuel : Nat} {cs : List Value} {x : DataW H × List MemPlace} (h : DataW.trod enc Tryz.prog W base spare held fuel 87 cs = some x) :
    ∃ (r : Ptn) (u : Value), cs = [.string r.name, .int .i64 r.low, .int .i64 r.next, u] ∧ RPt W u r := by
  obtain ⟨xs, n, rfl, hx, hl, hn, hf⟩ := DataW.trod_struct Tryz.underlying87 h
  rw [cellsPt] at hl
  obtain ⟨c0, c1, c2, c3, rfl⟩ := lstPt hl
  obtain ⟨x0, x1, x2, x3, rfl⟩ := lstPt (show xs.length = 4 from hn)
  obtain ⟨n0, k0, _, z0⟩ := DataW.trod_string Tryz.underlying9 (hf 0 _ rfl)
  obtain ⟨n1, k1, _, _⟩ := DataW.trod_int Tryz.underlying2 (hf 1 _ rfl)
  obtain ⟨n2, k2, _, _⟩ := DataW.trod_int Tryz.underlying2 (hf 2 _ rfl)
  obtain ⟨u, ls, k3, r3⟩ := openSns (hf 3 _ rfl)
  simp [cellsI64, cellsString, cellssSn] at k0 k1 k2 k3
  unfold maxLen at z0
  exact ⟨⟨n0, n1, n2, ls⟩, u, by rw [k0, k1, k2, k3], ⟨r3, z0⟩⟩
set_option maxRecDepth 100000 in
theorem openPta {r : Reach} {b0 : Nat} {v : Value} {d : DataW H} {p : List MemPlace} (hv : Value.okWide Tryz.prog W r b0 87 v) (h : DataW.Trod enc Tryz.prog W base spare held 87 v d p) :
    ∃ (q : Ptn) (u : Value), v = .agg #[.string q.name, .int .i64 q.low, .int .i64 q.next, u] ∧ RPt W u q := by
  obtain ⟨cs, rfl, hsz⟩ := okWide_struct Tryz.underlying87 hv
  obtain ⟨fuel, hf0⟩ := h
  obtain ⟨q, u, hq, hR⟩ := openPt hf0
  refine ⟨q, u, ?_, hR⟩
  obtain ⟨l⟩ := cs
  simp [Value.cells] at hq
  rw [hq]
end
end Go.Proofs.YtkgkahlhekecmaaGreat
namespace Go.Proofs.YtkgkahlhekecmaaGreat
open Go.ChangeShapes Go.WideShapes Go.ChangeAt Go.RowKit Go.Joins Go.Deep
theorem cellssPt : Tryz.prog.cellsOf 22 = 1 := by kernel_rfl
section
variable {H : Type} {enc : TypeId × Value → H} {W : World} {base : Nat} {spare : Nat → Bool} {held : Bool}
theorem opensPt {fuel : Nat} {cs : List Value} {x : DataW H × List MemPlace} (h : DataW.trod enc Tryz.prog W base spare held fuel 22 cs = some x) : ∃ v rs, cs = [v] ∧ RowPt W v rs := by
  rcases open_slice Tryz.underlying22 h with ⟨rfl, _⟩ | ⟨a, len, cap, m, n, D, Pl, rfl, _, hl, hm, hmm, _, hx⟩
  · exact ⟨_, [], rfl, ⟨⟨_, _, rfl, fun h => absurd rfl h⟩, by simp⟩⟩
  · have hlm : len ≤ m := by rw [hmm]; split <;> omega
    have inh : Inhabited Ptn := ⟨⟨⟨#[]⟩, 0, 0, []⟩⟩
    obtain ⟨f, hf⟩ := choose_lt (α := Ptn) (p := fun i l => ∃ u, (W.cell? ((a.add (i * 4)).add 0) = some (.string l.name) ∧ W.cell? ((a.add (i * 4)).add 1) = some (.int .i64 l.low) ∧ W.cell? ((a.add (i * 4)).add 2) = some (.int .i64 l.next) ∧ W.cell? ((a.add (i * 4)).add 3) = some (u)) ∧ RPt W u l) (n := len) (fun i hi => by
      obtain ⟨cs', h1, h2⟩ := hx i (by omega)
      rw [cellsPt] at h1
      obtain ⟨l, u, rfl, hR⟩ := openPt h2
      have k := (World.cells?_some h1).2.2
      have k0 := k 0 (by omega)
      have k1 := k 1 (by omega)
      have k2 := k 2 (by omega)
      have k3 := k 3 (by omega)
      refine ⟨l, u, ⟨?_, ?_, ?_, ?_⟩, hR⟩
      · simpa using k0
      · simpa using k1
      · simpa using k2
      · simpa using k3)
    have htl : ((List.range len).map f).length = len := by simp
    unfold maxLen at hm
    have hget : ∀ (i : Nat) (g : Ptn), ((List.range len).map f)[i]? = some g → i < len ∧ g = f i := fun i g hi => by
      have hil := (List.getElem?_eq_some_iff.1 hi).1
      rw [htl] at hil
      exact ⟨hil, by simpa [hil] using hi.symm⟩
    refine ⟨_, (List.range len).map f, rfl, ⟨⟨some a, cap, by rw [htl], fun hn => ?_⟩, by omega⟩⟩
    obtain ⟨b, off, spot⟩ := a
    have hpos : 0 < len := by
      rcases Nat.eq_zero_or_pos len with rfl | g
      · exact absurd (by simp) hn
      · exact g
    obtain ⟨_, ⟨h0, _⟩, _⟩ := hf 0 hpos
    have hspot : spot = none := by simpa [Addr.add] using World.cell?_spot h0
    subst hspot
    refine ⟨b, off, rfl, fun i g hi => ?_⟩
    obtain ⟨hil, rfl⟩ := hget i g hi
    obtain ⟨u, ⟨k0, k1, k2, k3⟩, hR⟩ := hf i hil
    rw [fl_addr, fl_addr] at k0 k1 k2 k3
    exact ⟨u, ⟨k0, k1, k2, k3⟩, hR⟩
end
end Go.Proofs.YtkgkahlhekecmaaGreat
namespace Go.Proofs.YtkgkahlhekecmaaGreat
open Go.ChangeShapes Go.WideShapes Go.ChangeAt Go.RowKit Go.Joins Go.Deep
theorem cellsCs : Tryz.prog.cellsOf 90 = 3 := by kernel_rfl
theorem cellssCs : Tryz.prog.cellsOf 23 = 1 := by kernel_rfl
theorem lstCs {α : Type} {l : List α} (h : l.length = 3) : ∃ a0 a1 a2, l = [a0, a1, a2] := by
  match l, h with
  | [a0, a1, a2], _ => exact ⟨a0, a1, a2, rfl⟩
section
variable {H : Type} {enc : TypeId × Value → H} {W : World} {base : Nat} {spare : Nat → Bool} {held : Bool}
theorem openCs {fuel : Nat} {cs : List Value} {x : DataW H × List MemPlace} (h : DataW.trod enc Tryz.prog W base spare held fuel 90 cs = some x) :
    ∃ r : Crs, cs = [.string r.partner, .string r.theirs, .string r.own] ∧ r.partner.size ≤ 9223372036854775807 ∧ r.theirs.size ≤ 9223372036854775807 ∧ r.own.size ≤ 9223372036854775807 := by
  obtain ⟨xs, n, rfl, hx, hl, hn, hf⟩ := DataW.trod_struct Tryz.underlying90 h
  rw [cellsCs] at hl
  obtain ⟨c0, c1, c2, rfl⟩ := lstCs hl
  obtain ⟨x0, x1, x2, rfl⟩ := lstCs (show xs.length = 3 from hn)
  obtain ⟨n0, k0, _, z0⟩ := DataW.trod_string Tryz.underlying9 (hf 0 _ rfl)
  obtain ⟨n1, k1, _, z1⟩ := DataW.trod_string Tryz.underlying9 (hf 1 _ rfl)
  obtain ⟨n2, k2, _, z2⟩ := DataW.trod_string Tryz.underlying9 (hf 2 _ rfl)
  simp [cellsString] at k0 k1 k2
  unfold maxLen at z0 z1 z2
  exact ⟨⟨n0, n1, n2⟩, by rw [k0, k1, k2], z0, z1, z2⟩
theorem openCss {fuel : Nat} {cs : List Value} {x : DataW H × List MemPlace} (h : DataW.trod enc Tryz.prog W base spare held fuel 23 cs = some x) : ∃ v rs, cs = [v] ∧ RowCs W v rs := by
  rcases open_slice Tryz.underlying23 h with ⟨rfl, _⟩ | ⟨a, len, cap, m, n, D, Pl, rfl, _, hl, hm, hmm, _, hx⟩
  · exact ⟨_, [], rfl, RowCs.nil W⟩
  · have hlm : len ≤ m := by rw [hmm]; split <;> omega
    have inh : Inhabited Crs := ⟨⟨⟨#[]⟩, ⟨#[]⟩, ⟨#[]⟩⟩⟩
    obtain ⟨f, hf⟩ := choose_lt (α := Crs) (p := fun i l => (W.cell? ((a.add (i * 3)).add 0) = some (.string l.partner) ∧ W.cell? ((a.add (i * 3)).add 1) = some (.string l.theirs) ∧ W.cell? ((a.add (i * 3)).add 2) = some (.string l.own)) ∧ l.partner.size ≤ 9223372036854775807 ∧ l.theirs.size ≤ 9223372036854775807 ∧ l.own.size ≤ 9223372036854775807) (n := len) (fun i hi => by
      obtain ⟨cs', h1, h2⟩ := hx i (by omega)
      rw [cellsCs] at h1
      obtain ⟨l, rfl, hz⟩ := openCs h2
      have k := (World.cells?_some h1).2.2
      have k0 := k 0 (by omega)
      have k1 := k 1 (by omega)
      have k2 := k 2 (by omega)
      refine ⟨l, ⟨⟨?_, ?_, ?_⟩, hz⟩⟩
      · simpa using k0
      · simpa using k1
      · simpa using k2)
    have htl : ((List.range len).map f).length = len := by simp
    unfold maxLen at hm
    have hget : ∀ (i : Nat) (g : Crs), ((List.range len).map f)[i]? = some g → i < len ∧ g = f i := fun i g hi => by
      have hil := (List.getElem?_eq_some_iff.1 hi).1
      rw [htl] at hil
      exact ⟨hil, by simpa [hil] using hi.symm⟩
    refine ⟨_, (List.range len).map f, rfl, ⟨⟨some a, cap, by rw [htl], fun hn => ?_⟩, by omega, fun i g hi => by obtain ⟨hil, rfl⟩ := hget i g hi; exact (hf i hil).2⟩⟩
    obtain ⟨b, off, spot⟩ := a
    have hpos : 0 < len := by
      rcases Nat.eq_zero_or_pos len with rfl | g
      · exact absurd (by simp) hn
      · exact g
    have h0 := (hf 0 hpos).1.1
    have hspot : spot = none := by simpa [Addr.add] using World.cell?_spot h0
    subst hspot
    refine ⟨b, off, rfl, fun i g hi => ?_⟩
    obtain ⟨hil, rfl⟩ := hget i g hi
    obtain ⟨⟨k0, k1, k2⟩, _⟩ := hf i hil
    rw [fl_addr, fl_addr] at k0 k1 k2
    exact ⟨k0, k1, k2⟩
set_option maxRecDepth 100000 in
theorem openCsa {r : Reach} {b0 : Nat} {v : Value} {d : DataW H} {p : List MemPlace} (hv : Value.okWide Tryz.prog W r b0 90 v) (h : DataW.Trod enc Tryz.prog W base spare held 90 v d p) :
    ∃ q : Crs, v = .agg #[.string q.partner, .string q.theirs, .string q.own] ∧ q.partner.size ≤ 9223372036854775807 ∧ q.theirs.size ≤ 9223372036854775807 ∧ q.own.size ≤ 9223372036854775807 := by
  obtain ⟨cs, rfl, hsz⟩ := okWide_struct Tryz.underlying90 hv
  obtain ⟨fuel, hf0⟩ := h
  obtain ⟨q, hq, hz⟩ := openCs hf0
  refine ⟨q, ?_, hz⟩
  obtain ⟨l⟩ := cs
  simp [Value.cells] at hq
  rw [hq]
set_option maxRecDepth 100000 in
theorem openCssa {r : Reach} {b0 : Nat} {v : Value} {d : DataW H} {p : List MemPlace} (hv : Value.okWide Tryz.prog W r b0 23 v) (h : DataW.Trod enc Tryz.prog W base spare held 23 v d p) :
    ∃ rs, RowCs W v rs := by
  obtain ⟨a, l, c, rfl⟩ := okWide_slice Tryz.underlying23 hv
  obtain ⟨fuel, hf0⟩ := h
  obtain ⟨v', rs, e, hR⟩ := openCss hf0
  simp [Value.cells] at e
  subst e
  exact ⟨rs, hR⟩
end
end Go.Proofs.YtkgkahlhekecmaaGreat
namespace Go.Proofs.YtkgkahlhekecmaaGreat
open Go.ChangeShapes Go.WideShapes Go.ChangeAt Go.RowKit Go.Joins Go.Deep
theorem cellsSt : Tryz.prog.cellsOf 140 = 2 := by kernel_rfl
theorem cellssSt : Tryz.prog.cellsOf 24 = 1 := by kernel_rfl
theorem lstSt {α : Type} {l : List α} (h : l.length = 2) : ∃ a0 a1, l = [a0, a1] := by
  match l, h with
  | [a0, a1], _ => exact ⟨a0, a1, rfl⟩
section
variable {H : Type} {enc : TypeId × Value → H} {W : World} {base : Nat} {spare : Nat → Bool} {held : Bool}
theorem openSt {fuel : Nat} {cs : List Value} {x : DataW H × List MemPlace} (h : DataW.trod enc Tryz.prog W base spare held fuel 140 cs = some x) :
    ∃ r : Stk, cs = [.string r.item, .int .i64 r.hand] ∧ r.item.size ≤ 9223372036854775807 := by
  obtain ⟨xs, n, rfl, hx, hl, hn, hf⟩ := DataW.trod_struct Tryz.underlying140 h
  rw [cellsSt] at hl
  obtain ⟨c0, c1, rfl⟩ := lstSt hl
  obtain ⟨x0, x1, rfl⟩ := lstSt (show xs.length = 2 from hn)
  obtain ⟨n0, k0, _, z0⟩ := DataW.trod_string Tryz.underlying9 (hf 0 _ rfl)
  obtain ⟨n1, k1, _, _⟩ := DataW.trod_int Tryz.underlying2 (hf 1 _ rfl)
  simp [cellsI64, cellsString] at k0 k1
  unfold maxLen at z0
  exact ⟨⟨n0, n1⟩, by rw [k0, k1], z0⟩
theorem openSts {fuel : Nat} {cs : List Value} {x : DataW H × List MemPlace} (h : DataW.trod enc Tryz.prog W base spare held fuel 24 cs = some x) : ∃ v rs, cs = [v] ∧ RowSt W v rs := by
  rcases open_slice Tryz.underlying24 h with ⟨rfl, _⟩ | ⟨a, len, cap, m, n, D, Pl, rfl, _, hl, hm, hmm, _, hx⟩
  · exact ⟨_, [], rfl, RowSt.nil W⟩
  · have hlm : len ≤ m := by rw [hmm]; split <;> omega
    have inh : Inhabited Stk := ⟨⟨⟨#[]⟩, 0⟩⟩
    obtain ⟨f, hf⟩ := choose_lt (α := Stk) (p := fun i l => (W.cell? ((a.add (i * 2)).add 0) = some (.string l.item) ∧ W.cell? ((a.add (i * 2)).add 1) = some (.int .i64 l.hand)) ∧ l.item.size ≤ 9223372036854775807) (n := len) (fun i hi => by
      obtain ⟨cs', h1, h2⟩ := hx i (by omega)
      rw [cellsSt] at h1
      obtain ⟨l, rfl, hz⟩ := openSt h2
      have k := (World.cells?_some h1).2.2
      have k0 := k 0 (by omega)
      have k1 := k 1 (by omega)
      refine ⟨l, ⟨⟨?_, ?_⟩, hz⟩⟩
      · simpa using k0
      · simpa using k1)
    have htl : ((List.range len).map f).length = len := by simp
    unfold maxLen at hm
    have hget : ∀ (i : Nat) (g : Stk), ((List.range len).map f)[i]? = some g → i < len ∧ g = f i := fun i g hi => by
      have hil := (List.getElem?_eq_some_iff.1 hi).1
      rw [htl] at hil
      exact ⟨hil, by simpa [hil] using hi.symm⟩
    refine ⟨_, (List.range len).map f, rfl, ⟨⟨some a, cap, by rw [htl], fun hn => ?_⟩, by omega, fun i g hi => by obtain ⟨hil, rfl⟩ := hget i g hi; exact (hf i hil).2⟩⟩
    obtain ⟨b, off, spot⟩ := a
    have hpos : 0 < len := by
      rcases Nat.eq_zero_or_pos len with rfl | g
      · exact absurd (by simp) hn
      · exact g
    have h0 := (hf 0 hpos).1.1
    have hspot : spot = none := by simpa [Addr.add] using World.cell?_spot h0
    subst hspot
    refine ⟨b, off, rfl, fun i g hi => ?_⟩
    obtain ⟨hil, rfl⟩ := hget i g hi
    obtain ⟨⟨k0, k1⟩, _⟩ := hf i hil
    rw [fl_addr, fl_addr] at k0 k1
    exact ⟨k0, k1⟩
set_option maxRecDepth 100000 in
theorem openSta {r : Reach} {b0 : Nat} {v : Value} {d : DataW H} {p : List MemPlace} (hv : Value.okWide Tryz.prog W r b0 140 v) (h : DataW.Trod enc Tryz.prog W base spare held 140 v d p) :
    ∃ q : Stk, v = .agg #[.string q.item, .int .i64 q.hand] ∧ q.item.size ≤ 9223372036854775807 := by
  obtain ⟨cs, rfl, hsz⟩ := okWide_struct Tryz.underlying140 hv
  obtain ⟨fuel, hf0⟩ := h
  obtain ⟨q, hq, hz⟩ := openSt hf0
  refine ⟨q, ?_, hz⟩
  obtain ⟨l⟩ := cs
  simp [Value.cells] at hq
  rw [hq]
set_option maxRecDepth 100000 in
theorem openStsa {r : Reach} {b0 : Nat} {v : Value} {d : DataW H} {p : List MemPlace} (hv : Value.okWide Tryz.prog W r b0 24 v) (h : DataW.Trod enc Tryz.prog W base spare held 24 v d p) :
    ∃ rs, RowSt W v rs := by
  obtain ⟨a, l, c, rfl⟩ := okWide_slice Tryz.underlying24 hv
  obtain ⟨fuel, hf0⟩ := h
  obtain ⟨v', rs, e, hR⟩ := openSts hf0
  simp [Value.cells] at e
  subst e
  exact ⟨rs, hR⟩
end
end Go.Proofs.YtkgkahlhekecmaaGreat
namespace Go.Proofs.YtkgkahlhekecmaaGreat
open Go.ChangeShapes Go.WideShapes Go.ChangeAt Go.RowKit Go.Joins Go.Deep
theorem cellsOl : Tryz.prog.cellsOf 143 = 8 := by kernel_rfl
theorem cellssOl : Tryz.prog.cellsOf 25 = 1 := by kernel_rfl
theorem lstOl {α : Type} {l : List α} (h : l.length = 8) : ∃ a0 a1 a2 a3 a4 a5 a6 a7, l = [a0, a1, a2, a3, a4, a5, a6, a7] := by
  match l, h with
  | [a0, a1, a2, a3, a4, a5, a6, a7], _ => exact ⟨a0, a1, a2, a3, a4, a5, a6, a7, rfl⟩
section
variable {H : Type} {enc : TypeId × Value → H} {W : World} {base : Nat} {spare : Nat → Bool} {held : Bool}
theorem openOl {fuel : Nat} {cs : List Value} {x : DataW H × List MemPlace} (h : DataW.trod enc Tryz.prog W base spare held fuel 143 cs = some x) :
    ∃ r : OLn, cs = [.string r.partner, .string r.ref, .int .i64 r.no, .string r.item, .int .i64 r.ordered, .int .i64 r.sent, .int .i64 r.got, .int .i64 r.cut] ∧ r.partner.size ≤ 9223372036854775807 ∧ r.ref.size ≤ 9223372036854775807 ∧ r.item.size ≤ 9223372036854775807 := by
  obtain ⟨xs, n, rfl, hx, hl, hn, hf⟩ := DataW.trod_struct Tryz.underlying143 h
  rw [cellsOl] at hl
  obtain ⟨c0, c1, c2, c3, c4, c5, c6, c7, rfl⟩ := lstOl hl
  obtain ⟨x0, x1, x2, x3, x4, x5, x6, x7, rfl⟩ := lstOl (show xs.length = 8 from hn)
  obtain ⟨n0, k0, _, z0⟩ := DataW.trod_string Tryz.underlying9 (hf 0 _ rfl)
  obtain ⟨n1, k1, _, z1⟩ := DataW.trod_string Tryz.underlying9 (hf 1 _ rfl)
  obtain ⟨n2, k2, _, _⟩ := DataW.trod_int Tryz.underlying2 (hf 2 _ rfl)
  obtain ⟨n3, k3, _, z3⟩ := DataW.trod_string Tryz.underlying9 (hf 3 _ rfl)
  obtain ⟨n4, k4, _, _⟩ := DataW.trod_int Tryz.underlying2 (hf 4 _ rfl)
  obtain ⟨n5, k5, _, _⟩ := DataW.trod_int Tryz.underlying2 (hf 5 _ rfl)
  obtain ⟨n6, k6, _, _⟩ := DataW.trod_int Tryz.underlying2 (hf 6 _ rfl)
  obtain ⟨n7, k7, _, _⟩ := DataW.trod_int Tryz.underlying2 (hf 7 _ rfl)
  simp [cellsI64, cellsString] at k0 k1 k2 k3 k4 k5 k6 k7
  unfold maxLen at z0 z1 z3
  exact ⟨⟨n0, n1, n2, n3, n4, n5, n6, n7⟩, by rw [k0, k1, k2, k3, k4, k5, k6, k7], z0, z1, z3⟩
theorem openOls {fuel : Nat} {cs : List Value} {x : DataW H × List MemPlace} (h : DataW.trod enc Tryz.prog W base spare held fuel 25 cs = some x) : ∃ v rs, cs = [v] ∧ RowOl W v rs := by
  rcases open_slice Tryz.underlying25 h with ⟨rfl, _⟩ | ⟨a, len, cap, m, n, D, Pl, rfl, _, hl, hm, hmm, _, hx⟩
  · exact ⟨_, [], rfl, RowOl.nil W⟩
  · have hlm : len ≤ m := by rw [hmm]; split <;> omega
    have inh : Inhabited OLn := ⟨⟨⟨#[]⟩, ⟨#[]⟩, 0, ⟨#[]⟩, 0, 0, 0, 0⟩⟩
    obtain ⟨f, hf⟩ := choose_lt (α := OLn) (p := fun i l => (W.cell? ((a.add (i * 8)).add 0) = some (.string l.partner) ∧ W.cell? ((a.add (i * 8)).add 1) = some (.string l.ref) ∧ W.cell? ((a.add (i * 8)).add 2) = some (.int .i64 l.no) ∧ W.cell? ((a.add (i * 8)).add 3) = some (.string l.item) ∧ W.cell? ((a.add (i * 8)).add 4) = some (.int .i64 l.ordered) ∧ W.cell? ((a.add (i * 8)).add 5) = some (.int .i64 l.sent) ∧ W.cell? ((a.add (i * 8)).add 6) = some (.int .i64 l.got) ∧ W.cell? ((a.add (i * 8)).add 7) = some (.int .i64 l.cut)) ∧ l.partner.size ≤ 9223372036854775807 ∧ l.ref.size ≤ 9223372036854775807 ∧ l.item.size ≤ 9223372036854775807) (n := len) (fun i hi => by
      obtain ⟨cs', h1, h2⟩ := hx i (by omega)
      rw [cellsOl] at h1
      obtain ⟨l, rfl, hz⟩ := openOl h2
      have k := (World.cells?_some h1).2.2
      have k0 := k 0 (by omega)
      have k1 := k 1 (by omega)
      have k2 := k 2 (by omega)
      have k3 := k 3 (by omega)
      have k4 := k 4 (by omega)
      have k5 := k 5 (by omega)
      have k6 := k 6 (by omega)
      have k7 := k 7 (by omega)
      refine ⟨l, ⟨⟨?_, ?_, ?_, ?_, ?_, ?_, ?_, ?_⟩, hz⟩⟩
      · simpa using k0
      · simpa using k1
      · simpa using k2
      · simpa using k3
      · simpa using k4
      · simpa using k5
      · simpa using k6
      · simpa using k7)
    have htl : ((List.range len).map f).length = len := by simp
    unfold maxLen at hm
    have hget : ∀ (i : Nat) (g : OLn), ((List.range len).map f)[i]? = some g → i < len ∧ g = f i := fun i g hi => by
      have hil := (List.getElem?_eq_some_iff.1 hi).1
      rw [htl] at hil
      exact ⟨hil, by simpa [hil] using hi.symm⟩
    refine ⟨_, (List.range len).map f, rfl, ⟨⟨some a, cap, by rw [htl], fun hn => ?_⟩, by omega, fun i g hi => by obtain ⟨hil, rfl⟩ := hget i g hi; exact (hf i hil).2⟩⟩
    obtain ⟨b, off, spot⟩ := a
    have hpos : 0 < len := by
      rcases Nat.eq_zero_or_pos len with rfl | g
      · exact absurd (by simp) hn
      · exact g
    have h0 := (hf 0 hpos).1.1
    have hspot : spot = none := by simpa [Addr.add] using World.cell?_spot h0
    subst hspot
    refine ⟨b, off, rfl, fun i g hi => ?_⟩
    obtain ⟨hil, rfl⟩ := hget i g hi
    obtain ⟨⟨k0, k1, k2, k3, k4, k5, k6, k7⟩, _⟩ := hf i hil
    rw [fl_addr, fl_addr] at k0 k1 k2 k3 k4 k5 k6 k7
    exact ⟨k0, k1, k2, k3, k4, k5, k6, k7⟩
set_option maxRecDepth 100000 in
theorem openOla {r : Reach} {b0 : Nat} {v : Value} {d : DataW H} {p : List MemPlace} (hv : Value.okWide Tryz.prog W r b0 143 v) (h : DataW.Trod enc Tryz.prog W base spare held 143 v d p) :
    ∃ q : OLn, v = .agg #[.string q.partner, .string q.ref, .int .i64 q.no, .string q.item, .int .i64 q.ordered, .int .i64 q.sent, .int .i64 q.got, .int .i64 q.cut] ∧ q.partner.size ≤ 9223372036854775807 ∧ q.ref.size ≤ 9223372036854775807 ∧ q.item.size ≤ 9223372036854775807 := by
  obtain ⟨cs, rfl, hsz⟩ := okWide_struct Tryz.underlying143 hv
  obtain ⟨fuel, hf0⟩ := h
  obtain ⟨q, hq, hz⟩ := openOl hf0
  refine ⟨q, ?_, hz⟩
  obtain ⟨l⟩ := cs
  simp [Value.cells] at hq
  rw [hq]
set_option maxRecDepth 100000 in
theorem openOlsa {r : Reach} {b0 : Nat} {v : Value} {d : DataW H} {p : List MemPlace} (hv : Value.okWide Tryz.prog W r b0 25 v) (h : DataW.Trod enc Tryz.prog W base spare held 25 v d p) :
    ∃ rs, RowOl W v rs := by
  obtain ⟨a, l, c, rfl⟩ := okWide_slice Tryz.underlying25 hv
  obtain ⟨fuel, hf0⟩ := h
  obtain ⟨v', rs, e, hR⟩ := openOls hf0
  simp [Value.cells] at e
  subst e
  exact ⟨rs, hR⟩
end
end Go.Proofs.YtkgkahlhekecmaaGreat
namespace Go.Proofs.YtkgkahlhekecmaaGreat
open Go.ChangeShapes Go.WideShapes Go.ChangeAt Go.RowKit Go.Joins Go.Deep
theorem cellsBk : Tryz.prog.cellsOf 27 = 2 := by kernel_rfl
theorem lstBk {α : Type} {l : List α} (h : l.length = 2) : ∃ a0 a1, l = [a0, a1] := by
  match l, h with
  | [a0, a1], _ => exact ⟨a0, a1, rfl⟩
section
variable {H : Type} {enc : TypeId × Value → H} {W : World} {base : Nat} {spare : Nat → Bool} {held : Bool}
theorem openBk {fuel : Nat} {cs : List Value} {x : DataW H × List MemPlace} (h : DataW.trod enc Tryz.prog W base spare held fuel 27 cs = some x) :
    ∃ (r : Bk) (us ul : Value), cs = [us, ul] ∧ RBk W us ul r := by
  obtain ⟨xs, n, rfl, hx, hl, hn, hf⟩ := DataW.trod_struct Tryz.underlying27 h
  rw [cellsBk] at hl
  obtain ⟨c0, c1, rfl⟩ := lstBk hl
  obtain ⟨x0, x1, rfl⟩ := lstBk (show xs.length = 2 from hn)
  obtain ⟨u, ls, k0, r0⟩ := openSts (hf 0 _ rfl)
  obtain ⟨u1, ls1, k1, r1⟩ := openOls (hf 1 _ rfl)
  simp [cellssSt, cellssOl] at k0 k1
  exact ⟨⟨ls, ls1⟩, u, u1, by rw [k0, k1], ⟨r0, r1⟩⟩
set_option maxRecDepth 100000 in
theorem openBka {r : Reach} {b0 : Nat} {v : Value} {d : DataW H} {p : List MemPlace} (hv : Value.okWide Tryz.prog W r b0 27 v) (h : DataW.Trod enc Tryz.prog W base spare held 27 v d p) :
    ∃ (q : Bk) (us ul : Value), v = .agg #[us, ul] ∧ RBk W us ul q := by
  obtain ⟨cs, rfl, hsz⟩ := okWide_struct Tryz.underlying27 hv
  obtain ⟨fuel, hf0⟩ := h
  obtain ⟨q, u, u', hq, hR⟩ := openBk hf0
  refine ⟨q, u, u', ?_, hR⟩
  obtain ⟨l⟩ := cs
  simp [Value.cells] at hq
  rw [hq]
end
end Go.Proofs.YtkgkahlhekecmaaGreat
