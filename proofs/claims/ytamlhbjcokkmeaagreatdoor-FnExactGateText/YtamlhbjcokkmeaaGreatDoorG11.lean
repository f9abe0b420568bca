/- Texts of ours put together: OpenSn, OpenPt, OpenPts, OpenCs. -/
import Derived.Test.YtamlhbjcokkmeaaGreatDoorG10
import Derived.Test.YtamlhbjcokkmeaaGreatDoorG00
import Derived.Test.YtamlhbjcokkmeaaGreatDoorG01
namespace Go.Proofs.YtamlhbjcokkmeaaGreatDoor
open Go.ChangeShapes Go.WideShapes Go.ChangeAt Go.RowKit Go.Joins Go.Deep
theorem cellsSn : Tryz.prog.cellsOf 176 = 3 := by kernel_rfl
theorem cellssSn : Tryz.prog.cellsOf 79 = 1 := by kernel_rfl
theorem lstSn {α : Type} {l : List α} (h : l.length = 3) : ∃ a0 a1 a2, l = [a0, a1, a2] := by
  match l, h with
  | [a0, a1, a2], _ => exact ⟨a0, a1, a2, rfl⟩
section
variable {H : Type} {enc : TypeId × Value → H} {W : World} {base : Nat} {spare : Nat → Bool} {held : Bool}
theorem openSn {fuel : Nat} {cs : List Value} {x : DataW H × List MemPlace} (h : DataW.trod enc Tryz.prog W base spare held fuel 176 cs = some x) :
    ∃ r : Sn, cs = [.int .i64 r.number, .int .i64 r.answer, .int .i64 r.code] := by
  obtain ⟨xs, n, rfl, hx, hl, hn, hf⟩ := DataW.trod_struct Tryz.underlying176 h
  rw [cellsSn] at hl
  obtain ⟨c0, c1, c2, rfl⟩ := lstSn hl
  obtain ⟨x0, x1, x2, rfl⟩ := lstSn (show xs.length = 3 from hn)
  obtain ⟨n0, k0, _, _⟩ := DataW.trod_int Tryz.underlying2 (hf 0 _ rfl)
  obtain ⟨n1, k1, _, _⟩ := DataW.trod_int Tryz.underlying2 (hf 1 _ rfl)
  obtain ⟨n2, k2, _, _⟩ := DataW.trod_int Tryz.underlying2 (hf 2 _ rfl)
  simp [cellsI64] at k0 k1 k2
  exact ⟨⟨n0, n1, n2⟩, by rw [k0, k1, k2]⟩
theorem openSns {fuel : Nat} {cs : List Value} {x : DataW H × List MemPlace} (h : DataW.trod enc Tryz.prog W base spare held fuel 79 cs = some x) : ∃ v rs, cs = [v] ∧ RowSn W v rs := by
  rcases open_slice Tryz.underlying79 h with ⟨rfl, _⟩ | ⟨a, len, cap, m, n, D, Pl, rfl, _, hl, hm, hmm, _, hx⟩
  · exact ⟨_, [], rfl, RowSn.nil W⟩
  · have hlm : len ≤ m := by rw [hmm]; split <;> omega
    have inh : Inhabited Sn := ⟨⟨0, 0, 0⟩⟩
    obtain ⟨f, hf⟩ := choose_lt (α := Sn) (p := fun i l => (W.cell? ((a.add (i * 3)).add 0) = some (.int .i64 l.number) ∧ W.cell? ((a.add (i * 3)).add 1) = some (.int .i64 l.answer) ∧ W.cell? ((a.add (i * 3)).add 2) = some (.int .i64 l.code))) (n := len) (fun i hi => by
      obtain ⟨cs', h1, h2⟩ := hx i (by omega)
      rw [cellsSn] at h1
      obtain ⟨l, rfl⟩ := openSn h2
      have k := (World.cells?_some h1).2.2
      have k0 := k 0 (by omega)
      have k1 := k 1 (by omega)
      have k2 := k 2 (by omega)
      refine ⟨l, ⟨?_, ?_, ?_⟩⟩
      · simpa using k0
      · simpa using k1
      · simpa using k2)
    have htl : ((List.range len).map f).length = len := by simp
    unfold maxLen at hm
    have hget : ∀ (i : Nat) (g : Sn), ((List.range len).map f)[i]? = some g → i < len ∧ g = f i := fun i g hi => by
      have hil := (List.getElem?_eq_some_iff.1 hi).1
      rw [htl] at hil
      exact ⟨hil, by simpa [hil] using hi.symm⟩
    refine ⟨_, (List.range len).map f, rfl, ⟨⟨some a, cap, by rw [htl], fun hn => ?_⟩, by omega⟩⟩
    obtain ⟨b, off, spot⟩ := a
    have hpos : 0 < len := by
      rcases Nat.eq_zero_or_pos len with rfl | g
      · exact absurd (by simp) hn
      · exact g
    have h0 := (hf 0 hpos).1
    have hspot : spot = none := by simpa [Addr.add] using World.cell?_spot h0
    subst hspot
    refine ⟨b, off, rfl, fun i g hi => ?_⟩
    obtain ⟨hil, rfl⟩ := hget i g hi
    obtain ⟨k0, k1, k2⟩ := hf i hil
    rw [fl_addr, fl_addr] at k0 k1 k2
    exact ⟨k0, k1, k2⟩
set_option maxRecDepth 100000 in
theorem openSnsa {r : Reach} {b0 : Nat} {v : Value} {d : DataW H} {p : List MemPlace} (hv : Value.okWide Tryz.prog W r b0 79 v) (h : DataW.Trod enc Tryz.prog W base spare held 79 v d p) :
    ∃ rs, RowSn W v rs := by
  obtain ⟨a, l, c, rfl⟩ := okWide_slice Tryz.underlying79 hv
  obtain ⟨fuel, hf0⟩ := h
  obtain ⟨v', rs, e, hR⟩ := openSns hf0
  simp [Value.cells] at e
  subst e
  exact ⟨rs, hR⟩
end
end Go.Proofs.YtamlhbjcokkmeaaGreatDoor
namespace Go.Proofs.YtamlhbjcokkmeaaGreatDoor
open Go.ChangeShapes Go.WideShapes Go.ChangeAt Go.RowKit Go.Joins Go.Deep
theorem cellsPt : Tryz.prog.cellsOf 81 = 4 := by kernel_rfl
theorem lstPt {α : Type} {l : List α} (h : l.length = 4) : ∃ a0 a1 a2 a3, l = [a0, a1, a2, a3] := by
  match l, h with
  | [a0, a1, a2, a3], _ => exact ⟨a0, a1, a2, a3, rfl⟩
section
variable {H : Type} {enc : TypeId × Value → H} {W : World} {base : Nat} {spare : Nat → Bool} {held : Bool}
theorem openPt {fuel : Nat} {cs : List Value} {x : DataW H × List MemPlace} (h : DataW.trod enc Tryz.prog W base spare held fuel 81 cs = some x) :
    ∃ (r : Ptn) (u : Value), cs = [.string r.name, .int .i64 r.low, .int .i64 r.next, u] ∧ RPt W u r := by
  obtain ⟨xs, n, rfl, hx, hl, hn, hf⟩ := DataW.trod_struct Tryz.underlying81 h
  rw [cellsPt] at hl
  obtain ⟨c0, c1, c2, c3, rfl⟩ := lstPt hl
  obtain ⟨x0, x1, x2, x3, rfl⟩ := lstPt (show xs.length = 4 from hn)
  obtain ⟨n0, k0, _, z0⟩ := DataW.trod_string Tryz.underlying9 (hf 0 _ rfl)
  obtain ⟨n1, k1, _, _⟩ := DataW.trod_int Tryz.underlying2 (hf 1 _ rfl)
  obtain ⟨n2, k2, _, _⟩ := DataW.trod_int Tryz.underlying2 (hf 2 _ rfl)
  obtain ⟨u, ls, k3, r3⟩ := openSns (hf 3 _ rfl)
  simp [cellsI64, cellsString, cellssSn] at k0 k1 k2 k3
  unfold maxLen at z0
  exact ⟨⟨n0, n1, n2, ls⟩, u, by rw [k0, k1, k2, k3], ⟨r3, z0⟩⟩
set_option maxRecDepth 100000 in
theorem openPta {r : Reach} {b0 : Nat} {v : Value} {d : DataW H} {p : List MemPlace} (hv : Value.okWide Tryz.prog W r b0 81 v) (h : DataW.Trod enc Tryz.prog W base spare held 81 v d p) :
    ∃ (q : Ptn) (u : Value), v = .agg #[.string q.name, .int .i64 q.low, .int .i64 q.next, u] ∧ RPt W u q := by
  obtain ⟨cs, rfl, hsz⟩ := okWide_struct Tryz.underlying81 hv
  obtain ⟨fuel, hf0⟩ := h
  obtain ⟨q, u, hq, hR⟩ := openPt hf0
  refine ⟨q, u, ?_, hR⟩
  obtain ⟨l⟩ := cs
  simp [Value.cells] at hq
  rw [hq]
end
end Go.Proofs.YtamlhbjcokkmeaaGreatDoor
namespace Go.Proofs.YtamlhbjcokkmeaaGreatDoor
open Go.ChangeShapes Go.WideShapes Go.ChangeAt Go.RowKit Go.Joins Go.Deep
theorem cellssPt : Tryz.prog.cellsOf 22 = 1 := by kernel_rfl
section
variable {H : Type} {enc : TypeId × Value → H} {W : World} {base : Nat} {spare : Nat → Bool} {held : Bool}
theorem opensPt {fuel : Nat} {cs : List Value} {x : DataW H × List MemPlace} (h : DataW.trod enc Tryz.prog W base spare held fuel 22 cs = some x) : ∃ v rs, cs = [v] ∧ RowPt W v rs := by
  rcases open_slice Tryz.underlying22 h with ⟨rfl, _⟩ | ⟨a, len, cap, m, n, D, Pl, rfl, _, hl, hm, hmm, _, hx⟩
  · exact ⟨_, [], rfl, ⟨⟨_, _, rfl, fun h => absurd rfl h⟩, by simp⟩⟩
  · have hlm : len ≤ m := by rw [hmm]; split <;> omega
    have inh : Inhabited Ptn := ⟨⟨⟨#[]⟩, 0, 0, []⟩⟩
    obtain ⟨f, hf⟩ := choose_lt (α := Ptn) (p := fun i l => ∃ u, (W.cell? ((a.add (i * 4)).add 0) = some (.string l.name) ∧ W.cell? ((a.add (i * 4)).add 1) = some (.int .i64 l.low) ∧ W.cell? ((a.add (i * 4)).add 2) = some (.int .i64 l.next) ∧ W.cell? ((a.add (i * 4)).add 3) = some (u)) ∧ RPt W u l) (n := len) (fun i hi => by
      obtain ⟨cs', h1, h2⟩ := hx i (by omega)
      rw [cellsPt] at h1
      obtain ⟨l, u, rfl, hR⟩ := openPt h2
      have k := (World.cells?_some h1).2.2
      have k0 := k 0 (by omega)
      have k1 := k 1 (by omega)
      have k2 := k 2 (by omega)
      have k3 := k 3 (by omega)
      refine ⟨l, u, ⟨?_, ?_, ?_, ?_⟩, hR⟩
      · simpa using k0
      · simpa using k1
      · simpa using k2
      · simpa using k3)
    have htl : ((List.range len).map f).length = len := by simp
    unfold maxLen at hm
    have hget : ∀ (i : Nat) (g : Ptn), ((List.range len).map f)[i]? = some g → i < len ∧ g = f i := fun i g hi => by
      have hil := (List.getElem?_eq_some_iff.1 hi).1
      rw [htl] at hil
      exact ⟨hil, by simpa [hil] using hi.symm⟩
    refine ⟨_, (List.range len).map f, rfl, ⟨⟨some a, cap, by rw [htl], fun hn => ?_⟩, by omega⟩⟩
    obtain ⟨b, off, spot⟩ := a
    have hpos : 0 < len := by
      rcases Nat.eq_zero_or_pos len with rfl | g
      · exact absurd (by simp) hn
      · exact g
    obtain ⟨_, ⟨h0, _⟩, _⟩ := hf 0 hpos
    have hspot : spot = none := by simpa [Addr.add] using World.cell?_spot h0
    subst hspot
    refine ⟨b, off, rfl, fun i g hi => ?_⟩
    obtain ⟨hil, rfl⟩ := hget i g hi
    obtain ⟨u, ⟨k0, k1, k2, k3⟩, hR⟩ := hf i hil
    rw [fl_addr, fl_addr] at k0 k1 k2 k3
    exact ⟨u, ⟨k0, k1, k2, k3⟩, hR⟩
end
end Go.Proofs.YtamlhbjcokkmeaaGreatDoor
namespace Go.Proofs.YtamlhbjcokkmeaaGreatDoor
open Go.ChangeShapes Go.WideShapes Go.ChangeAt Go.RowKit Go.Joins Go.Deep
theorem cellsCs : Tryz.prog.cellsOf 84 = 3 := by kernel_rfl
theorem cellssCs : Tryz.prog.cellsOf 23 = 1 := by kernel_rfl
theorem lstCs {α : Type} {l : List α} (h : l.length = 3) : ∃ a0 a1 a2, l = [a0, a1, a2] := by
  match l, h with
  | [a0, a1, a2], _ => exact ⟨a0, a1, a2, rfl⟩
section
variable {H : Type} {enc : TypeId × Value → H} {W : World} {base : Nat} {spare : Nat → Bool} {held : Bool}
theorem openCs {fuel : Nat} {cs : List Value} {x : DataW H × List MemPlace} (h : DataW.trod enc Tryz.prog W base spare held fuel 84 cs = some x) :
    ∃ r : Crs, cs = [.string r.partner, .string r.theirs, .string r.own] ∧ r.partner.size ≤ 9223372036854775807 ∧ r.theirs.size ≤ 9223372036854775807 ∧ r.own.size ≤ 9223372036854775807 := by
  obtain ⟨xs, n, rfl, hx, hl, hn, hf⟩ := DataW.trod_struct Tryz.underlying84 h
  rw [cellsCs] at hl
  obtain ⟨c0, c1, c2, rfl⟩ := lstCs hl
  obtain ⟨x0, x1, x2, rfl⟩ := lstCs (show xs.length = 3 from hn)
  obtain ⟨n0, k0, _, z0⟩ := DataW.trod_string Tryz.underlying9 (hf 0 _ rfl)
  obtain ⟨n1, k1, _, z1⟩ := DataW.trod_string Tryz.underlying9 (hf 1 _ rfl)
  obtain ⟨n2, k2, _, z2⟩ := DataW.trod_string Tryz.underlying9 (hf 2 _ rfl)
  simp [cellsString] at k0 k1 k2
  unfold maxLen at z0 z1 z2
  exact ⟨⟨n0, n1, n2⟩, by rw [k0, k1, k2], z0, z1, z2⟩
theorem openCss {fuel : Nat} {cs : List Value} {x : DataW H × List MemPlace} (h : DataW.trod enc Tryz.prog W base spare held fuel 23 cs = some x) : ∃ v rs, cs = [v] ∧ RowCs W v rs := by
  rcases open_slice Tryz.underlying23 h with ⟨rfl, _⟩ | ⟨a, len, cap, m, n, D, Pl, rfl, _, hl, hm, hmm, _, hx⟩
  · exact ⟨_, [], rfl, RowCs.nil W⟩
  · have hlm : len ≤ m := by rw [hmm]; split <;> omega
    have inh : Inhabited Crs := ⟨⟨⟨#[]⟩, ⟨#[]⟩, ⟨#[]⟩⟩⟩
    obtain ⟨f, hf⟩ := choose_lt (α := Crs) (p := fun i l => (W.cell? ((a.add (i * 3)).add 0) = some (.string l.partner) ∧ W.cell? ((a.add (i * 3)).add 1) = some (.string l.theirs) ∧ W.cell? ((a.add (i * 3)).add 2) = some (.string l.own)) ∧ l.partner.size ≤ 9223372036854775807 ∧ l.theirs.size ≤ 9223372036854775807 ∧ l.own.size ≤ 9223372036854775807) (n := len) (fun i hi => by
      obtain ⟨cs', h1, h2⟩ := hx i (by omega)
      rw [cellsCs] at h1
      obtain ⟨l, rfl, hz⟩ := openCs h2
      have k := (World.cells?_some h1).2.2
      have k0 := k 0 (by omega)
      have k1 := k 1 (by omega)
      have k2 := k 2 (by omega)
      refine ⟨l, ⟨⟨?_, ?_, ?_⟩, hz⟩⟩
      · simpa using k0
      · simpa using k1
      · simpa using k2)
    have htl : ((List.range len).map f).length = len := by simp
    unfold maxLen at hm
    have hget : ∀ (i : Nat) (g : Crs), ((List.range len).map f)[i]? = some g → i < len ∧ g = f i := fun i g hi => by
      have hil := (List.getElem?_eq_some_iff.1 hi).1
      rw [htl] at hil
      exact ⟨hil, by simpa [hil] using hi.symm⟩
    refine ⟨_, (List.range len).map f, rfl, ⟨⟨some a, cap, by rw [htl], fun hn => ?_⟩, by omega, fun i g hi => by obtain ⟨hil, rfl⟩ := hget i g hi; exact (hf i hil).2⟩⟩
    obtain ⟨b, off, spot⟩ := a
    have hpos : 0 < len := by
      rcases Nat.eq_zero_or_pos len with rfl | g
      · exact absurd (by simp) hn
      · exact g
    have h0 := (hf 0 hpos).1.1
    have hspot : spot = none := by simpa [Addr.add] using World.cell?_spot h0
    subst hspot
    refine ⟨b, off, rfl, fun i g hi => ?_⟩
    obtain ⟨hil, rfl⟩ := hget i g hi
    obtain ⟨⟨k0, k1, k2⟩, _⟩ := hf i hil
    rw [fl_addr, fl_addr] at k0 k1 k2
    exact ⟨k0, k1, k2⟩
set_option maxRecDepth 100000 in
theorem openCsa {r : Reach} {b0 : Nat} {v : Value} {d : DataW H} {p : List MemPlace} (hv : Value.okWide Tryz.prog W r b0 84 v) (h : DataW.Trod enc Tryz.prog W base spare held 84 v d p) :
    ∃ q : Crs, v = .agg #[.string q.partner, .string q.theirs, .string q.own] ∧ q.partner.size ≤ 9223372036854775807 ∧ q.theirs.size ≤ 9223372036854775807 ∧ q.own.size ≤ 9223372036854775807 := by
  obtain ⟨cs, rfl, hsz⟩ := okWide_struct Tryz.underlying84 hv
  obtain ⟨fuel, hf0⟩ := h
  obtain ⟨q, hq, hz⟩ := openCs hf0
  refine ⟨q, ?_, hz⟩
  obtain ⟨l⟩ := cs
  simp [Value.cells] at hq
  rw [hq]
set_option maxRecDepth 100000 in
theorem openCssa {r : Reach} {b0 : Nat} {v : Value} {d : DataW H} {p : List MemPlace} (hv : Value.okWide Tryz.prog W r b0 23 v) (h : DataW.Trod enc Tryz.prog W base spare held 23 v d p) :
    ∃ rs, RowCs W v rs := by
  obtain ⟨a, l, c, rfl⟩ := okWide_slice Tryz.underlying23 hv
  obtain ⟨fuel, hf0⟩ := h
  obtain ⟨v', rs, e, hR⟩ := openCss hf0
  simp [Value.cells] at e
  subst e
  exact ⟨rs, hR⟩
end
end Go.Proofs.YtamlhbjcokkmeaaGreatDoor
