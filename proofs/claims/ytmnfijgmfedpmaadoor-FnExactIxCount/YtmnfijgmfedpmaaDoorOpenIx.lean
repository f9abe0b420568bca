/- An argument that is a message, a bundle, an interchange, or a list of such, opened. -/
import Derived.Test.YtmnfijgmfedpmaaDoorOpenSegs
import Derived.Test.YtmnfijgmfedpmaaDoorRowIx
namespace Go.Proofs.YtmnfijgmfedpmaaDoor
open Go.ChangeShapes Go.WideShapes Go.ChangeAt Go.RowKit Go.Joins Go.Deep
theorem cellsI64 : Tryd.prog.cellsOf 2 = 1 := by kernel_rfl
theorem cellsSegs : Tryd.prog.cellsOf 38 = 1 := by kernel_rfl
theorem cellsM : Tryd.prog.cellsOf 133 = 2 := by kernel_rfl
theorem cellssM : Tryd.prog.cellsOf 91 = 1 := by kernel_rfl
theorem lstM {α : Type} {l : List α} (h : l.length = 2) : ∃ a0 a1, l = [a0, a1] := by
  match l, h with
  | [a0, a1], _ => exact ⟨a0, a1, rfl⟩
section
variable {H : Type} {enc : TypeId × Value → H} {W : World} {base : Nat} {spare : Nat → Bool} {held : Bool}
theorem openM {fuel : Nat} {cs : List Value} {x : DataW H × List MemPlace} (h : DataW.trod enc Tryd.prog W base spare held fuel 133 cs = some x) :
    ∃ (r : Msg) (u : Value), cs = [.int .i64 r.num, u] ∧ RM W u r := by
  obtain ⟨xs, n, rfl, hx, hl, hn, hf⟩ := DataW.trod_struct Tryd.underlying133 h
  rw [cellsM] at hl
  obtain ⟨c0, c1, rfl⟩ := lstM hl
  obtain ⟨x0, x1, rfl⟩ := lstM (show xs.length = 2 from hn)
  obtain ⟨n0, k0, _, _⟩ := DataW.trod_int Tryd.underlying2 (hf 0 _ rfl)
  obtain ⟨u, ls, k1, r1⟩ := openGs1 (hf 1 _ rfl)
  simp [cellsI64, cellsSegs] at k0 k1
  exact ⟨⟨n0, ls⟩, u, by rw [k0, k1], ⟨r1⟩⟩
theorem opensM {fuel : Nat} {cs : List Value} {x : DataW H × List MemPlace} (h : DataW.trod enc Tryd.prog W base spare held fuel 91 cs = some x) : ∃ v rs, cs = [v] ∧ RowM W v rs := by
  rcases open_slice Tryd.underlying91 h with ⟨rfl, _⟩ | ⟨a, len, cap, m, n, D, Pl, rfl, _, hl, hm, hmm, _, hx⟩
  · exact ⟨_, [], rfl, ⟨⟨_, _, rfl, fun h => absurd rfl h⟩, by simp⟩⟩
  · have hlm : len ≤ m := by rw [hmm]; split <;> omega
    have inh : Inhabited Msg := ⟨⟨0, []⟩⟩
    obtain ⟨f, hf⟩ := choose_lt (α := Msg) (p := fun i l => ∃ u, (W.cell? ((a.add (i * 2)).add 0) = some (.int .i64 l.num) ∧ W.cell? ((a.add (i * 2)).add 1) = some (u)) ∧ RM W u l) (n := len) (fun i hi => by
      obtain ⟨cs', h1, h2⟩ := hx i (by omega)
      rw [cellsM] at h1
      obtain ⟨l, u, rfl, hR⟩ := openM h2
      have k := (World.cells?_some h1).2.2
      have k0 := k 0 (by omega)
      have k1 := k 1 (by omega)
      refine ⟨l, u, ⟨?_, ?_⟩, hR⟩
      · simpa using k0
      · simpa using k1)
    have htl : ((List.range len).map f).length = len := by simp
    unfold maxLen at hm
    have hget : ∀ (i : Nat) (g : Msg), ((List.range len).map f)[i]? = some g → i < len ∧ g = f i := fun i g hi => by
      have hil := (List.getElem?_eq_some_iff.1 hi).1
      rw [htl] at hil
      exact ⟨hil, by simpa [hil] using hi.symm⟩
    refine ⟨_, (List.range len).map f, rfl, ⟨⟨some a, cap, by rw [htl], fun hn => ?_⟩, by omega⟩⟩
    obtain ⟨b, off, spot⟩ := a
    have hpos : 0 < len := by
      rcases Nat.eq_zero_or_pos len with rfl | g
      · exact absurd (by simp) hn
      · exact g
    obtain ⟨_, ⟨h0, _⟩, _⟩ := hf 0 hpos
    have hspot : spot = none := by simpa [Addr.add] using World.cell?_spot h0
    subst hspot
    refine ⟨b, off, rfl, fun i g hi => ?_⟩
    obtain ⟨hil, rfl⟩ := hget i g hi
    obtain ⟨u, ⟨k0, k1⟩, hR⟩ := hf i hil
    rw [addr_plain, addr_plain] at k0 k1
    exact ⟨u, ⟨k0, k1⟩, hR⟩
end
theorem cellsB : Tryd.prog.cellsOf 93 = 3 := by kernel_rfl
theorem cellssB : Tryd.prog.cellsOf 22 = 1 := by kernel_rfl
theorem lstB {α : Type} {l : List α} (h : l.length = 3) : ∃ a0 a1 a2, l = [a0, a1, a2] := by
  match l, h with
  | [a0, a1, a2], _ => exact ⟨a0, a1, a2, rfl⟩
section
variable {H : Type} {enc : TypeId × Value → H} {W : World} {base : Nat} {spare : Nat → Bool} {held : Bool}
theorem openB {fuel : Nat} {cs : List Value} {x : DataW H × List MemPlace} (h : DataW.trod enc Tryd.prog W base spare held fuel 93 cs = some x) :
    ∃ (r : Bun) (u : Value), cs = [.int .i64 r.kind, .int .i64 r.num, u] ∧ RB W u r := by
  obtain ⟨xs, n, rfl, hx, hl, hn, hf⟩ := DataW.trod_struct Tryd.underlying93 h
  rw [cellsB] at hl
  obtain ⟨c0, c1, c2, rfl⟩ := lstB hl
  obtain ⟨x0, x1, x2, rfl⟩ := lstB (show xs.length = 3 from hn)
  obtain ⟨n0, k0, _, _⟩ := DataW.trod_int Tryd.underlying2 (hf 0 _ rfl)
  obtain ⟨n1, k1, _, _⟩ := DataW.trod_int Tryd.underlying2 (hf 1 _ rfl)
  obtain ⟨u, ls, k2, r2⟩ := opensM (hf 2 _ rfl)
  simp [cellsI64, cellssM] at k0 k1 k2
  exact ⟨⟨n0, n1, ls⟩, u, by rw [k0, k1, k2], ⟨r2⟩⟩
theorem opensB {fuel : Nat} {cs : List Value} {x : DataW H × List MemPlace} (h : DataW.trod enc Tryd.prog W base spare held fuel 22 cs = some x) : ∃ v rs, cs = [v] ∧ RowB W v rs := by
  rcases open_slice Tryd.underlying22 h with ⟨rfl, _⟩ | ⟨a, len, cap, m, n, D, Pl, rfl, _, hl, hm, hmm, _, hx⟩
  · exact ⟨_, [], rfl, ⟨⟨_, _, rfl, fun h => absurd rfl h⟩, by simp⟩⟩
  · have hlm : len ≤ m := by rw [hmm]; split <;> omega
    have inh : Inhabited Bun := ⟨⟨0, 0, []⟩⟩
    obtain ⟨f, hf⟩ := choose_lt (α := Bun) (p := fun i l => ∃ u, (W.cell? ((a.add (i * 3)).add 0) = some (.int .i64 l.kind) ∧ W.cell? ((a.add (i * 3)).add 1) = some (.int .i64 l.num) ∧ W.cell? ((a.add (i * 3)).add 2) = some (u)) ∧ RB W u l) (n := len) (fun i hi => by
      obtain ⟨cs', h1, h2⟩ := hx i (by omega)
      rw [cellsB] at h1
      obtain ⟨l, u, rfl, hR⟩ := openB h2
      have k := (World.cells?_some h1).2.2
      have k0 := k 0 (by omega)
      have k1 := k 1 (by omega)
      have k2 := k 2 (by omega)
      refine ⟨l, u, ⟨?_, ?_, ?_⟩, hR⟩
      · simpa using k0
      · simpa using k1
      · simpa using k2)
    have htl : ((List.range len).map f).length = len := by simp
    unfold maxLen at hm
    have hget : ∀ (i : Nat) (g : Bun), ((List.range len).map f)[i]? = some g → i < len ∧ g = f i := fun i g hi => by
      have hil := (List.getElem?_eq_some_iff.1 hi).1
      rw [htl] at hil
      exact ⟨hil, by simpa [hil] using hi.symm⟩
    refine ⟨_, (List.range len).map f, rfl, ⟨⟨some a, cap, by rw [htl], fun hn => ?_⟩, by omega⟩⟩
    obtain ⟨b, off, spot⟩ := a
    have hpos : 0 < len := by
      rcases Nat.eq_zero_or_pos len with rfl | g
      · exact absurd (by simp) hn
      · exact g
    obtain ⟨_, ⟨h0, _⟩, _⟩ := hf 0 hpos
    have hspot : spot = none := by simpa [Addr.add] using World.cell?_spot h0
    subst hspot
    refine ⟨b, off, rfl, fun i g hi => ?_⟩
    obtain ⟨hil, rfl⟩ := hget i g hi
    obtain ⟨u, ⟨k0, k1, k2⟩, hR⟩ := hf i hil
    rw [addr_plain, addr_plain] at k0 k1 k2
    exact ⟨u, ⟨k0, k1, k2⟩, hR⟩
end
theorem cellsI : Tryd.prog.cellsOf 24 = 4 := by kernel_rfl
theorem lstI {α : Type} {l : List α} (h : l.length = 4) : ∃ a0 a1 a2 a3, l = [a0, a1, a2, a3] := by
  match l, h with
  | [a0, a1, a2, a3], _ => exact ⟨a0, a1, a2, a3, rfl⟩
section
variable {H : Type} {enc : TypeId × Value → H} {W : World} {base : Nat} {spare : Nat → Bool} {held : Bool}
theorem openI {fuel : Nat} {cs : List Value} {x : DataW H × List MemPlace} (h : DataW.trod enc Tryd.prog W base spare held fuel 24 cs = some x) :
    ∃ (r : Ixc) (u : Value), cs = [.string r.frm, .string r.to, .int .i64 r.num, u] ∧ RI W u r := by
  obtain ⟨xs, n, rfl, hx, hl, hn, hf⟩ := DataW.trod_struct Tryd.underlying24 h
  rw [cellsI] at hl
  obtain ⟨c0, c1, c2, c3, rfl⟩ := lstI hl
  obtain ⟨x0, x1, x2, x3, rfl⟩ := lstI (show xs.length = 4 from hn)
  obtain ⟨n0, k0, _, z0⟩ := DataW.trod_string Tryd.underlying9 (hf 0 _ rfl)
  obtain ⟨n1, k1, _, z1⟩ := DataW.trod_string Tryd.underlying9 (hf 1 _ rfl)
  obtain ⟨n2, k2, _, _⟩ := DataW.trod_int Tryd.underlying2 (hf 2 _ rfl)
  obtain ⟨u, ls, k3, r3⟩ := opensB (hf 3 _ rfl)
  simp [cellsI64, cellsString, cellssB] at k0 k1 k2 k3
  unfold maxLen at z0 z1
  exact ⟨⟨n0, n1, n2, ls⟩, u, by rw [k0, k1, k2, k3], ⟨r3, z0, z1⟩⟩
set_option maxRecDepth 100000 in
theorem openIa {r : Reach} {b0 : Nat} {v : Value} {d : DataW H} {p : List MemPlace} (hv : Value.okWide Tryd.prog W r b0 24 v) (h : DataW.Trod enc Tryd.prog W base spare held 24 v d p) :
    ∃ (q : Ixc) (u : Value), v = .agg #[.string q.frm, .string q.to, .int .i64 q.num, u] ∧ RI W u q := by
  obtain ⟨cs, rfl, hsz⟩ := okWide_struct Tryd.underlying24 hv
  obtain ⟨fuel, hf0⟩ := h
  obtain ⟨q, u, hq, hR⟩ := openI hf0
  refine ⟨q, u, ?_, hR⟩
  obtain ⟨l⟩ := cs
  simp [Value.cells] at hq
  rw [hq]
end
end Go.Proofs.YtmnfijgmfedpmaaDoor
