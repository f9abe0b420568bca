/- An argument that is a list of papers, or a parcel, opened. -/
import Derived.Test.YtballllmenhghaaOpenP
import Derived.Test.YtballllmenhghaaRowPs
namespace Go.Proofs.Ytballllmenhghaa
open Go.ChangeShapes Go.WideShapes Go.ChangeAt Go.RowKit Go.Joins Go.Deep
theorem cellsPapers : Try.prog.cellsOf 22 = 1 := by kernel_rfl
theorem cellsParcel : Try.prog.cellsOf 24 = 4 := by kernel_rfl
theorem list4 {α : Type} {l : List α} (h : l.length = 4) : ∃ a b c d, l = [a, b, c, d] := by
  match l, h with
  | [a, b, c, d], _ => exact ⟨a, b, c, d, rfl⟩
theorem array4 {α : Type} {cs : Array α} (h : cs.size = 4) : ∃ a b c d, cs = #[a, b, c, d] := by
  obtain ⟨l⟩ := cs
  obtain ⟨a, b, c, d, rfl⟩ := list4 (show l.length = 4 from h)
  exact ⟨a, b, c, d, rfl⟩
section
variable {H : Type} {enc : TypeId × Value → H} {W : World} {base : Nat} {spare : Nat → Bool} {held : Bool}
theorem openP1 {fuel : Nat} {cs : List Value} {x : DataW H × List MemPlace} (h : DataW.trod enc Try.prog W base spare held fuel 43 cs = some x) :
    ∃ (q : Pap) (vn vl : Value), cs = [.int .i64 q.kind, .string q.ref, .string q.other, .int .i64 q.day, vn, vl] ∧ PapR W vn vl q := by
  obtain ⟨xs, n, rfl, hx, hl, hn, hf⟩ := DataW.trod_struct Try.underlying43 h
  rw [cellsPaper] at hl
  obtain ⟨c0, c1, c2, c3, c4, c5, rfl⟩ := list6 hl
  obtain ⟨x0, x1, x2, x3, x4, x5, rfl⟩ := list6 (show xs.length = 6 from hn)
  obtain ⟨n0, k0, _, _⟩ := DataW.trod_int Try.underlying2 (hf 0 _ rfl)
  obtain ⟨s1, k1, _, z1⟩ := DataW.trod_string Try.underlying9 (hf 1 _ rfl)
  obtain ⟨s2, k2, _, z2⟩ := DataW.trod_string Try.underlying9 (hf 2 _ rfl)
  obtain ⟨n3, k3, _, _⟩ := DataW.trod_int Try.underlying2 (hf 3 _ rfl)
  obtain ⟨vn, ns, k4, r4⟩ := openS (hf 4 _ rfl)
  obtain ⟨vl, ls, k5, r5⟩ := openL (hf 5 _ rfl)
  simp [cellsString, cellsI64, cellsStrings, cellsLines] at k0 k1 k2 k3 k4 k5
  unfold maxLen at z1 z2
  exact ⟨⟨n0, s1, s2, n3, ns, ls⟩, vn, vl, by rw [k0, k1, k2, k3, k4, k5], r4, r5, z1, z2⟩
theorem openPs {fuel : Nat} {cs : List Value} {x : DataW H × List MemPlace} (h : DataW.trod enc Try.prog W base spare held fuel 22 cs = some x) : ∃ v ps, cs = [v] ∧ RowPs W v ps := by
  rcases open_slice Try.underlying22 h with ⟨rfl, _⟩ | ⟨a, len, cap, m, n, D, Pl, rfl, _, hl, hm, hmm, _, hx⟩
  · exact ⟨_, [], rfl, ⟨⟨_, _, rfl, fun h => absurd rfl h⟩, by simp⟩⟩
  · have hlm : len ≤ m := by rw [hmm]; split <;> omega
    have inh : Inhabited Pap := ⟨⟨0, ⟨#[]⟩, ⟨#[]⟩, 0, [], []⟩⟩
    obtain ⟨f, hf⟩ := choose_lt (α := Pap) (p := fun i l => ∃ vn vl, (W.cell? ((a.add (i * 6)).add 0) = some (.int .i64 l.kind) ∧ W.cell? ((a.add (i * 6)).add 1) = some (.string l.ref) ∧ W.cell? ((a.add (i * 6)).add 2) = some (.string l.other) ∧ W.cell? ((a.add (i * 6)).add 3) = some (.int .i64 l.day) ∧ W.cell? ((a.add (i * 6)).add 4) = some vn ∧ W.cell? ((a.add (i * 6)).add 5) = some vl) ∧ PapR W vn vl l) (n := len) (fun i hi => by
      obtain ⟨cs', h1, h2⟩ := hx i (by omega)
      rw [cellsPaper] at h1
      obtain ⟨l, vn, vl, rfl, hR⟩ := openP1 h2
      have k := (World.cells?_some h1).2.2
      have k0 := k 0 (by omega)
      have k1 := k 1 (by omega)
      have k2 := k 2 (by omega)
      have k3 := k 3 (by omega)
      have k4 := k 4 (by omega)
      have k5 := k 5 (by omega)
      refine ⟨l, vn, vl, ⟨?_, ?_, ?_, ?_, ?_, ?_⟩, hR⟩
      · simpa using k0
      · simpa using k1
      · simpa using k2
      · simpa using k3
      · simpa using k4
      · simpa using k5)
    have htl : ((List.range len).map f).length = len := by simp
    unfold maxLen at hm
    have hget : ∀ (i : Nat) (g : Pap), ((List.range len).map f)[i]? = some g → i < len ∧ g = f i := fun i g hi => by
      have hil := (List.getElem?_eq_some_iff.1 hi).1
      rw [htl] at hil
      exact ⟨hil, by simpa [hil] using hi.symm⟩
    refine ⟨_, (List.range len).map f, rfl, ⟨⟨some a, cap, by rw [htl], fun hn => ?_⟩, by omega⟩⟩
    obtain ⟨b, off, spot⟩ := a
    have hpos : 0 < len := by
      rcases Nat.eq_zero_or_pos len with rfl | g
      · exact absurd (by simp) hn
      · exact g
    obtain ⟨_, _, ⟨h0, _⟩, _⟩ := hf 0 hpos
    have hspot : spot = none := by simpa [Addr.add] using World.cell?_spot h0
    subst hspot
    refine ⟨b, off, rfl, fun i g hi => ?_⟩
    obtain ⟨hil, rfl⟩ := hget i g hi
    obtain ⟨vn, vl, ⟨k0, k1, k2, k3, k4, k5⟩, hR⟩ := hf i hil
    rw [addr_plain, addr_plain] at k0 k1 k2 k3 k4 k5
    exact ⟨vn, vl, ⟨k0, k1, k2, k3, k4, k5⟩, hR⟩
set_option maxRecDepth 100000 in
theorem openPc {r : Reach} {b0 : Nat} {v : Value} {d : DataW H} {p : List MemPlace} (hv : Value.okWide Try.prog W r b0 24 v) (h : DataW.Trod enc Try.prog W base spare held 24 v d p) :
    ∃ (q : Pcl) (u : Value), v = .agg #[.string q.frm, .string q.to, .int .i64 q.num, u] ∧ PclR W u q := by
  obtain ⟨cs, rfl, hsz⟩ := okWide_struct Try.underlying24 hv
  obtain ⟨c0, c1, c2, c3, rfl⟩ := array4 (hsz.trans cellsParcel)
  obtain ⟨fuel, hf0⟩ := h
  obtain ⟨xs, n, rfl, hx, hl, hn, hf⟩ := DataW.trod_struct Try.underlying24 hf0
  obtain ⟨x0, x1, x2, x3, rfl⟩ := list4 (show xs.length = 4 from hn)
  obtain ⟨s0, k0, _, z0⟩ := DataW.trod_string Try.underlying9 (hf 0 _ rfl)
  obtain ⟨s1, k1, _, z1⟩ := DataW.trod_string Try.underlying9 (hf 1 _ rfl)
  obtain ⟨n2, k2, _, _⟩ := DataW.trod_int Try.underlying2 (hf 2 _ rfl)
  obtain ⟨u, ps, k3, r3⟩ := openPs (hf 3 _ rfl)
  simp [Value.cells, cellsString, cellsI64, cellsPapers] at k0 k1 k2 k3
  unfold maxLen at z0 z1
  exact ⟨⟨s0, s1, n2, ps⟩, u, by rw [k0, k1, k2, k3], r3, z0, z1⟩
end
end Go.Proofs.Ytballllmenhghaa
