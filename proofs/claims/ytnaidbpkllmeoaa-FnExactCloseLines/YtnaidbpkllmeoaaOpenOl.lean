/- An argument that is a list of OrderLine, opened. -/
import Derived.Test.YtnaidbpkllmeoaaOpenB
import Derived.Test.YtnaidbpkllmeoaaRowOl
namespace Go.Proofs.Ytnaidbpkllmeoaa
open Go.ChangeShapes Go.WideShapes Go.ChangeAt Go.RowKit Go.Joins Go.Deep
theorem cellsOl : Try.prog.cellsOf 23 = 8 := by kernel_rfl
theorem cellssOl : Try.prog.cellsOf 29 = 1 := by kernel_rfl
theorem lstOl {α : Type} {l : List α} (h : l.length = 8) : ∃ a0 a1 a2 a3 a4 a5 a6 a7, l = [a0, a1, a2, a3, a4, a5, a6, a7] := by
  match l, h with
  | [a0, a1, a2, a3, a4, a5, a6, a7], _ => exact ⟨a0, a1, a2, a3, a4, a5, a6, a7, rfl⟩
section
variable {H : Type} {enc : TypeId × Value → H} {W : World} {base : Nat} {spare : Nat → Bool} {held : Bool}
theorem openOl {fuel : Nat} {cs : List Value} {x : DataW H × List MemPlace} (h : DataW.trod enc Try.prog W base spare held fuel 23 cs = some x) :
    ∃ r : OLn, cs = [.string r.partner, .string r.ref, .int .i64 r.no, .string r.item, .int .i64 r.ordered, .int .i64 r.sent, .int .i64 r.got, .int .i64 r.cut] ∧ r.partner.size ≤ 9223372036854775807 ∧ r.ref.size ≤ 9223372036854775807 ∧ r.item.size ≤ 9223372036854775807 := by
  obtain ⟨xs, n, rfl, hx, hl, hn, hf⟩ := DataW.trod_struct Try.underlying23 h
  rw [cellsOl] at hl
  obtain ⟨c0, c1, c2, c3, c4, c5, c6, c7, rfl⟩ := lstOl hl
  obtain ⟨x0, x1, x2, x3, x4, x5, x6, x7, rfl⟩ := lstOl (show xs.length = 8 from hn)
  obtain ⟨n0, k0, _, z0⟩ := DataW.trod_string Try.underlying9 (hf 0 _ rfl)
  obtain ⟨n1, k1, _, z1⟩ := DataW.trod_string Try.underlying9 (hf 1 _ rfl)
  obtain ⟨n2, k2, _, _⟩ := DataW.trod_int Try.underlying2 (hf 2 _ rfl)
  obtain ⟨n3, k3, _, z3⟩ := DataW.trod_string Try.underlying9 (hf 3 _ rfl)
  obtain ⟨n4, k4, _, _⟩ := DataW.trod_int Try.underlying2 (hf 4 _ rfl)
  obtain ⟨n5, k5, _, _⟩ := DataW.trod_int Try.underlying2 (hf 5 _ rfl)
  obtain ⟨n6, k6, _, _⟩ := DataW.trod_int Try.underlying2 (hf 6 _ rfl)
  obtain ⟨n7, k7, _, _⟩ := DataW.trod_int Try.underlying2 (hf 7 _ rfl)
  simp [cellsI64, cellsString] at k0 k1 k2 k3 k4 k5 k6 k7
  unfold maxLen at z0 z1 z3
  exact ⟨⟨n0, n1, n2, n3, n4, n5, n6, n7⟩, by rw [k0, k1, k2, k3, k4, k5, k6, k7], z0, z1, z3⟩
theorem openOls {fuel : Nat} {cs : List Value} {x : DataW H × List MemPlace} (h : DataW.trod enc Try.prog W base spare held fuel 29 cs = some x) : ∃ v rs, cs = [v] ∧ RowOl W v rs := by
  rcases open_slice Try.underlying29 h with ⟨rfl, _⟩ | ⟨a, len, cap, m, n, D, Pl, rfl, _, hl, hm, hmm, _, hx⟩
  · exact ⟨_, [], rfl, RowOl.nil W⟩
  · have hlm : len ≤ m := by rw [hmm]; split <;> omega
    have inh : Inhabited OLn := ⟨⟨⟨#[]⟩, ⟨#[]⟩, 0, ⟨#[]⟩, 0, 0, 0, 0⟩⟩
    obtain ⟨f, hf⟩ := choose_lt (α := OLn) (p := fun i l => (W.cell? ((a.add (i * 8)).add 0) = some (.string l.partner) ∧ W.cell? ((a.add (i * 8)).add 1) = some (.string l.ref) ∧ W.cell? ((a.add (i * 8)).add 2) = some (.int .i64 l.no) ∧ W.cell? ((a.add (i * 8)).add 3) = some (.string l.item) ∧ W.cell? ((a.add (i * 8)).add 4) = some (.int .i64 l.ordered) ∧ W.cell? ((a.add (i * 8)).add 5) = some (.int .i64 l.sent) ∧ W.cell? ((a.add (i * 8)).add 6) = some (.int .i64 l.got) ∧ W.cell? ((a.add (i * 8)).add 7) = some (.int .i64 l.cut)) ∧ l.partner.size ≤ 9223372036854775807 ∧ l.ref.size ≤ 9223372036854775807 ∧ l.item.size ≤ 9223372036854775807) (n := len) (fun i hi => by
      obtain ⟨cs', h1, h2⟩ := hx i (by omega)
      rw [cellsOl] at h1
      obtain ⟨l, rfl, hz⟩ := openOl h2
      have k := (World.cells?_some h1).2.2
      have k0 := k 0 (by omega)
      have k1 := k 1 (by omega)
      have k2 := k 2 (by omega)
      have k3 := k 3 (by omega)
      have k4 := k 4 (by omega)
      have k5 := k 5 (by omega)
      have k6 := k 6 (by omega)
      have k7 := k 7 (by omega)
      refine ⟨l, ⟨⟨?_, ?_, ?_, ?_, ?_, ?_, ?_, ?_⟩, hz⟩⟩
      · simpa using k0
      · simpa using k1
      · simpa using k2
      · simpa using k3
      · simpa using k4
      · simpa using k5
      · simpa using k6
      · simpa using k7)
    have htl : ((List.range len).map f).length = len := by simp
    unfold maxLen at hm
    have hget : ∀ (i : Nat) (g : OLn), ((List.range len).map f)[i]? = some g → i < len ∧ g = f i := fun i g hi => by
      have hil := (List.getElem?_eq_some_iff.1 hi).1
      rw [htl] at hil
      exact ⟨hil, by simpa [hil] using hi.symm⟩
    refine ⟨_, (List.range len).map f, rfl, ⟨⟨some a, cap, by rw [htl], fun hn => ?_⟩, by omega, fun i g hi => by obtain ⟨hil, rfl⟩ := hget i g hi; exact (hf i hil).2⟩⟩
    obtain ⟨b, off, spot⟩ := a
    have hpos : 0 < len := by
      rcases Nat.eq_zero_or_pos len with rfl | g
      · exact absurd (by simp) hn
      · exact g
    have h0 := (hf 0 hpos).1.1
    have hspot : spot = none := by simpa [Addr.add] using World.cell?_spot h0
    subst hspot
    refine ⟨b, off, rfl, fun i g hi => ?_⟩
    obtain ⟨hil, rfl⟩ := hget i g hi
    obtain ⟨⟨k0, k1, k2, k3, k4, k5, k6, k7⟩, _⟩ := hf i hil
    rw [fl_addr, fl_addr] at k0 k1 k2 k3 k4 k5 k6 k7
    exact ⟨k0, k1, k2, k3, k4, k5, k6, k7⟩
set_option maxRecDepth 100000 in
theorem openOla {r : Reach} {b0 : Nat} {v : Value} {d : DataW H} {p : List MemPlace} (hv : Value.okWide Try.prog W r b0 23 v) (h : DataW.Trod enc Try.prog W base spare held 23 v d p) :
    ∃ q : OLn, v = .agg #[.string q.partner, .string q.ref, .int .i64 q.no, .string q.item, .int .i64 q.ordered, .int .i64 q.sent, .int .i64 q.got, .int .i64 q.cut] ∧ q.partner.size ≤ 9223372036854775807 ∧ q.ref.size ≤ 9223372036854775807 ∧ q.item.size ≤ 9223372036854775807 := by
  obtain ⟨cs, rfl, hsz⟩ := okWide_struct Try.underlying23 hv
  obtain ⟨fuel, hf0⟩ := h
  obtain ⟨q, hq, hz⟩ := openOl hf0
  refine ⟨q, ?_, hz⟩
  obtain ⟨l⟩ := cs
  simp [Value.cells] at hq
  rw [hq]
set_option maxRecDepth 100000 in
theorem openOlsa {r : Reach} {b0 : Nat} {v : Value} {d : DataW H} {p : List MemPlace} (hv : Value.okWide Try.prog W r b0 29 v) (h : DataW.Trod enc Try.prog W base spare held 29 v d p) :
    ∃ rs, RowOl W v rs := by
  obtain ⟨a, l, c, rfl⟩ := okWide_slice Try.underlying29 hv
  obtain ⟨fuel, hf0⟩ := h
  obtain ⟨v', rs, e, hR⟩ := openOls hf0
  simp [Value.cells] at e
  subst e
  exact ⟨rs, hR⟩
end
end Go.Proofs.Ytnaidbpkllmeoaa
