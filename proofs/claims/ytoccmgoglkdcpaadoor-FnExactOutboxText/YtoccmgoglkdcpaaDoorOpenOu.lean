/- An argument that is a list of Out, opened. -/
import Derived.Test.YtoccmgoglkdcpaaDoorOpenB
import Derived.Test.YtoccmgoglkdcpaaDoorRowOu
namespace Go.Proofs.YtoccmgoglkdcpaaDoor
open Go.ChangeShapes Go.WideShapes Go.ChangeAt Go.RowKit Go.Joins Go.Deep
theorem cellsOu : Tryd.prog.cellsOf 76 = 5 := by kernel_rfl
theorem cellssOu : Tryd.prog.cellsOf 42 = 1 := by kernel_rfl
theorem lstOu {α : Type} {l : List α} (h : l.length = 5) : ∃ a0 a1 a2 a3 a4, l = [a0, a1, a2, a3, a4] := by
  match l, h with
  | [a0, a1, a2, a3, a4], _ => exact ⟨a0, a1, a2, a3, a4, rfl⟩
section
variable {H : Type} {enc : TypeId × Value → H} {W : World} {base : Nat} {spare : Nat → Bool} {held : Bool}
theorem openOu {fuel : Nat} {cs : List Value} {x : DataW H × List MemPlace} (h : DataW.trod enc Tryd.prog W base spare held fuel 76 cs = some x) :
    ∃ r : OutR, cs = [.string r.partner, .int .i64 r.number, .string r.text, .int .i64 r.tries, .int .i64 r.due] ∧ r.partner.size ≤ 9223372036854775807 ∧ r.text.size ≤ 9223372036854775807 := by
  obtain ⟨xs, n, rfl, hx, hl, hn, hf⟩ := DataW.trod_struct Tryd.underlying76 h
  rw [cellsOu] at hl
  obtain ⟨c0, c1, c2, c3, c4, rfl⟩ := lstOu hl
  obtain ⟨x0, x1, x2, x3, x4, rfl⟩ := lstOu (show xs.length = 5 from hn)
  obtain ⟨n0, k0, _, z0⟩ := DataW.trod_string Tryd.underlying9 (hf 0 _ rfl)
  obtain ⟨n1, k1, _, _⟩ := DataW.trod_int Tryd.underlying2 (hf 1 _ rfl)
  obtain ⟨n2, k2, _, z2⟩ := DataW.trod_string Tryd.underlying9 (hf 2 _ rfl)
  obtain ⟨n3, k3, _, _⟩ := DataW.trod_int Tryd.underlying2 (hf 3 _ rfl)
  obtain ⟨n4, k4, _, _⟩ := DataW.trod_int Tryd.underlying2 (hf 4 _ rfl)
  simp [cellsI64, cellsString] at k0 k1 k2 k3 k4
  unfold maxLen at z0 z2
  exact ⟨⟨n0, n1, n2, n3, n4⟩, by rw [k0, k1, k2, k3, k4], z0, z2⟩
theorem openOus {fuel : Nat} {cs : List Value} {x : DataW H × List MemPlace} (h : DataW.trod enc Tryd.prog W base spare held fuel 42 cs = some x) : ∃ v rs, cs = [v] ∧ RowOu W v rs := by
  rcases open_slice Tryd.underlying42 h with ⟨rfl, _⟩ | ⟨a, len, cap, m, n, D, Pl, rfl, _, hl, hm, hmm, _, hx⟩
  · exact ⟨_, [], rfl, RowOu.nil W⟩
  · have hlm : len ≤ m := by rw [hmm]; split <;> omega
    have inh : Inhabited OutR := ⟨⟨⟨#[]⟩, 0, ⟨#[]⟩, 0, 0⟩⟩
    obtain ⟨f, hf⟩ := choose_lt (α := OutR) (p := fun i l => (W.cell? ((a.add (i * 5)).add 0) = some (.string l.partner) ∧ W.cell? ((a.add (i * 5)).add 1) = some (.int .i64 l.number) ∧ W.cell? ((a.add (i * 5)).add 2) = some (.string l.text) ∧ W.cell? ((a.add (i * 5)).add 3) = some (.int .i64 l.tries) ∧ W.cell? ((a.add (i * 5)).add 4) = some (.int .i64 l.due)) ∧ l.partner.size ≤ 9223372036854775807 ∧ l.text.size ≤ 9223372036854775807) (n := len) (fun i hi => by
      obtain ⟨cs', h1, h2⟩ := hx i (by omega)
      rw [cellsOu] at h1
      obtain ⟨l, rfl, hz⟩ := openOu h2
      have k := (World.cells?_some h1).2.2
      have k0 := k 0 (by omega)
      have k1 := k 1 (by omega)
      have k2 := k 2 (by omega)
      have k3 := k 3 (by omega)
      have k4 := k 4 (by omega)
      refine ⟨l, ⟨⟨?_, ?_, ?_, ?_, ?_⟩, hz⟩⟩
      · simpa using k0
      · simpa using k1
      · simpa using k2
      · simpa using k3
      · simpa using k4)
    have htl : ((List.range len).map f).length = len := by simp
    unfold maxLen at hm
    have hget : ∀ (i : Nat) (g : OutR), ((List.range len).map f)[i]? = some g → i < len ∧ g = f i := fun i g hi => by
      have hil := (List.getElem?_eq_some_iff.1 hi).1
      rw [htl] at hil
      exact ⟨hil, by simpa [hil] using hi.symm⟩
    refine ⟨_, (List.range len).map f, rfl, ⟨⟨some a, cap, by rw [htl], fun hn => ?_⟩, by omega, fun i g hi => by obtain ⟨hil, rfl⟩ := hget i g hi; exact (hf i hil).2⟩⟩
    obtain ⟨b, off, spot⟩ := a
    have hpos : 0 < len := by
      rcases Nat.eq_zero_or_pos len with rfl | g
      · exact absurd (by simp) hn
      · exact g
    have h0 := (hf 0 hpos).1.1
    have hspot : spot = none := by simpa [Addr.add] using World.cell?_spot h0
    subst hspot
    refine ⟨b, off, rfl, fun i g hi => ?_⟩
    obtain ⟨hil, rfl⟩ := hget i g hi
    obtain ⟨⟨k0, k1, k2, k3, k4⟩, _⟩ := hf i hil
    rw [fl_addr, fl_addr] at k0 k1 k2 k3 k4
    exact ⟨k0, k1, k2, k3, k4⟩
set_option maxRecDepth 100000 in
theorem openOua {r : Reach} {b0 : Nat} {v : Value} {d : DataW H} {p : List MemPlace} (hv : Value.okWide Tryd.prog W r b0 76 v) (h : DataW.Trod enc Tryd.prog W base spare held 76 v d p) :
    ∃ q : OutR, v = .agg #[.string q.partner, .int .i64 q.number, .string q.text, .int .i64 q.tries, .int .i64 q.due] ∧ q.partner.size ≤ 9223372036854775807 ∧ q.text.size ≤ 9223372036854775807 := by
  obtain ⟨cs, rfl, hsz⟩ := okWide_struct Tryd.underlying76 hv
  obtain ⟨fuel, hf0⟩ := h
  obtain ⟨q, hq, hz⟩ := openOu hf0
  refine ⟨q, ?_, hz⟩
  obtain ⟨l⟩ := cs
  simp [Value.cells] at hq
  rw [hq]
set_option maxRecDepth 100000 in
theorem openOusa {r : Reach} {b0 : Nat} {v : Value} {d : DataW H} {p : List MemPlace} (hv : Value.okWide Tryd.prog W r b0 42 v) (h : DataW.Trod enc Tryd.prog W base spare held 42 v d p) :
    ∃ rs, RowOu W v rs := by
  obtain ⟨a, l, c, rfl⟩ := okWide_slice Tryd.underlying42 hv
  obtain ⟨fuel, hf0⟩ := h
  obtain ⟨v', rs, e, hR⟩ := openOus hf0
  simp [Value.cells] at e
  subst e
  exact ⟨rs, hR⟩
end
end Go.Proofs.YtoccmgoglkdcpaaDoor
