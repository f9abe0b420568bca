/- Texts of ours put together: OpenEv. -/
import Derived.Test.YtibjmokhkjklkaaDoorG42
import Derived.Test.YtibjmokhkjklkaaDoorG01
import Derived.Test.YtibjmokhkjklkaaDoorG43
namespace Go.Proofs.YtibjmokhkjklkaaDoor
open Go.ChangeShapes Go.WideShapes Go.ChangeAt Go.RowKit Go.Joins Go.Deep
theorem cellssEv : Tryd.prog.cellsOf 22 = 1 := by kernel_rfl
section
variable {H : Type} {enc : TypeId × Value → H} {W : World} {base : Nat} {spare : Nat → Bool} {held : Bool}
theorem openEvs {fuel : Nat} {cs : List Value} {x : DataW H × List MemPlace} (h : DataW.trod enc Tryd.prog W base spare held fuel 22 cs = some x) : ∃ v rs, cs = [v] ∧ RowEv W v rs := by
  rcases open_slice Tryd.underlying22 h with ⟨rfl, _⟩ | ⟨a, len, cap, m, n, D, Pl, rfl, _, hl, hm, hmm, _, hx⟩
  · exact ⟨_, [], rfl, RowEv.nil W⟩
  · have hlm : len ≤ m := by rw [hmm]; split <;> omega
    have inh : Inhabited EvR := ⟨⟨0, ⟨#[]⟩, ⟨#[]⟩, ⟨#[]⟩⟩⟩
    obtain ⟨f, hf⟩ := choose_lt (α := EvR) (p := fun i l => (W.cell? ((a.add (i * 4)).add 0) = some (.int .i64 l.kind) ∧ W.cell? ((a.add (i * 4)).add 1) = some (.string l.a) ∧ W.cell? ((a.add (i * 4)).add 2) = some (.string l.b) ∧ W.cell? ((a.add (i * 4)).add 3) = some (.string l.c)) ∧ l.a.size ≤ 9223372036854775807 ∧ l.b.size ≤ 9223372036854775807 ∧ l.c.size ≤ 9223372036854775807) (n := len) (fun i hi => by
      obtain ⟨cs', h1, h2⟩ := hx i (by omega)
      rw [cellsEv] at h1
      obtain ⟨l, rfl, hz⟩ := openEv h2
      have k := (World.cells?_some h1).2.2
      have k0 := k 0 (by omega)
      have k1 := k 1 (by omega)
      have k2 := k 2 (by omega)
      have k3 := k 3 (by omega)
      refine ⟨l, ⟨⟨?_, ?_, ?_, ?_⟩, hz⟩⟩
      · simpa using k0
      · simpa using k1
      · simpa using k2
      · simpa using k3)
    have htl : ((List.range len).map f).length = len := by simp
    unfold maxLen at hm
    have hget : ∀ (i : Nat) (g : EvR), ((List.range len).map f)[i]? = some g → i < len ∧ g = f i := fun i g hi => by
      have hil := (List.getElem?_eq_some_iff.1 hi).1
      rw [htl] at hil
      exact ⟨hil, by simpa [hil] using hi.symm⟩
    refine ⟨_, (List.range len).map f, rfl, ⟨⟨some a, cap, by rw [htl], fun hn => ?_⟩, by omega, fun i g hi => by obtain ⟨hil, rfl⟩ := hget i g hi; exact (hf i hil).2⟩⟩
    obtain ⟨b, off, spot⟩ := a
    have hpos : 0 < len := by
      rcases Nat.eq_zero_or_pos len with rfl | g
      · exact absurd (by simp) hn
      · exact g
    have h0 := (hf 0 hpos).1.1
    have hspot : spot = none := by simpa [Addr.add] using World.cell?_spot h0
    subst hspot
    refine ⟨b, off, rfl, fun i g hi => ?_⟩
    obtain ⟨hil, rfl⟩ := hget i g hi
    obtain ⟨⟨k0, k1, k2, k3⟩, _⟩ := hf i hil
    rw [fl_addr, fl_addr] at k0 k1 k2 k3
    exact ⟨k0, k1, k2, k3⟩
set_option maxRecDepth 100000 in
theorem openEvsa {r : Reach} {b0 : Nat} {v : Value} {d : DataW H} {p : List MemPlace} (hv : Value.okWide Tryd.prog W r b0 22 v) (h : DataW.Trod enc Tryd.prog W base spare held 22 v d p) :
    ∃ rs, RowEv W v rs := by
  obtain ⟨a, l, c, rfl⟩ := okWide_slice Tryd.underlying22 hv
  obtain ⟨fuel, hf0⟩ := h
  obtain ⟨v', rs, e, hR⟩ := openEvs hf0
  simp [Value.cells] at e
  subst e
  exact ⟨rs, hR⟩
end
end Go.Proofs.YtibjmokhkjklkaaDoor
