/- An argument that is a list of segments, opened: it reads as a list of Tags and elements. -/
import Derived.Test.YthjddnhdfnhalaaDoorOpenSeg
import Derived.Test.YthjddnhdfnhalaaDoorDeepG
import Derived.Deep.SlicePairs
namespace Go.Proofs.YthjddnhdfnhalaaDoor
open Go.ChangeShapes Go.WideShapes Go.ChangeAt Go.RowKit Go.Joins Go.Deep
section
variable {H : Type} {enc : TypeId × Value → H} {W : World} {base : Nat} {spare : Nat → Bool} {held : Bool}
theorem openGs1 {fuel : Nat} {cs : List Value} {x : DataW H × List MemPlace} (hf : DataW.trod enc Tryd.prog W base spare held fuel 22 cs = some x) : ∃ v, ∃ gs : List Seg, cs = [v] ∧ RowG W v gs := by
  rcases open_slice_pairs Tryd.underlying22 Tryd.underlying40 cellsSegment rfl rfl cellsString cellsElements hf with ⟨rfl, _⟩ | ⟨a, len0, cap0, m, n, V0, V1, D0, D1, P0, P1, rfl, _, hl, hm, hmm, _, hx⟩
  · exact ⟨_, [], rfl, ⟨⟨_, _, rfl, fun h => absurd rfl h⟩, by simp, fun i s hi => by simp at hi⟩⟩
  · have hlm : len0 ≤ m := by rw [hmm]; split <;> omega
    obtain ⟨f, hfx⟩ := choose_lt (α := Seg) (p := fun i g => V0 i = .string g.1 ∧ g.1.size ≤ 9223372036854775807 ∧ RowE W (V1 i) g.2) (n := len0) (fun i hi => by
      obtain ⟨_, _, h2, h3⟩ := hx i (by omega)
      obtain ⟨s, e0, _, hs⟩ := DataW.trod_string Tryd.underlying9 h2
      obtain ⟨u, es, e1, hr⟩ := openE h3
      simp only [List.cons.injEq, and_true] at e0 e1
      unfold maxLen at hs
      exact ⟨(s, es), e0, hs, by rw [e1]; exact hr⟩)
    have htl : ((List.range len0).map f).length = len0 := by simp
    unfold maxLen at hm
    have hget : ∀ (i : Nat) (g : Seg), ((List.range len0).map f)[i]? = some g → i < len0 ∧ g = f i := fun i g hi => by
      have hil := (List.getElem?_eq_some_iff.1 hi).1
      rw [htl] at hil
      exact ⟨hil, by simpa [hil] using hi.symm⟩
    refine ⟨_, (List.range len0).map f, rfl, ⟨⟨some a, cap0, by rw [htl], fun hn => ?_⟩, by omega, fun i g hi => ?_⟩⟩
    · obtain ⟨b, off, spot⟩ := a
      have hpos : 0 < len0 := by
        rcases Nat.eq_zero_or_pos len0 with rfl | g
        · exact absurd (by simp) hn
        · exact g
      have h0 := (hx 0 (by omega)).1
      have hspot : spot = none := by simpa [Addr.add] using World.cell?_spot h0
      subst hspot
      refine ⟨b, off, rfl, fun i g hi => ?_⟩
      obtain ⟨hil, rfl⟩ := hget i g hi
      obtain ⟨h1, h2, _, _⟩ := hx i (by omega)
      rw [addr_plain] at h1 h2
      obtain ⟨e1, _, e3⟩ := hfx i hil
      rw [e1] at h1
      exact ⟨h1, V1 i, h2, e3⟩
    · obtain ⟨hil, rfl⟩ := hget i g hi
      exact (hfx i hil).2.1
set_option maxRecDepth 100000 in
theorem openGs {r : Reach} {b0 : Nat} {v : Value} {d : DataW H} {p : List MemPlace} (hv : Value.okWide Tryd.prog W r b0 22 v) (h : DataW.Trod enc Tryd.prog W base spare held 22 v d p) : ∃ gs : List Seg, RowG W v gs := by
  obtain ⟨a0, len0, cap0, rfl⟩ := okWide_slice Tryd.underlying22 hv
  obtain ⟨fuel, hf⟩ := h
  obtain ⟨v, gs, e, hr⟩ := openGs1 hf
  simp [Value.cells] at e
  subst e
  exact ⟨gs, hr⟩
end
end Go.Proofs.YthjddnhdfnhalaaDoor
