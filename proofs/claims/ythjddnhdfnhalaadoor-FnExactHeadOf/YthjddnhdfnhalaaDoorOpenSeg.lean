/- An argument that is a segment, a list of elements, a list of texts, opened: it reads as lists of texts. -/
import Derived.Test.YthjddnhdfnhalaaDoorDeepRow
import Derived.Deep.Slices
import Derived.SliceStrings
import Derived.Lib.SmallJoins
import Derived.Test.YthjddnhdfnhalaaDoorOpenS
namespace Go.Proofs.YthjddnhdfnhalaaDoor
open Go.ChangeShapes Go.WideShapes Go.ChangeAt Go.RowKit Go.Joins Go.Deep
theorem cellsElement : Tryd.prog.cellsOf 83 = 1 := by kernel_rfl
theorem cellsSegment : Tryd.prog.cellsOf 40 = 2 := by kernel_rfl
theorem cellsElements : Tryd.prog.cellsOf 38 = 1 := by kernel_rfl
section
variable {H : Type} {enc : TypeId × Value → H} {W : World} {base : Nat} {spare : Nat → Bool} {held : Bool}
theorem openE {fuel : Nat} {cs : List Value} {x : DataW H × List MemPlace} (h : DataW.trod enc Tryd.prog W base spare held fuel 38 cs = some x) : ∃ v es, cs = [v] ∧ RowE W v es := by
  rcases open_slice1 Tryd.underlying38 cellsElement h with ⟨rfl, _⟩ | ⟨a, len, cap, m, n, V, D, Pl, rfl, _, hl, hm, hmm, _, hx⟩
  · exact ⟨_, [], rfl, ⟨⟨_, _, rfl, fun h => absurd rfl h⟩, by simp⟩⟩
  · have hlm : len ≤ m := by rw [hmm]; split <;> omega
    obtain ⟨f, hf⟩ := choose_lt (α := List ByteArray) (p := fun i e => RowS W (V i) e) (n := len) (fun i hi => by
      obtain ⟨h1, h2⟩ := hx i (by omega)
      obtain ⟨y0, n', _, _, h3⟩ := trod_struct1 Tryd.underlying83 h2
      have h4 : DataW.trod enc Tryd.prog W base spare held n' 52 [V i] = some y0 := by simpa [cellsStrings] using h3
      obtain ⟨v, ss, e, hr⟩ := openS h4
      simp only [List.cons.injEq, and_true] at e
      exact ⟨ss, by rw [e]; exact hr⟩)
    have htl : ((List.range len).map f).length = len := by simp
    unfold maxLen at hm
    refine ⟨_, (List.range len).map f, rfl, ⟨⟨some a, cap, by rw [htl], fun hn => ?_⟩, by omega⟩⟩
    obtain ⟨b, off, spot⟩ := a
    have hpos : 0 < len := by
      rcases Nat.eq_zero_or_pos len with rfl | g
      · exact absurd (by simp) hn
      · exact g
    have h0 := (hx 0 (by omega)).1
    have hspot : spot = none := by simpa [Addr.add] using World.cell?_spot h0
    subst hspot
    refine ⟨b, off, rfl, fun i e hi => ?_⟩
    have hil := (List.getElem?_eq_some_iff.1 hi).1
    rw [htl] at hil
    have h1 := (hx i (by omega)).1
    rw [addr_plain] at h1
    refine ⟨V i, h1, ?_⟩
    have : e = f i := by simpa [hil] using hi.symm
    rw [this]
    exact hf i hil
set_option maxRecDepth 100000 in
theorem openG {r : Reach} {b0 : Nat} {v : Value} {d : DataW H} {p : List MemPlace} (hv : Value.okWide Tryd.prog W r b0 40 v) (h : DataW.Trod enc Tryd.prog W base spare held 40 v d p) :
    ∃ (tag : ByteArray) (u : Value) (es : List (List ByteArray)), v = .agg #[.string tag, u] ∧ tag.size ≤ 9223372036854775807 ∧ RowE W u es := by
  obtain ⟨v0, v1, y0, y1, n, rfl, _, _, h0, h1⟩ := open_agg2 Tryd.underlying40 (by kernel_rfl) cellsSegment hv h
  obtain ⟨s, e0, _, hs⟩ := DataW.trod_string Tryd.underlying9 h0
  obtain ⟨u, es, e1, hr⟩ := openE h1
  simp only [List.cons.injEq, and_true] at e0 e1
  subst e0 e1
  unfold maxLen at hs
  exact ⟨s, _, es, rfl, hs, hr⟩
end
end Go.Proofs.YthjddnhdfnhalaaDoor
