/- An argument that is a partner, opened. -/
import Derived.Test.YtnnfkifjkmodpaaRowPt
import Derived.Test.YtnnfkifjkmodpaaOpenSn
namespace Go.Proofs.Ytnnfkifjkmodpaa
open Go.ChangeShapes Go.WideShapes Go.ChangeAt Go.RowKit Go.Joins Go.Deep
theorem cellsPt : Try.prog.cellsOf 24 = 4 := by kernel_rfl
theorem lstPt {α : Type} {l : List α} (h : l.length = 4) : ∃ a0 a1 a2 a3, l = [a0, a1, a2, a3] := by
  match l, h with
  | [a0, a1, a2, a3], _ => exact ⟨a0, a1, a2, a3, rfl⟩
section
variable {H : Type} {enc : TypeId × Value → H} {W : World} {base : Nat} {spare : Nat → Bool} {held : Bool}
theorem openPt {fuel : Nat} {cs : List Value} {x : DataW H × List MemPlace} (h : DataW.trod enc Try.prog W base spare held fuel 24 cs = some x) :
    ∃ (r : Ptn) (u : Value), cs = [.string r.name, .int .i64 r.low, .int .i64 r.next, u] ∧ RPt W u r := by
  obtain ⟨xs, n, rfl, hx, hl, hn, hf⟩ := DataW.trod_struct Try.underlying24 h
  rw [cellsPt] at hl
  obtain ⟨c0, c1, c2, c3, rfl⟩ := lstPt hl
  obtain ⟨x0, x1, x2, x3, rfl⟩ := lstPt (show xs.length = 4 from hn)
  obtain ⟨n0, k0, _, z0⟩ := DataW.trod_string Try.underlying9 (hf 0 _ rfl)
  obtain ⟨n1, k1, _, _⟩ := DataW.trod_int Try.underlying2 (hf 1 _ rfl)
  obtain ⟨n2, k2, _, _⟩ := DataW.trod_int Try.underlying2 (hf 2 _ rfl)
  obtain ⟨u, ls, k3, r3⟩ := openSns (hf 3 _ rfl)
  simp [cellsI64, cellsString, cellssSn] at k0 k1 k2 k3
  unfold maxLen at z0
  exact ⟨⟨n0, n1, n2, ls⟩, u, by rw [k0, k1, k2, k3], ⟨r3, z0⟩⟩
set_option maxRecDepth 100000 in
theorem openPta {r : Reach} {b0 : Nat} {v : Value} {d : DataW H} {p : List MemPlace} (hv : Value.okWide Try.prog W r b0 24 v) (h : DataW.Trod enc Try.prog W base spare held 24 v d p) :
    ∃ (q : Ptn) (u : Value), v = .agg #[.string q.name, .int .i64 q.low, .int .i64 q.next, u] ∧ RPt W u q := by
  obtain ⟨cs, rfl, hsz⟩ := okWide_struct Try.underlying24 hv
  obtain ⟨fuel, hf0⟩ := h
  obtain ⟨q, u, hq, hR⟩ := openPt hf0
  refine ⟨q, u, ?_, hR⟩
  obtain ⟨l⟩ := cs
  simp [Value.cells] at hq
  rw [hq]
end
end Go.Proofs.Ytnnfkifjkmodpaa
