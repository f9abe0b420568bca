/- Texts of ours put together: Open1Ev. -/
import Derived.Test.YtibjmokhkjklkaaDoorG42
import Derived.Test.YtibjmokhkjklkaaDoorG01
namespace Go.Proofs.YtibjmokhkjklkaaDoor
open Go.ChangeShapes Go.WideShapes Go.ChangeAt Go.RowKit Go.Joins Go.Deep
theorem cellsEv : Tryd.prog.cellsOf 37 = 4 := by kernel_rfl
theorem lstEv {α : Type} {l : List α} (h : l.length = 4) : ∃ a0 a1 a2 a3, l = [a0, a1, a2, a3] := by
  match l, h with
  | [a0, a1, a2, a3], _ => exact ⟨a0, a1, a2, a3, rfl⟩
variable {H : Type} {enc : TypeId × Value → H} {W : World} {base : Nat} {spare : Nat → Bool} {held : Bool}
theorem openEv {fuel : Nat} {cs : List Value} {x : DataW H × List MemPlace} (h : DataW.trod enc Tryd.prog W base spare held fuel 37 cs = some x) :
    ∃ r : EvR, cs = [.int .i64 r.kind, .string r.a, .string r.b, .string r.c] ∧ r.a.size ≤ 9223372036854775807 ∧ r.b.size ≤ 9223372036854775807 ∧ r.c.size ≤ 9223372036854775807 := by
  obtain ⟨xs, n, rfl, hx, hl, hn, hf⟩ := DataW.trod_struct Tryd.underlying37 h
  rw [cellsEv] at hl
  obtain ⟨c0, c1, c2, c3, rfl⟩ := lstEv hl
  obtain ⟨x0, x1, x2, x3, rfl⟩ := lstEv (show xs.length = 4 from hn)
  obtain ⟨n0, k0, _, _⟩ := DataW.trod_int Tryd.underlying2 (hf 0 _ rfl)
  obtain ⟨n1, k1, _, z1⟩ := DataW.trod_string Tryd.underlying9 (hf 1 _ rfl)
  obtain ⟨n2, k2, _, z2⟩ := DataW.trod_string Tryd.underlying9 (hf 2 _ rfl)
  obtain ⟨n3, k3, _, z3⟩ := DataW.trod_string Tryd.underlying9 (hf 3 _ rfl)
  simp [cellsI64, cellsString] at k0 k1 k2 k3
  unfold maxLen at z1 z2 z3
  exact ⟨⟨n0, n1, n2, n3⟩, by rw [k0, k1, k2, k3], z1, z2, z3⟩
set_option maxRecDepth 100000 in
theorem openEva {r : Reach} {b0 : Nat} {v : Value} {d : DataW H} {p : List MemPlace} (hv : Value.okWide Tryd.prog W r b0 37 v) (h : DataW.Trod enc Tryd.prog W base spare held 37 v d p) :
    ∃ q : EvR, v = .agg #[.int .i64 q.kind, .string q.a, .string q.b, .string q.c] ∧ q.a.size ≤ 9223372036854775807 ∧ q.b.size ≤ 9223372036854775807 ∧ q.c.size ≤ 9223372036854775807 := by
  obtain ⟨cs, rfl, hsz⟩ := okWide_struct Tryd.underlying37 hv
  obtain ⟨fuel, hf0⟩ := h
  obtain ⟨q, hq, hz⟩ := openEv hf0
  refine ⟨q, ?_, hz⟩
  obtain ⟨l⟩ := cs
  simp [Value.cells] at hq
  rw [hq]
end Go.Proofs.YtibjmokhkjklkaaDoor
