/- A Diff that is an argument, opened: its numbers are of 64 bits. -/
import Derived.Test.YtoccmgoglkdcpaaDoorRowDf
import Derived.Test.YtoccmgoglkdcpaaDoorOpenB
import Derived.WalkArith
namespace Go.Proofs.YtoccmgoglkdcpaaDoor
open Go.ChangeShapes Go.WideShapes Go.ChangeAt Go.RowKit Go.Joins Go.Deep
theorem cellsDf : Tryd.prog.cellsOf 68 = 6 := by kernel_rfl
theorem lstDf {α : Type} {l : List α} (h : l.length = 6) : ∃ a0 a1 a2 a3 a4 a5, l = [a0, a1, a2, a3, a4, a5] := by
  match l, h with
  | [a0, a1, a2, a3, a4, a5], _ => exact ⟨a0, a1, a2, a3, a4, a5, rfl⟩
def i64B (n : Int) : Prop := -9223372036854775808 ≤ n ∧ n ≤ 9223372036854775807
theorem wf_bd {n : Int} (h : (Lit.int .i64 n).wf = true) : i64B n := by
  simp only [Lit.wf, Bool.and_eq_true, decide_eq_true_eq] at h
  have e1 : IntKind.i64.min = -9223372036854775808 := by decide
  have e2 : IntKind.i64.max = 9223372036854775807 := by decide
  rw [e1, e2] at h
  exact h
section
variable {H : Type} {enc : TypeId × Value → H} {W : World} {base : Nat} {spare : Nat → Bool} {held : Bool}
set_option maxRecDepth 100000 in
theorem openDfI {r : Reach} {b0 : Nat} {v : Value} {d : DataW H} {p : List MemPlace} (hv : Value.okWide Tryd.prog W r b0 68 v) (h : DataW.Trod enc Tryd.prog W base spare held 68 v d p) :
    ∃ q : Dff, v = .agg #[.int .i64 q.kind, .string q.partner, .string q.ref, .int .i64 q.no, .string q.item, .int .i64 q.qty] ∧ (q.partner.size ≤ 9223372036854775807 ∧ q.ref.size ≤ 9223372036854775807 ∧ q.item.size ≤ 9223372036854775807) ∧ i64B q.kind ∧ i64B q.no ∧ i64B q.qty := by
  obtain ⟨cs, rfl, hsz⟩ := okWide_struct Tryd.underlying68 hv
  obtain ⟨fuel, hf0⟩ := h
  obtain ⟨xs, n, rfl, hx, hl, hn, hf⟩ := DataW.trod_struct Tryd.underlying68 hf0
  rw [cellsDf] at hl
  obtain ⟨c0, c1, c2, c3, c4, c5, hcs⟩ := lstDf hl
  rw [hcs] at hf
  obtain ⟨x0, x1, x2, x3, x4, x5, rfl⟩ := lstDf (show xs.length = 6 from hn)
  obtain ⟨n0, k0, _, i0⟩ := DataW.trod_int Tryd.underlying2 (hf 0 _ rfl)
  obtain ⟨n1, k1, _, z1⟩ := DataW.trod_string Tryd.underlying9 (hf 1 _ rfl)
  obtain ⟨n2, k2, _, z2⟩ := DataW.trod_string Tryd.underlying9 (hf 2 _ rfl)
  obtain ⟨n3, k3, _, i3⟩ := DataW.trod_int Tryd.underlying2 (hf 3 _ rfl)
  obtain ⟨n4, k4, _, z4⟩ := DataW.trod_string Tryd.underlying9 (hf 4 _ rfl)
  obtain ⟨n5, k5, _, i5⟩ := DataW.trod_int Tryd.underlying2 (hf 5 _ rfl)
  simp [cellsI64, cellsString] at k0 k1 k2 k3 k4 k5
  unfold maxLen at z1 z2 z4
  refine ⟨⟨n0, n1, n2, n3, n4, n5⟩, ?_, ⟨z1, z2, z4⟩, wf_bd i0, wf_bd i3, wf_bd i5⟩
  obtain ⟨l⟩ := cs
  simp [Value.cells] at hcs
  rw [hcs, k0, k1, k2, k3, k4, k5]
end
end Go.Proofs.YtoccmgoglkdcpaaDoor
