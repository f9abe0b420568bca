/- Texts of ours put together: OpenBk. -/
import Derived.Test.YtjmkdpnoihpfoaaDoorG02
import Derived.Test.YtjmkdpnoihpfoaaDoorG13
import Derived.Test.YtjmkdpnoihpfoaaDoorG14
namespace Go.Proofs.YtjmkdpnoihpfoaaDoor
open Go.ChangeShapes Go.WideShapes Go.ChangeAt Go.RowKit Go.Joins Go.Deep
theorem cellsBk : Tryd.prog.cellsOf 25 = 2 := by kernel_rfl
theorem lstBk {α : Type} {l : List α} (h : l.length = 2) : ∃ a0 a1, l = [a0, a1] := by
  match l, h with
  | [a0, a1], _ => exact ⟨a0, a1, rfl⟩
section
variable {H : Type} {enc : TypeId × Value → H} {W : World} {base : Nat} {spare : Nat → Bool} {held : Bool}
theorem openBk {fuel : Nat} {cs : List Value} {x : DataW H × List MemPlace} (h : DataW.trod enc Tryd.prog W base spare held fuel 25 cs = some x) :
    ∃ (r : Bk) (us ul : Value), cs = [us, ul] ∧ RBk W us ul r := by
  obtain ⟨xs, n, rfl, hx, hl, hn, hf⟩ := DataW.trod_struct Tryd.underlying25 h
  rw [cellsBk] at hl
  obtain ⟨c0, c1, rfl⟩ := lstBk hl
  obtain ⟨x0, x1, rfl⟩ := lstBk (show xs.length = 2 from hn)
  obtain ⟨u, ls, k0, r0⟩ := openSts (hf 0 _ rfl)
  obtain ⟨u1, ls1, k1, r1⟩ := openOls (hf 1 _ rfl)
  simp [cellssSt, cellssOl] at k0 k1
  exact ⟨⟨ls, ls1⟩, u, u1, by rw [k0, k1], ⟨r0, r1⟩⟩
set_option maxRecDepth 100000 in
theorem openBka {r : Reach} {b0 : Nat} {v : Value} {d : DataW H} {p : List MemPlace} (hv : Value.okWide Tryd.prog W r b0 25 v) (h : DataW.Trod enc Tryd.prog W base spare held 25 v d p) :
    ∃ (q : Bk) (us ul : Value), v = .agg #[us, ul] ∧ RBk W us ul q := by
  obtain ⟨cs, rfl, hsz⟩ := okWide_struct Tryd.underlying25 hv
  obtain ⟨fuel, hf0⟩ := h
  obtain ⟨q, u, u', hq, hR⟩ := openBk hf0
  refine ⟨q, u, u', ?_, hR⟩
  obtain ⟨l⟩ := cs
  simp [Value.cells] at hq
  rw [hq]
end
end Go.Proofs.YtjmkdpnoihpfoaaDoor
