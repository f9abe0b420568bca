/- Two PostOuts that read as the same are told to be equal. -/
import Derived.Test.YtnfbdaphkbplpaaEqOl
import Derived.Test.YtnfbdaphkbplpaaLnU
namespace Go.Proofs.Ytnfbdaphkbplpaa
open Go.ChangeShapes Go.WideShapes Go.ChangeAt Go.RowKit
set_option maxHeartbeats 2000000 in
theorem eqPo_any (p : PO) (w : World) : Calls Try.prog 25 #[.agg #[.string p.line.partner, .string p.line.ref, .int .i64 p.line.no, .string p.line.item, .int .i64 p.line.ordered, .int .i64 p.line.sent, .int .i64 p.line.got, .int .i64 p.line.cut, .int .i64 p.fit, .int .i64 p.over, .int .i64 p.code], .agg #[.string p.line.partner, .string p.line.ref, .int .i64 p.line.no, .string p.line.item, .int .i64 p.line.ordered, .int .i64 p.line.sent, .int .i64 p.line.got, .int .i64 p.line.cut, .int .i64 p.fit, .int .i64 p.over, .int .i64 p.code]] w fun e w' => e = .returned (.bool true) ∧ Below w.heap.size w w' := by
  obtain ⟨l, fit, over, code⟩ := p
  dsimp only
  obtain ⟨W1, hW1⟩ : ∃ W1, (w.alloc (.cells #[.string l.partner, .string l.ref, .int .i64 l.no, .string l.item, .int .i64 l.ordered, .int .i64 l.sent, .int .i64 l.got, .int .i64 l.cut, .int .i64 fit, .int .i64 over, .int .i64 code] 38)).alloc (.cells #[.string l.partner, .string l.ref, .int .i64 l.no, .string l.item, .int .i64 l.ordered, .int .i64 l.sent, .int .i64 l.got, .int .i64 l.cut, .int .i64 fit, .int .i64 over, .int .i64 code] 38) = W1 := ⟨_, rfl⟩
  have hb1 : Below w.heap.size w W1 := by rw [← hW1]; exact ((Below.refl _ _).alloc (Nat.le_refl _) _).alloc (by simp) _
  obtain ⟨i0, i1⟩ := fl_two w (.cells #[.string l.partner, .string l.ref, .int .i64 l.no, .string l.item, .int .i64 l.ordered, .int .i64 l.sent, .int .i64 l.got, .int .i64 l.cut, .int .i64 fit, .int .i64 over, .int .i64 code] 38) (.cells #[.string l.partner, .string l.ref, .int .i64 l.no, .string l.item, .int .i64 l.ordered, .int .i64 l.sent, .int .i64 l.got, .int .i64 l.cut, .int .i64 fit, .int .i64 over, .int .i64 code] 38)
  rw [hW1] at i0 i1
  have HD : Hid (∀ W, Below W1.heap.size W1 W → W.heap[w.heap.size]? = some (.cells #[.string l.partner, .string l.ref, .int .i64 l.no, .string l.item, .int .i64 l.ordered, .int .i64 l.sent, .int .i64 l.got, .int .i64 l.cut, .int .i64 fit, .int .i64 over, .int .i64 code] 38) ∧ W.heap[w.heap.size + 1]? = some (.cells #[.string l.partner, .string l.ref, .int .i64 l.no, .string l.item, .int .i64 l.ordered, .int .i64 l.sent, .int .i64 l.got, .int .i64 l.cut, .int .i64 fit, .int .i64 over, .int .i64 code] 38)) := fun W hW => ⟨(hW.block _ (Array.getElem?_eq_some_iff.1 i0).1).trans i0, (hW.block _ (Array.getElem?_eq_some_iff.1 i1).1).trans i1⟩
  have HB : Hid (Below w.heap.size w W1) := hb1
  go_enter Try.func25, Try.ntmps25
  go_upto_region 1 with fail
  try rw [hW1]
  clear hW1 hb1 i0 i1
  obtain ⟨h0, h1⟩ := HD.out W1 (Below.refl _ _)
  obtain ⟨a0, a1, a2, a3, a4, a5, a6, a7, a8, a9, a10⟩ := box11 h0
  obtain ⟨b0, b1, b2, b3, b4, b5, b6, b7, b8, b9, b10⟩ := box11 h1
  clear h0 h1
  go_wp2_with fail
  refine (eqOl_any l _).mono ?_
  rintro e w2 ⟨rfl, hb2⟩
  obtain ⟨h0, h1⟩ := HD.out w2 hb2
  clear a0 a1 a2 a3 a4 a5 a6 a7 a8 a9 a10 b0 b1 b2 b3 b4 b5 b6 b7 b8 b9 b10
  obtain ⟨a0, a1, a2, a3, a4, a5, a6, a7, a8, a9, a10⟩ := box11 h0
  obtain ⟨b0, b1, b2, b3, b4, b5, b6, b7, b8, b9, b10⟩ := box11 h1
  have H2 : Hid (Below w.heap.size w w2) := HB.out.trans (hb2.mono HB.out.size)
  clear h0 h1 hb2
  go_wp2
  go_ret
  exact ⟨rfl, H2.out⟩
end Go.Proofs.Ytnfbdaphkbplpaa
