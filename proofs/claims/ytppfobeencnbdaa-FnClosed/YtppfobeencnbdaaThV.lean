/- Contracts of the program's ThreeOf and ThreeText. -/
import Derived.Test.YtppfobeencnbdaaThO
namespace Go.Proofs.Ytppfobeencnbdaa
open Go.ChangeShapes Go.WideShapes Go.ChangeAt Go.RowKit
theorem fldTh1 (f : Value) (a : Int) (b : ByteArray) (w : World) : (Instr.field 49 (.agg #[f, .int .i64 a, .string b]) 1).run Try.prog w = .ok (.int .i64 a) w := by kernel_rfl
theorem fldTh2 (f : Value) (a : Int) (b : ByteArray) (w : World) : (Instr.field 49 (.agg #[f, .int .i64 a, .string b]) 2).run Try.prog w = .ok (.string b) w := by kernel_rfl
set_option maxHeartbeats 4000000 in
theorem threeOf_impl (l : OLn) (w : World) : Calls Try.prog 9 #[.agg #[.string l.partner, .string l.ref, .int .i64 l.no, .string l.item, .int .i64 l.ordered, .int .i64 l.sent, .int .i64 l.got, .int .i64 l.cut]] w fun e w' => e = .returned (.int .i64 (stT l)) ∧ Below w.heap.size w w' := by
  obtain ⟨W0, hW0⟩ : ∃ W0, w.alloc (.cells #[.string l.partner, .string l.ref, .int .i64 l.no, .string l.item, .int .i64 l.ordered, .int .i64 l.sent, .int .i64 l.got, .int .i64 l.cut] 31) = W0 := ⟨_, rfl⟩
  have hb0 : Below w.heap.size w W0 := by rw [← hW0]; exact (Below.refl _ _).alloc (Nat.le_refl _) _
  have hbx : W0.heap[w.heap.size]? = some (.cells #[.string l.partner, .string l.ref, .int .i64 l.no, .string l.item, .int .i64 l.ordered, .int .i64 l.sent, .int .i64 l.got, .int .i64 l.cut] 31) := by rw [← hW0]; exact World.alloc_heap_new _ _
  have HC : Hid (∀ W, Below W0.heap.size W0 W → W.cell? ⟨w.heap.size, 0, none⟩ = some (.string l.partner) ∧ W.cell? ⟨w.heap.size, 1, none⟩ = some (.string l.ref) ∧ W.cell? ⟨w.heap.size, 2, none⟩ = some (.int .i64 l.no) ∧ W.cell? ⟨w.heap.size, 3, none⟩ = some (.string l.item) ∧ W.cell? ⟨w.heap.size, 4, none⟩ = some (.int .i64 l.ordered) ∧ W.cell? ⟨w.heap.size, 5, none⟩ = some (.int .i64 l.sent) ∧ W.cell? ⟨w.heap.size, 6, none⟩ = some (.int .i64 l.got) ∧ W.cell? ⟨w.heap.size, 7, none⟩ = some (.int .i64 l.cut)) := fun W hW => box8 ((hW.block _ (Array.getElem?_eq_some_iff.1 hbx).1).trans hbx)
  have HB : Hid (Below w.heap.size w W0) := hb0
  clear hbx hb0
  obtain ⟨c0, c1, c2, c3, c4, c5, c6, c7⟩ := HC.out W0 (Below.refl _ _)
  have Q := standOf_any l
  go_enter Try.func9, Try.ntmps9
  go_upto_region 1 with fail
  try rw [hW0]
  clear hW0
  go_wp2_with fail
  refine (Q _).mono ?_
  rintro e w1 ⟨⟨f, rfl⟩, hb1⟩
  have H1 : Hid (Below w.heap.size w w1) := HB.out.trans (hb1.mono HB.out.size)
  clear hb1
  have x1 := fldTh1 f (stT l) (wdT (stT l))
  have x2 := fldTh2 f (stT l) (wdT (stT l))
  go_wp2
  go_ret
  exact ⟨rfl, H1.out⟩
end Go.Proofs.Ytppfobeencnbdaa
