/- Contracts of the model's LineRight, LineOpen, LineTransit. -/
import Derived.Test.YtnaidbpkllmeoaaLnS0
import Derived.Shelf.SlSortCmp.QuietGrown
namespace Go.Proofs.Ytnaidbpkllmeoaa
open Go.ChangeShapes Go.WideShapes Go.ChangeAt Go.RowKit
open Go.Sort
set_option maxHeartbeats 2000000 in
theorem lineOpen_spec (l : OLn) (w : World) : Calls Try.prog 27 #[.agg #[.string l.partner, .string l.ref, .int .i64 l.no, .string l.item, .int .i64 l.ordered, .int .i64 l.sent, .int .i64 l.got, .int .i64 l.cut]] w fun e w' => e = .returned (.int .i64 (opnT l)) ∧ Below w.heap.size w w' := by
  obtain ⟨z, hz⟩ : ∃ z, z = opnT l := ⟨_, rfl⟩
  obtain ⟨b, hb⟩ : ∃ b, b = lnB l := ⟨_, rfl⟩
  have Q1 := lineRight_spec l
  rw [← hb] at Q1
  rw [← hz]
  obtain ⟨W0, hW0⟩ : ∃ W0, w.alloc (.cells #[.string l.partner, .string l.ref, .int .i64 l.no, .string l.item, .int .i64 l.ordered, .int .i64 l.sent, .int .i64 l.got, .int .i64 l.cut] 26) = W0 := ⟨_, rfl⟩
  have hb0 : Below w.heap.size w W0 := by rw [← hW0]; exact (Below.refl _ _).alloc (Nat.le_refl _) _
  have hbx : W0.heap[w.heap.size]? = some (.cells #[.string l.partner, .string l.ref, .int .i64 l.no, .string l.item, .int .i64 l.ordered, .int .i64 l.sent, .int .i64 l.got, .int .i64 l.cut] 26) := by rw [← hW0]; exact World.alloc_heap_new _ _
  go_enter Try.func27, Try.ntmps27
  go_upto_region 1 with fail
  try rw [hW0]
  clear hW0
  have HC : Hid (∀ W, Below W0.heap.size W0 W → W.cell? ⟨w.heap.size, 0, none⟩ = some (.string l.partner) ∧ W.cell? ⟨w.heap.size, 1, none⟩ = some (.string l.ref) ∧ W.cell? ⟨w.heap.size, 2, none⟩ = some (.int .i64 l.no) ∧ W.cell? ⟨w.heap.size, 3, none⟩ = some (.string l.item) ∧ W.cell? ⟨w.heap.size, 4, none⟩ = some (.int .i64 l.ordered) ∧ W.cell? ⟨w.heap.size, 5, none⟩ = some (.int .i64 l.sent) ∧ W.cell? ⟨w.heap.size, 6, none⟩ = some (.int .i64 l.got) ∧ W.cell? ⟨w.heap.size, 7, none⟩ = some (.int .i64 l.cut)) := fun W hW => box8 ((hW.block _ (Array.getElem?_eq_some_iff.1 hbx).1).trans hbx)
  have HB : Hid (Below w.heap.size w W0) := hb0
  clear hbx hb0
  obtain ⟨c0, c1, c2, c3, c4, c5, c6, c7⟩ := HC.out W0 (Below.refl _ _)
  go_wp2_with fail
  refine (Q1 _).mono ?_
  rintro e w1 ⟨rfl, hb1⟩
  obtain ⟨d0, d1, d2, d3, d4, d5, d6, d7⟩ := HC.out w1 hb1
  have H1 : Hid (Below w.heap.size w w1) := HB.out.trans (hb1.mono HB.out.size)
  clear hb1 c0 c1 c2 c3 c4 c5 c6 c7
  cases b
  · have HZ : Hid (z = 0) := by show z = 0; rw [hz, opnT_no (lnB_iff'.1 hb.symm)]
    clear hz hb
    go_wp2
    go_ret
    exact ⟨by rw [HZ.out]; rfl, H1.out⟩
  · have hok := lnB_iff.1 hb.symm
    have HZ : Hid (z = l.ordered - l.sent - l.cut) := by show z = _; rw [hz, opnT_yes hok]
    have k0 := hok.o1
    have k1 := hok.o2
    have k2 := hok.s0
    have k3 := hok.g0
    have k4 := hok.c0
    have k5 := hok.gs
    have k6 := hok.so
    have k7 := hok.co
    clear hz hb hok
    go_wp2
    go_ret
    exact ⟨by rw [HZ.out]; rfl, H1.out⟩
set_option maxHeartbeats 2000000 in
theorem lineTransit_spec (l : OLn) (w : World) : Calls Try.prog 28 #[.agg #[.string l.partner, .string l.ref, .int .i64 l.no, .string l.item, .int .i64 l.ordered, .int .i64 l.sent, .int .i64 l.got, .int .i64 l.cut]] w fun e w' => e = .returned (.int .i64 (trnT l)) ∧ Below w.heap.size w w' := by
  obtain ⟨z, hz⟩ : ∃ z, z = trnT l := ⟨_, rfl⟩
  obtain ⟨b, hb⟩ : ∃ b, b = lnB l := ⟨_, rfl⟩
  have Q1 := lineRight_spec l
  rw [← hb] at Q1
  rw [← hz]
  obtain ⟨W0, hW0⟩ : ∃ W0, w.alloc (.cells #[.string l.partner, .string l.ref, .int .i64 l.no, .string l.item, .int .i64 l.ordered, .int .i64 l.sent, .int .i64 l.got, .int .i64 l.cut] 26) = W0 := ⟨_, rfl⟩
  have hb0 : Below w.heap.size w W0 := by rw [← hW0]; exact (Below.refl _ _).alloc (Nat.le_refl _) _
  have hbx : W0.heap[w.heap.size]? = some (.cells #[.string l.partner, .string l.ref, .int .i64 l.no, .string l.item, .int .i64 l.ordered, .int .i64 l.sent, .int .i64 l.got, .int .i64 l.cut] 26) := by rw [← hW0]; exact World.alloc_heap_new _ _
  go_enter Try.func28, Try.ntmps28
  go_upto_region 1 with fail
  try rw [hW0]
  clear hW0
  have HC : Hid (∀ W, Below W0.heap.size W0 W → W.cell? ⟨w.heap.size, 0, none⟩ = some (.string l.partner) ∧ W.cell? ⟨w.heap.size, 1, none⟩ = some (.string l.ref) ∧ W.cell? ⟨w.heap.size, 2, none⟩ = some (.int .i64 l.no) ∧ W.cell? ⟨w.heap.size, 3, none⟩ = some (.string l.item) ∧ W.cell? ⟨w.heap.size, 4, none⟩ = some (.int .i64 l.ordered) ∧ W.cell? ⟨w.heap.size, 5, none⟩ = some (.int .i64 l.sent) ∧ W.cell? ⟨w.heap.size, 6, none⟩ = some (.int .i64 l.got) ∧ W.cell? ⟨w.heap.size, 7, none⟩ = some (.int .i64 l.cut)) := fun W hW => box8 ((hW.block _ (Array.getElem?_eq_some_iff.1 hbx).1).trans hbx)
  have HB : Hid (Below w.heap.size w W0) := hb0
  clear hbx hb0
  obtain ⟨c0, c1, c2, c3, c4, c5, c6, c7⟩ := HC.out W0 (Below.refl _ _)
  go_wp2_with fail
  refine (Q1 _).mono ?_
  rintro e w1 ⟨rfl, hb1⟩
  obtain ⟨d0, d1, d2, d3, d4, d5, d6, d7⟩ := HC.out w1 hb1
  have H1 : Hid (Below w.heap.size w w1) := HB.out.trans (hb1.mono HB.out.size)
  clear hb1 c0 c1 c2 c3 c4 c5 c6 c7
  cases b
  · have HZ : Hid (z = 0) := by show z = 0; rw [hz, trnT_no (lnB_iff'.1 hb.symm)]
    clear hz hb
    go_wp2
    go_ret
    exact ⟨by rw [HZ.out]; rfl, H1.out⟩
  · have hok := lnB_iff.1 hb.symm
    have HZ : Hid (z = l.sent - l.got) := by show z = _; rw [hz, trnT_yes hok]
    have k0 := hok.o1
    have k1 := hok.o2
    have k2 := hok.s0
    have k3 := hok.g0
    have k4 := hok.c0
    have k5 := hok.gs
    have k6 := hok.so
    have k7 := hok.co
    clear hz hb hok
    go_wp2
    go_ret
    exact ⟨by rw [HZ.out]; rfl, H1.out⟩
end Go.Proofs.Ytnaidbpkllmeoaa
