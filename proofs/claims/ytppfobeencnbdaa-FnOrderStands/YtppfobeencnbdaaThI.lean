/- Contracts of the program's rules of where a line stands, of standOf, ThreeOf, ThreeText. -/
import Derived.Test.YtppfobeencnbdaaLnI
import Derived.Test.YtppfobeencnbdaaLnOa
import Derived.Test.YtppfobeencnbdaaThP
import Derived.Laws.EntriesVeiled
import Derived.Shelf.RegionOpen
import Derived.Deep.QuietTactic
import Derived.BigQuiet
import Derived.BigRegion
import Derived.Deep.RegionHeld3
namespace Go.Proofs.Ytppfobeencnbdaa
open Go.ChangeShapes Go.WideShapes Go.ChangeAt Go.RowKit
theorem undrewTh {a b : World} (h : Below a.drew.heap.size a.drew b) : Below a.heap.size a b := (Below.refl _ _).drew.trans h
set_option maxHeartbeats 4000000 in
theorem toCome_any (l : OLn) (hok : LnOk l) (w : World) : Calls Try.prog 55 #[.agg #[.string l.partner, .string l.ref, .int .i64 l.no, .string l.item, .int .i64 l.ordered, .int .i64 l.sent, .int .i64 l.got, .int .i64 l.cut]] w fun e w' => e = .returned (.int .i64 (l.ordered - l.sent - l.cut + (l.sent - l.got))) ∧ Below w.heap.size w w' := by
  obtain ⟨W0, hW0⟩ : ∃ W0, w.alloc (.cells #[.string l.partner, .string l.ref, .int .i64 l.no, .string l.item, .int .i64 l.ordered, .int .i64 l.sent, .int .i64 l.got, .int .i64 l.cut] 31) = W0 := ⟨_, rfl⟩
  have hb0 : Below w.heap.size w W0 := by rw [← hW0]; exact (Below.refl _ _).alloc (Nat.le_refl _) _
  have hbx : W0.heap[w.heap.size]? = some (.cells #[.string l.partner, .string l.ref, .int .i64 l.no, .string l.item, .int .i64 l.ordered, .int .i64 l.sent, .int .i64 l.got, .int .i64 l.cut] 31) := by rw [← hW0]; exact World.alloc_heap_new _ _
  have HC : Hid (∀ W, Below W0.heap.size W0 W → W.cell? ⟨w.heap.size, 0, none⟩ = some (.string l.partner) ∧ W.cell? ⟨w.heap.size, 1, none⟩ = some (.string l.ref) ∧ W.cell? ⟨w.heap.size, 2, none⟩ = some (.int .i64 l.no) ∧ W.cell? ⟨w.heap.size, 3, none⟩ = some (.string l.item) ∧ W.cell? ⟨w.heap.size, 4, none⟩ = some (.int .i64 l.ordered) ∧ W.cell? ⟨w.heap.size, 5, none⟩ = some (.int .i64 l.sent) ∧ W.cell? ⟨w.heap.size, 6, none⟩ = some (.int .i64 l.got) ∧ W.cell? ⟨w.heap.size, 7, none⟩ = some (.int .i64 l.cut)) := fun W hW => box8 ((hW.block _ (Array.getElem?_eq_some_iff.1 hbx).1).trans hbx)
  have HB : Hid (Below w.heap.size w W0) := hb0
  clear hbx hb0
  obtain ⟨c0, c1, c2, c3, c4, c5, c6, c7⟩ := HC.out W0 (Below.refl _ _)
  obtain ⟨k0, k1, k2, k3, k4, k5, k6, k7⟩ : 1 ≤ l.ordered ∧ l.ordered ≤ 1000000 ∧ 0 ≤ l.sent ∧ 0 ≤ l.got ∧ 0 ≤ l.cut ∧ l.got ≤ l.sent ∧ l.sent ≤ l.ordered ∧ l.cut ≤ l.ordered - l.sent := ⟨hok.o1, hok.o2, hok.s0, hok.g0, hok.c0, hok.gs, hok.so, hok.co⟩
  have Q1 := open_any l hok
  have Q2 := transit_any l hok
  clear hok
  go_enter Try.func55, Try.ntmps55
  go_upto_region 1 with fail
  try rw [hW0]
  clear hW0
  go_region_held3 (fun W => W.cell? ⟨w.heap.size, 0, none⟩ = some (.string l.partner) ∧ W.cell? ⟨w.heap.size, 1, none⟩ = some (.string l.ref) ∧ W.cell? ⟨w.heap.size, 2, none⟩ = some (.int .i64 l.no) ∧ W.cell? ⟨w.heap.size, 3, none⟩ = some (.string l.item) ∧ W.cell? ⟨w.heap.size, 4, none⟩ = some (.int .i64 l.ordered) ∧ W.cell? ⟨w.heap.size, 5, none⟩ = some (.int .i64 l.sent) ∧ W.cell? ⟨w.heap.size, 6, none⟩ = some (.int .i64 l.got) ∧ W.cell? ⟨w.heap.size, 7, none⟩ = some (.int .i64 l.cut)) (go_keep) (first | (go_at_call 56; refine (Q1 _).mono ?_; rintro e wa ⟨rfl, hba⟩; have ba : Below W0.heap.size W0 wa := (by first | exact hba | exact undrewTh hba); obtain ⟨a0, a1, a2, a3, a4, a5, a6, a7⟩ := HC.out wa ba; clear hba; try dsimp only) | (go_at_call 57; refine (Q2 _).mono ?_; rintro e wb ⟨rfl, hbb⟩; have bb : Below W0.heap.size W0 wb := ba.trans ((by first | exact hbb | exact undrewTh hbb : Below wa.heap.size wa wb).mono ba.size); obtain ⟨b0, b1, b2, b3, b4, b5, b6, b7⟩ := HC.out wb bb; clear hbb; try dsimp only))
  rename_i hHeld
  clear hHeld
  have H2 : Hid (Below w.heap.size w wb) := HB.out.trans (bb.mono HB.out.size)
  go_wp2
  go_ret
  have e : IntKind.i64.wrap (l.ordered - l.sent - l.cut + (l.sent - l.got)) = l.ordered - l.sent - l.cut + (l.sent - l.got) := by rw [IntKind.wrap_i64]; omega
  exact ⟨by show Ending.returned (.int .i64 (IntKind.i64.wrap (l.ordered - l.sent - l.cut + (l.sent - l.got)))) = _; rw [e], H2.out⟩
set_option maxHeartbeats 4000000 in
theorem allCut_any (l : OLn) (hok : LnOk l) (w : World) : Calls Try.prog 44 #[.agg #[.string l.partner, .string l.ref, .int .i64 l.no, .string l.item, .int .i64 l.ordered, .int .i64 l.sent, .int .i64 l.got, .int .i64 l.cut]] w fun e w' => e = .returned (.bool (decide (thA l))) ∧ Below w.heap.size w w' := by
  obtain ⟨W0, hW0⟩ : ∃ W0, w.alloc (.cells #[.string l.partner, .string l.ref, .int .i64 l.no, .string l.item, .int .i64 l.ordered, .int .i64 l.sent, .int .i64 l.got, .int .i64 l.cut] 31) = W0 := ⟨_, rfl⟩
  have hb0 : Below w.heap.size w W0 := by rw [← hW0]; exact (Below.refl _ _).alloc (Nat.le_refl _) _
  have hbx : W0.heap[w.heap.size]? = some (.cells #[.string l.partner, .string l.ref, .int .i64 l.no, .string l.item, .int .i64 l.ordered, .int .i64 l.sent, .int .i64 l.got, .int .i64 l.cut] 31) := by rw [← hW0]; exact World.alloc_heap_new _ _
  have HC : Hid (∀ W, Below W0.heap.size W0 W → W.cell? ⟨w.heap.size, 0, none⟩ = some (.string l.partner) ∧ W.cell? ⟨w.heap.size, 1, none⟩ = some (.string l.ref) ∧ W.cell? ⟨w.heap.size, 2, none⟩ = some (.int .i64 l.no) ∧ W.cell? ⟨w.heap.size, 3, none⟩ = some (.string l.item) ∧ W.cell? ⟨w.heap.size, 4, none⟩ = some (.int .i64 l.ordered) ∧ W.cell? ⟨w.heap.size, 5, none⟩ = some (.int .i64 l.sent) ∧ W.cell? ⟨w.heap.size, 6, none⟩ = some (.int .i64 l.got) ∧ W.cell? ⟨w.heap.size, 7, none⟩ = some (.int .i64 l.cut)) := fun W hW => box8 ((hW.block _ (Array.getElem?_eq_some_iff.1 hbx).1).trans hbx)
  have HB : Hid (Below w.heap.size w W0) := hb0
  clear hbx hb0
  obtain ⟨c0, c1, c2, c3, c4, c5, c6, c7⟩ := HC.out W0 (Below.refl _ _)
  obtain ⟨k0, k1, k2, k3, k4, k5, k6, k7⟩ : 1 ≤ l.ordered ∧ l.ordered ≤ 1000000 ∧ 0 ≤ l.sent ∧ 0 ≤ l.got ∧ 0 ≤ l.cut ∧ l.got ≤ l.sent ∧ l.sent ≤ l.ordered ∧ l.cut ≤ l.ordered - l.sent := ⟨hok.o1, hok.o2, hok.s0, hok.g0, hok.c0, hok.gs, hok.so, hok.co⟩
  clear hok
  go_enter Try.func44, Try.ntmps44
  go_upto_region 1 with fail
  try rw [hW0]
  clear hW0
  by_cases h : l.cut = l.ordered
  · have HI : Hid (decide (thA l) = true) := by show _ = _; exact decide_eq_true h
    go_wp2
    go_ret
    exact ⟨by rw [HI.out]; simp, HB.out⟩
  · have HI : Hid (decide (thA l) = false) := by show _ = _; exact decide_eq_false h
    go_wp2
    go_ret
    exact ⟨by rw [HI.out]; simp [h], HB.out⟩
set_option maxHeartbeats 4000000 in
theorem ended_any (l : OLn) (hok : LnOk l) (w : World) : Calls Try.prog 45 #[.agg #[.string l.partner, .string l.ref, .int .i64 l.no, .string l.item, .int .i64 l.ordered, .int .i64 l.sent, .int .i64 l.got, .int .i64 l.cut]] w fun e w' => e = .returned (.bool (decide (thE l))) ∧ Below w.heap.size w w' := by
  obtain ⟨W0, hW0⟩ : ∃ W0, w.alloc (.cells #[.string l.partner, .string l.ref, .int .i64 l.no, .string l.item, .int .i64 l.ordered, .int .i64 l.sent, .int .i64 l.got, .int .i64 l.cut] 31) = W0 := ⟨_, rfl⟩
  have hb0 : Below w.heap.size w W0 := by rw [← hW0]; exact (Below.refl _ _).alloc (Nat.le_refl _) _
  have hbx : W0.heap[w.heap.size]? = some (.cells #[.string l.partner, .string l.ref, .int .i64 l.no, .string l.item, .int .i64 l.ordered, .int .i64 l.sent, .int .i64 l.got, .int .i64 l.cut] 31) := by rw [← hW0]; exact World.alloc_heap_new _ _
  have HC : Hid (∀ W, Below W0.heap.size W0 W → W.cell? ⟨w.heap.size, 0, none⟩ = some (.string l.partner) ∧ W.cell? ⟨w.heap.size, 1, none⟩ = some (.string l.ref) ∧ W.cell? ⟨w.heap.size, 2, none⟩ = some (.int .i64 l.no) ∧ W.cell? ⟨w.heap.size, 3, none⟩ = some (.string l.item) ∧ W.cell? ⟨w.heap.size, 4, none⟩ = some (.int .i64 l.ordered) ∧ W.cell? ⟨w.heap.size, 5, none⟩ = some (.int .i64 l.sent) ∧ W.cell? ⟨w.heap.size, 6, none⟩ = some (.int .i64 l.got) ∧ W.cell? ⟨w.heap.size, 7, none⟩ = some (.int .i64 l.cut)) := fun W hW => box8 ((hW.block _ (Array.getElem?_eq_some_iff.1 hbx).1).trans hbx)
  have HB : Hid (Below w.heap.size w W0) := hb0
  clear hbx hb0
  obtain ⟨c0, c1, c2, c3, c4, c5, c6, c7⟩ := HC.out W0 (Below.refl _ _)
  obtain ⟨k0, k1, k2, k3, k4, k5, k6, k7⟩ : 1 ≤ l.ordered ∧ l.ordered ≤ 1000000 ∧ 0 ≤ l.sent ∧ 0 ≤ l.got ∧ 0 ≤ l.cut ∧ l.got ≤ l.sent ∧ l.sent ≤ l.ordered ∧ l.cut ≤ l.ordered - l.sent := ⟨hok.o1, hok.o2, hok.s0, hok.g0, hok.c0, hok.gs, hok.so, hok.co⟩
  have Q := toCome_any l hok
  clear hok
  obtain ⟨z, hz⟩ : ∃ z, z = l.ordered - l.sent - l.cut + (l.sent - l.got) := ⟨_, rfl⟩
  have HZ : Hid (z = l.ordered - l.sent - l.cut + (l.sent - l.got)) := hz
  rw [← hz] at Q
  clear hz
  go_enter Try.func45, Try.ntmps45
  go_upto_region 1 with fail
  try rw [hW0]
  clear hW0
  go_wp2_with (go_at_call 55; refine (Q _).mono ?_; rintro e w1 ⟨rfl, hb1⟩; have H1 : Hid (Below w.heap.size w w1) := HB.out.trans (hb1.mono HB.out.size); clear hb1)
  go_ret
  refine ⟨?_, H1.out⟩
  have e : decide (thE l) = decide (z = 0) := by rw [HZ.out]; rfl
  rw [e]
  by_cases h : z = 0 <;> simp [h]
set_option maxHeartbeats 4000000 in
theorem onItsWay_any (l : OLn) (hok : LnOk l) (w : World) : Calls Try.prog 46 #[.agg #[.string l.partner, .string l.ref, .int .i64 l.no, .string l.item, .int .i64 l.ordered, .int .i64 l.sent, .int .i64 l.got, .int .i64 l.cut]] w fun e w' => e = .returned (.bool (decide (thY l))) ∧ Below w.heap.size w w' := by
  obtain ⟨W0, hW0⟩ : ∃ W0, w.alloc (.cells #[.string l.partner, .string l.ref, .int .i64 l.no, .string l.item, .int .i64 l.ordered, .int .i64 l.sent, .int .i64 l.got, .int .i64 l.cut] 31) = W0 := ⟨_, rfl⟩
  have hb0 : Below w.heap.size w W0 := by rw [← hW0]; exact (Below.refl _ _).alloc (Nat.le_refl _) _
  have hbx : W0.heap[w.heap.size]? = some (.cells #[.string l.partner, .string l.ref, .int .i64 l.no, .string l.item, .int .i64 l.ordered, .int .i64 l.sent, .int .i64 l.got, .int .i64 l.cut] 31) := by rw [← hW0]; exact World.alloc_heap_new _ _
  have HC : Hid (∀ W, Below W0.heap.size W0 W → W.cell? ⟨w.heap.size, 0, none⟩ = some (.string l.partner) ∧ W.cell? ⟨w.heap.size, 1, none⟩ = some (.string l.ref) ∧ W.cell? ⟨w.heap.size, 2, none⟩ = some (.int .i64 l.no) ∧ W.cell? ⟨w.heap.size, 3, none⟩ = some (.string l.item) ∧ W.cell? ⟨w.heap.size, 4, none⟩ = some (.int .i64 l.ordered) ∧ W.cell? ⟨w.heap.size, 5, none⟩ = some (.int .i64 l.sent) ∧ W.cell? ⟨w.heap.size, 6, none⟩ = some (.int .i64 l.got) ∧ W.cell? ⟨w.heap.size, 7, none⟩ = some (.int .i64 l.cut)) := fun W hW => box8 ((hW.block _ (Array.getElem?_eq_some_iff.1 hbx).1).trans hbx)
  have HB : Hid (Below w.heap.size w W0) := hb0
  clear hbx hb0
  obtain ⟨c0, c1, c2, c3, c4, c5, c6, c7⟩ := HC.out W0 (Below.refl _ _)
  obtain ⟨k0, k1, k2, k3, k4, k5, k6, k7⟩ : 1 ≤ l.ordered ∧ l.ordered ≤ 1000000 ∧ 0 ≤ l.sent ∧ 0 ≤ l.got ∧ 0 ≤ l.cut ∧ l.got ≤ l.sent ∧ l.sent ≤ l.ordered ∧ l.cut ≤ l.ordered - l.sent := ⟨hok.o1, hok.o2, hok.s0, hok.g0, hok.c0, hok.gs, hok.so, hok.co⟩
  have Q1 := open_any l hok
  have Q2 := transit_any l hok
  clear hok
  obtain ⟨z, hz⟩ : ∃ z, z = l.ordered - l.sent - l.cut := ⟨_, rfl⟩
  obtain ⟨y, hy⟩ : ∃ y, y = l.sent - l.got := ⟨_, rfl⟩
  have HZ : Hid (z = l.ordered - l.sent - l.cut ∧ y = l.sent - l.got) := ⟨hz, hy⟩
  rw [← hz] at Q1
  rw [← hy] at Q2
  clear hz hy
  go_enter Try.func46, Try.ntmps46
  go_upto_region 1 with fail
  try rw [hW0]
  clear hW0
  by_cases h : z = 0
  · subst h
    go_wp2_with (first | (go_at_call 56; refine (Q1 _).mono ?_; rintro e w1 ⟨rfl, hb1⟩; obtain ⟨d0, d1, d2, d3, d4, d5, d6, d7⟩ := HC.out w1 hb1; have H1 : Hid (Below w.heap.size w w1) := HB.out.trans (hb1.mono HB.out.size); clear hb1) | (go_at_call 57; refine (Q2 _).mono ?_; rintro e w2 ⟨rfl, hb2⟩; have H2 : Hid (Below w.heap.size w w2) := H1.out.trans (hb2.mono H1.out.size); clear hb2))
    go_ret
    refine ⟨?_, H2.out⟩
    have e : decide (thY l) = decide (0 < y) := by rw [HZ.out.2]; have := HZ.out.1; unfold thY; congr 1; exact propext ⟨fun a => a.2, fun a => ⟨this.symm, a⟩⟩
    rw [e]
    by_cases h : 0 < y <;> simp [h]
  · have HI : Hid (decide (thY l) = false) := by show _ = _; refine decide_eq_false fun g => h ?_; rw [HZ.out.1]; exact g.1
    go_wp2_with (first | (go_at_call 56; refine (Q1 _).mono ?_; rintro e w1 ⟨rfl, hb1⟩; obtain ⟨d0, d1, d2, d3, d4, d5, d6, d7⟩ := HC.out w1 hb1; have H1 : Hid (Below w.heap.size w w1) := HB.out.trans (hb1.mono HB.out.size); clear hb1))
    go_ret
    exact ⟨by rw [HI.out]; first | rfl | simp [h], H1.out⟩
set_option maxHeartbeats 4000000 in
theorem untouched_any (l : OLn) (hok : LnOk l) (w : World) : Calls Try.prog 47 #[.agg #[.string l.partner, .string l.ref, .int .i64 l.no, .string l.item, .int .i64 l.ordered, .int .i64 l.sent, .int .i64 l.got, .int .i64 l.cut]] w fun e w' => e = .returned (.bool (decide (thU l))) ∧ Below w.heap.size w w' := by
  obtain ⟨W0, hW0⟩ : ∃ W0, w.alloc (.cells #[.string l.partner, .string l.ref, .int .i64 l.no, .string l.item, .int .i64 l.ordered, .int .i64 l.sent, .int .i64 l.got, .int .i64 l.cut] 31) = W0 := ⟨_, rfl⟩
  have hb0 : Below w.heap.size w W0 := by rw [← hW0]; exact (Below.refl _ _).alloc (Nat.le_refl _) _
  have hbx : W0.heap[w.heap.size]? = some (.cells #[.string l.partner, .string l.ref, .int .i64 l.no, .string l.item, .int .i64 l.ordered, .int .i64 l.sent, .int .i64 l.got, .int .i64 l.cut] 31) := by rw [← hW0]; exact World.alloc_heap_new _ _
  have HC : Hid (∀ W, Below W0.heap.size W0 W → W.cell? ⟨w.heap.size, 0, none⟩ = some (.string l.partner) ∧ W.cell? ⟨w.heap.size, 1, none⟩ = some (.string l.ref) ∧ W.cell? ⟨w.heap.size, 2, none⟩ = some (.int .i64 l.no) ∧ W.cell? ⟨w.heap.size, 3, none⟩ = some (.string l.item) ∧ W.cell? ⟨w.heap.size, 4, none⟩ = some (.int .i64 l.ordered) ∧ W.cell? ⟨w.heap.size, 5, none⟩ = some (.int .i64 l.sent) ∧ W.cell? ⟨w.heap.size, 6, none⟩ = some (.int .i64 l.got) ∧ W.cell? ⟨w.heap.size, 7, none⟩ = some (.int .i64 l.cut)) := fun W hW => box8 ((hW.block _ (Array.getElem?_eq_some_iff.1 hbx).1).trans hbx)
  have HB : Hid (Below w.heap.size w W0) := hb0
  clear hbx hb0
  obtain ⟨c0, c1, c2, c3, c4, c5, c6, c7⟩ := HC.out W0 (Below.refl _ _)
  obtain ⟨k0, k1, k2, k3, k4, k5, k6, k7⟩ : 1 ≤ l.ordered ∧ l.ordered ≤ 1000000 ∧ 0 ≤ l.sent ∧ 0 ≤ l.got ∧ 0 ≤ l.cut ∧ l.got ≤ l.sent ∧ l.sent ≤ l.ordered ∧ l.cut ≤ l.ordered - l.sent := ⟨hok.o1, hok.o2, hok.s0, hok.g0, hok.c0, hok.gs, hok.so, hok.co⟩
  clear hok
  go_enter Try.func47, Try.ntmps47
  go_upto_region 1 with fail
  try rw [hW0]
  clear hW0
  by_cases h : l.sent = 0
  · by_cases g : l.cut = 0
    · have HI : Hid (decide (thU l) = true) := by show _ = _; exact decide_eq_true ⟨h, g⟩
      go_wp2
      go_ret
      exact ⟨by rw [HI.out]; first | rfl | simp [h, g], HB.out⟩
    · have HI : Hid (decide (thU l) = false) := by show _ = _; exact decide_eq_false fun x => g x.2
      go_wp2
      go_ret
      exact ⟨by rw [HI.out]; first | rfl | simp [h, g], HB.out⟩
  · have HI : Hid (decide (thU l) = false) := by show _ = _; exact decide_eq_false fun x => h x.1
    go_wp2
    go_ret
    exact ⟨by rw [HI.out]; first | rfl | simp [h], HB.out⟩
set_option maxHeartbeats 4000000 in
theorem begun_any (l : OLn) (w : World) : Calls Try.prog 48 #[.agg #[.string l.partner, .string l.ref, .int .i64 l.no, .string l.item, .int .i64 l.ordered, .int .i64 l.sent, .int .i64 l.got, .int .i64 l.cut]] w fun e w' => e = .returned (.bool true) ∧ Below w.heap.size w w' := by
  obtain ⟨W0, hW0⟩ : ∃ W0, w.alloc (.cells #[.string l.partner, .string l.ref, .int .i64 l.no, .string l.item, .int .i64 l.ordered, .int .i64 l.sent, .int .i64 l.got, .int .i64 l.cut] 31) = W0 := ⟨_, rfl⟩
  have hb0 : Below w.heap.size w W0 := by rw [← hW0]; exact (Below.refl _ _).alloc (Nat.le_refl _) _
  have hbx : W0.heap[w.heap.size]? = some (.cells #[.string l.partner, .string l.ref, .int .i64 l.no, .string l.item, .int .i64 l.ordered, .int .i64 l.sent, .int .i64 l.got, .int .i64 l.cut] 31) := by rw [← hW0]; exact World.alloc_heap_new _ _
  have HC : Hid (∀ W, Below W0.heap.size W0 W → W.cell? ⟨w.heap.size, 0, none⟩ = some (.string l.partner) ∧ W.cell? ⟨w.heap.size, 1, none⟩ = some (.string l.ref) ∧ W.cell? ⟨w.heap.size, 2, none⟩ = some (.int .i64 l.no) ∧ W.cell? ⟨w.heap.size, 3, none⟩ = some (.string l.item) ∧ W.cell? ⟨w.heap.size, 4, none⟩ = some (.int .i64 l.ordered) ∧ W.cell? ⟨w.heap.size, 5, none⟩ = some (.int .i64 l.sent) ∧ W.cell? ⟨w.heap.size, 6, none⟩ = some (.int .i64 l.got) ∧ W.cell? ⟨w.heap.size, 7, none⟩ = some (.int .i64 l.cut)) := fun W hW => box8 ((hW.block _ (Array.getElem?_eq_some_iff.1 hbx).1).trans hbx)
  have HB : Hid (Below w.heap.size w W0) := hb0
  clear hbx hb0
  obtain ⟨c0, c1, c2, c3, c4, c5, c6, c7⟩ := HC.out W0 (Below.refl _ _)
  go_enter Try.func48, Try.ntmps48
  go_upto_region 1 with fail
  try rw [hW0]
  clear hW0
  go_wp2
  go_ret
  exact ⟨rfl, HB.out⟩
theorem box15 {W : World} {b t : Nat} {x0 x1 x2 x3 x4 x5 x6 x7 x8 x9 x10 x11 x12 x13 x14 : Value} (h : W.heap[b]? = some (.cells #[x0, x1, x2, x3, x4, x5, x6, x7, x8, x9, x10, x11, x12, x13, x14] t)) : W.cell? ⟨b, 0, none⟩ = some x0 ∧ W.cell? ⟨b, 1, none⟩ = some x1 ∧ W.cell? ⟨b, 2, none⟩ = some x2 ∧ W.cell? ⟨b, 3, none⟩ = some x3 ∧ W.cell? ⟨b, 4, none⟩ = some x4 ∧ W.cell? ⟨b, 5, none⟩ = some x5 ∧ W.cell? ⟨b, 6, none⟩ = some x6 ∧ W.cell? ⟨b, 7, none⟩ = some x7 ∧ W.cell? ⟨b, 8, none⟩ = some x8 ∧ W.cell? ⟨b, 9, none⟩ = some x9 ∧ W.cell? ⟨b, 10, none⟩ = some x10 ∧ W.cell? ⟨b, 11, none⟩ = some x11 ∧ W.cell? ⟨b, 12, none⟩ = some x12 ∧ W.cell? ⟨b, 13, none⟩ = some x13 ∧ W.cell? ⟨b, 14, none⟩ = some x14 := by
  refine ⟨?_, ?_, ?_, ?_, ?_, ?_, ?_, ?_, ?_, ?_, ?_, ?_, ?_, ?_, ?_⟩ <;> simp [World.cell?, h]
theorem set15 {W : World} {b t : Nat} {x0 x1 x2 x3 x4 x5 x6 x7 x8 x9 x10 x11 x12 x13 x14 y0 y1 y2 y3 y4 y5 y6 y7 y8 y9 y10 y11 y12 y13 y14 : Value} (h : W.heap[b]? = some (.cells #[x0, x1, x2, x3, x4, x5, x6, x7, x8, x9, x10, x11, x12, x13, x14] t)) :
    (((((((((((((((W.setCell ⟨b, 0, none⟩ y0).setCell ⟨b, 1, none⟩ y1).setCell ⟨b, 2, none⟩ y2).setCell ⟨b, 3, none⟩ y3).setCell ⟨b, 4, none⟩ y4).setCell ⟨b, 5, none⟩ y5).setCell ⟨b, 6, none⟩ y6).setCell ⟨b, 7, none⟩ y7).setCell ⟨b, 8, none⟩ y8).setCell ⟨b, 9, none⟩ y9).setCell ⟨b, 10, none⟩ y10).setCell ⟨b, 11, none⟩ y11).setCell ⟨b, 12, none⟩ y12).setCell ⟨b, 13, none⟩ y13).setCell ⟨b, 14, none⟩ y14).heap[b]? = some (.cells #[y0, y1, y2, y3, y4, y5, y6, y7, y8, y9, y10, y11, y12, y13, y14] t) := by
  simp [World.setCell, Array.getElem?_modify, h]
theorem below15 {n b : Nat} {a W : World} {y0 y1 y2 y3 y4 y5 y6 y7 y8 y9 y10 y11 y12 y13 y14 : Value} (h : Below n a W) (hP : n ≤ b) : Below n a (((((((((((((((W.setCell ⟨b, 0, none⟩ y0).setCell ⟨b, 1, none⟩ y1).setCell ⟨b, 2, none⟩ y2).setCell ⟨b, 3, none⟩ y3).setCell ⟨b, 4, none⟩ y4).setCell ⟨b, 5, none⟩ y5).setCell ⟨b, 6, none⟩ y6).setCell ⟨b, 7, none⟩ y7).setCell ⟨b, 8, none⟩ y8).setCell ⟨b, 9, none⟩ y9).setCell ⟨b, 10, none⟩ y10).setCell ⟨b, 11, none⟩ y11).setCell ⟨b, 12, none⟩ y12).setCell ⟨b, 13, none⟩ y13).setCell ⟨b, 14, none⟩ y14) := (((((((((((((((h.setCell hP _).setCell hP _).setCell hP _).setCell hP _).setCell hP _).setCell hP _).setCell hP _).setCell hP _).setCell hP _).setCell hP _).setCell hP _).setCell hP _).setCell hP _).setCell hP _).setCell hP _)
theorem frozeTh {W : World} {P t : Nat} {cs : Array Value} (h : W.heap[P]? = some (.cells cs t)) : ∀ o, W.frozen? ⟨P, o, none⟩ = false := fun o => by simp [World.frozen?, h]
set_option maxHeartbeats 4000000 in
theorem standRules_any (w : World) : Calls Try.prog 36 #[] w fun e w' => e = .returned (.agg #[.func (.func 44) #[] #[], .int .i64 5, .string ⟨#[103, 111, 110, 101]⟩, .func (.func 45) #[] #[], .int .i64 4, .string ⟨#[100, 111, 110, 101]⟩, .func (.func 46) #[] #[], .int .i64 3, .string ⟨#[119, 97, 121]⟩, .func (.func 47) #[] #[], .int .i64 1, .string ⟨#[110, 101, 119]⟩, .func (.func 48) #[] #[], .int .i64 2, .string ⟨#[112, 97, 114, 116]⟩]) ∧ Below w.heap.size w w' := by
  obtain ⟨W0, hW0⟩ : ∃ W0, w.alloc (.cells #[.nilFunc, .int .i64 0, .string ⟨#[]⟩, .nilFunc, .int .i64 0, .string ⟨#[]⟩, .nilFunc, .int .i64 0, .string ⟨#[]⟩, .nilFunc, .int .i64 0, .string ⟨#[]⟩, .nilFunc, .int .i64 0, .string ⟨#[]⟩] 63) = W0 := ⟨_, rfl⟩
  have hb0 : Below w.heap.size w W0 := by rw [← hW0]; exact (Below.refl _ _).alloc (Nat.le_refl _) _
  have hbx : W0.heap[w.heap.size]? = some (.cells #[.nilFunc, .int .i64 0, .string ⟨#[]⟩, .nilFunc, .int .i64 0, .string ⟨#[]⟩, .nilFunc, .int .i64 0, .string ⟨#[]⟩, .nilFunc, .int .i64 0, .string ⟨#[]⟩, .nilFunc, .int .i64 0, .string ⟨#[]⟩] 63) := by rw [← hW0]; exact World.alloc_heap_new _ _
  have HB : Hid (Below w.heap.size w W0) := hb0
  have HX : Hid (W0.heap[w.heap.size]? = some (.cells #[.nilFunc, .int .i64 0, .string ⟨#[]⟩, .nilFunc, .int .i64 0, .string ⟨#[]⟩, .nilFunc, .int .i64 0, .string ⟨#[]⟩, .nilFunc, .int .i64 0, .string ⟨#[]⟩, .nilFunc, .int .i64 0, .string ⟨#[]⟩] 63)) := hbx
  have hfz := frozeTh hbx
  obtain ⟨d0, d1, d2, d3, d4, d5, d6, d7, d8, d9, d10, d11, d12, d13, d14⟩ := box15 hbx
  clear hbx hb0
  go_enter Try.func36, Try.ntmps36
  go_upto_region 1 with fail
  try rw [hW0]
  clear hW0
  go_wp2
  obtain ⟨f0, f1, f2, f3, f4, f5, f6, f7, f8, f9, f10, f11, f12, f13, f14⟩ := box15 (set15 (y0 := .func (.func 44) #[] #[]) (y1 := .int .i64 5) (y2 := .string ⟨#[103, 111, 110, 101]⟩) (y3 := .func (.func 45) #[] #[]) (y4 := .int .i64 4) (y5 := .string ⟨#[100, 111, 110, 101]⟩) (y6 := .func (.func 46) #[] #[]) (y7 := .int .i64 3) (y8 := .string ⟨#[119, 97, 121]⟩) (y9 := .func (.func 47) #[] #[]) (y10 := .int .i64 1) (y11 := .string ⟨#[110, 101, 119]⟩) (y12 := .func (.func 48) #[] #[]) (y13 := .int .i64 2) (y14 := .string ⟨#[112, 97, 114, 116]⟩) HX.out)
  exact bodyPost_ret (v := .agg #[.func (.func 44) #[] #[], .int .i64 5, .string ⟨#[103, 111, 110, 101]⟩, .func (.func 45) #[] #[], .int .i64 4, .string ⟨#[100, 111, 110, 101]⟩, .func (.func 46) #[] #[], .int .i64 3, .string ⟨#[119, 97, 121]⟩, .func (.func 47) #[] #[], .int .i64 1, .string ⟨#[110, 101, 119]⟩, .func (.func 48) #[] #[], .int .i64 2, .string ⟨#[112, 97, 114, 116]⟩]) (by simp [results, Try.results36, go_sem, f0, f1, f2, f3, f4, f5, f6, f7, f8, f9, f10, f11, f12, f13, f14]) rfl ⟨rfl, below15 HB.out (Nat.le_refl _)⟩
end Go.Proofs.Ytppfobeencnbdaa
