/- Contracts of the model's ThreeOf and ThreeText. -/
import Derived.Test.YtnaidbpkllmeoaaLnS
import Derived.Test.YtnaidbpkllmeoaaThP
namespace Go.Proofs.Ytnaidbpkllmeoaa
open Go.ChangeShapes Go.WideShapes Go.ChangeAt Go.RowKit
set_option maxHeartbeats 4000000 in
theorem threeOf_spec (l : OLn) (w : World) : Calls Try.prog 9 #[.agg #[.string l.partner, .string l.ref, .int .i64 l.no, .string l.item, .int .i64 l.ordered, .int .i64 l.sent, .int .i64 l.got, .int .i64 l.cut]] w fun e w' => e = .returned (.int .i64 (stT l)) ∧ Below w.heap.size w w' := by
  obtain ⟨W0, hW0⟩ : ∃ W0, w.alloc (.cells #[.string l.partner, .string l.ref, .int .i64 l.no, .string l.item, .int .i64 l.ordered, .int .i64 l.sent, .int .i64 l.got, .int .i64 l.cut] 26) = W0 := ⟨_, rfl⟩
  have hb0 : Below w.heap.size w W0 := by rw [← hW0]; exact (Below.refl _ _).alloc (Nat.le_refl _) _
  have hbx : W0.heap[w.heap.size]? = some (.cells #[.string l.partner, .string l.ref, .int .i64 l.no, .string l.item, .int .i64 l.ordered, .int .i64 l.sent, .int .i64 l.got, .int .i64 l.cut] 26) := by rw [← hW0]; exact World.alloc_heap_new _ _
  have HC : Hid (∀ W, Below W0.heap.size W0 W → W.cell? ⟨w.heap.size, 0, none⟩ = some (.string l.partner) ∧ W.cell? ⟨w.heap.size, 1, none⟩ = some (.string l.ref) ∧ W.cell? ⟨w.heap.size, 2, none⟩ = some (.int .i64 l.no) ∧ W.cell? ⟨w.heap.size, 3, none⟩ = some (.string l.item) ∧ W.cell? ⟨w.heap.size, 4, none⟩ = some (.int .i64 l.ordered) ∧ W.cell? ⟨w.heap.size, 5, none⟩ = some (.int .i64 l.sent) ∧ W.cell? ⟨w.heap.size, 6, none⟩ = some (.int .i64 l.got) ∧ W.cell? ⟨w.heap.size, 7, none⟩ = some (.int .i64 l.cut)) := fun W hW => box8 ((hW.block _ (Array.getElem?_eq_some_iff.1 hbx).1).trans hbx)
  have HB : Hid (Below w.heap.size w W0) := hb0
  clear hbx hb0
  obtain ⟨c0, c1, c2, c3, c4, c5, c6, c7⟩ := HC.out W0 (Below.refl _ _)
  have Q1 := lineRight_spec l
  obtain ⟨x, hx⟩ : ∃ x, x = lnB l := ⟨_, rfl⟩
  rw [← hx] at Q1
  have HX : Hid (x = lnB l) := hx
  clear hx
  obtain ⟨s, hs⟩ : ∃ s, s = stT l := ⟨_, rfl⟩
  rw [← hs]
  have HT : Hid (s = stT l) := hs
  clear hs
  go_enter Try.func9, Try.ntmps9
  go_upto_region 1 with fail
  try rw [hW0]
  clear hW0
  go_wp2_with fail
  refine (Q1 _).mono ?_
  rintro e w1 ⟨rfl, hb⟩
  have Hw1 : Hid (Below W0.heap.size W0 w1) := (Below.refl W0.heap.size W0).trans (hb.mono (Below.refl W0.heap.size W0).size)
  clear hb
  obtain ⟨c0, c1, c2, c3, c4, c5, c6, c7⟩ := HC.out w1 Hw1.out
  cases x with
  | false =>
    have HS : Hid (s = 0) := by show s = 0; rw [HT.out]; exact stT_no fun h => by have h1 := HX.out; rw [lnB_yes h] at h1; cases h1
    go_wp2
    go_ret
    exact ⟨by rw [HS.out]; rfl, HB.out.trans ((Hw1.out).mono HB.out.size)⟩
  | true =>
    have hok : LnOk l := lnB_iff.1 HX.out.symm
    have HK : Hid (LnOk l ∧ stT l = stR l) := ⟨hok, stT_yes hok⟩
    have Q2 := lineOpen_spec l
    have Q3 := lineTransit_spec l
    rw [opnT_yes hok] at Q2
    rw [trnT_yes hok] at Q3
    obtain ⟨z, hz⟩ : ∃ z, z = l.ordered - l.sent - l.cut := ⟨_, rfl⟩
    obtain ⟨y, hy⟩ : ∃ y, y = l.sent - l.got := ⟨_, rfl⟩
    have HZ : Hid (z = l.ordered - l.sent - l.cut ∧ y = l.sent - l.got) := ⟨hz, hy⟩
    have HN : Hid (0 ≤ z ∧ 0 ≤ y) := by have := hok.co; have := hok.gs; exact ⟨by omega, by omega⟩
    rw [← hz] at Q2
    rw [← hy] at Q3
    clear hz hy hok
    by_cases hA : l.cut = l.ordered
    · have HS : Hid (s = 5) := by show s = 5; rw [HT.out, HK.out.2, stR, if_pos (show thA l from hA)]
      go_wp2
      go_ret
      exact ⟨by rw [HS.out]; rfl, HB.out.trans ((Hw1.out).mono HB.out.size)⟩
    go_wp2_with fail
    refine (Q2 _).mono ?_
    rintro e w2 ⟨rfl, hb⟩
    have Hw2 : Hid (Below W0.heap.size W0 w2) := Hw1.out.trans (hb.mono Hw1.out.size)
    clear hb
    obtain ⟨c0, c1, c2, c3, c4, c5, c6, c7⟩ := HC.out w2 Hw2.out
    by_cases hz : z = 0
    · subst hz
      go_wp2_with fail
      refine (Q3 _).mono ?_
      rintro e w3 ⟨rfl, hb⟩
      have Hw3 : Hid (Below W0.heap.size W0 w3) := Hw2.out.trans (hb.mono Hw2.out.size)
      clear hb
      obtain ⟨c0, c1, c2, c3, c4, c5, c6, c7⟩ := HC.out w3 Hw3.out
      by_cases hy : y = 0
      · subst hy
        have HS : Hid (s = 4) := by
          show s = 4
          rw [HT.out, HK.out.2, stR, if_neg (show ¬ thA l from hA), if_pos (show thE l by have h1 := HZ.out.1; have h2 := HZ.out.2; unfold thE; omega)]
        go_wp2
        go_ret
        exact ⟨by rw [HS.out]; rfl, HB.out.trans ((Hw3.out).mono HB.out.size)⟩
      have HS : Hid (s = 3) := by
        show s = 3
        have h1 := HZ.out.1
        have h2 := HZ.out.2
        have h3 := HN.out.2
        rw [HT.out, HK.out.2, stR, if_neg (show ¬ thA l from hA), if_neg (show ¬ thE l by unfold thE; omega), if_pos (show thY l from ⟨by omega, by omega⟩)]
      go_wp2_with fail
      refine (Q2 _).mono ?_
      rintro e w4 ⟨rfl, hb⟩
      have Hw4 : Hid (Below W0.heap.size W0 w4) := Hw3.out.trans (hb.mono Hw3.out.size)
      clear hb
      obtain ⟨c0, c1, c2, c3, c4, c5, c6, c7⟩ := HC.out w4 Hw4.out
      go_wp2
      go_ret
      exact ⟨by rw [HS.out]; rfl, HB.out.trans ((Hw4.out).mono HB.out.size)⟩
    have HM : Hid (stT l = if thU l then 1 else 2) := by
      show _ = _
      have h1 := HZ.out.1
      have h2 := HZ.out.2
      have h3 := HN.out.2
      have h4 := HN.out.1
      rw [HK.out.2, stR, if_neg (show ¬ thA l from hA), if_neg (show ¬ thE l by unfold thE; omega), if_neg (show ¬ thY l from fun g => by have := g.1; omega)]
    go_wp2_with fail
    refine (Q2 _).mono ?_
    rintro e w3 ⟨rfl, hb⟩
    have Hw3 : Hid (Below W0.heap.size W0 w3) := Hw2.out.trans (hb.mono Hw2.out.size)
    clear hb
    obtain ⟨c0, c1, c2, c3, c4, c5, c6, c7⟩ := HC.out w3 Hw3.out
    by_cases hs : l.sent = 0
    · by_cases hc : l.cut = 0
      · have HS : Hid (s = 1) := by show s = 1; rw [HT.out, HM.out, if_pos (show thU l from ⟨hs, hc⟩)]
        go_wp2
        go_ret
        exact ⟨by rw [HS.out]; rfl, HB.out.trans ((Hw3.out).mono HB.out.size)⟩
      · have HS : Hid (s = 2) := by show s = 2; rw [HT.out, HM.out, if_neg (show ¬ thU l from fun g => hc g.2)]
        go_wp2
        go_ret
        exact ⟨by rw [HS.out]; rfl, HB.out.trans ((Hw3.out).mono HB.out.size)⟩
    · have HS : Hid (s = 2) := by show s = 2; rw [HT.out, HM.out, if_neg (show ¬ thU l from fun g => hs g.1)]
      go_wp2
      go_ret
      exact ⟨by rw [HS.out]; rfl, HB.out.trans ((Hw3.out).mono HB.out.size)⟩
theorem box6T {W : World} {b t : Nat} {x0 x1 x2 x3 x4 x5 : Value} (h : W.heap[b]? = some (.cells #[x0, x1, x2, x3, x4, x5] t)) : W.cell? ⟨b, 0, none⟩ = some x0 ∧ W.cell? ⟨b, 1, none⟩ = some x1 ∧ W.cell? ⟨b, 2, none⟩ = some x2 ∧ W.cell? ⟨b, 3, none⟩ = some x3 ∧ W.cell? ⟨b, 4, none⟩ = some x4 ∧ W.cell? ⟨b, 5, none⟩ = some x5 := by
  refine ⟨?_, ?_, ?_, ?_, ?_, ?_⟩ <;> simp [World.cell?, h]
set_option maxHeartbeats 4000000 in
theorem threeText_spec (l : OLn) (w : World) : Calls Try.prog 20 #[.agg #[.string l.partner, .string l.ref, .int .i64 l.no, .string l.item, .int .i64 l.ordered, .int .i64 l.sent, .int .i64 l.got, .int .i64 l.cut]] w fun e w' => e = .returned (.string (wdT (stT l))) ∧ Below w.heap.size w w' := by
  obtain ⟨W0, hW0⟩ : ∃ W0, w.alloc (.cells #[.string l.partner, .string l.ref, .int .i64 l.no, .string l.item, .int .i64 l.ordered, .int .i64 l.sent, .int .i64 l.got, .int .i64 l.cut] 26) = W0 := ⟨_, rfl⟩
  have hb0 : Below w.heap.size w W0 := by rw [← hW0]; exact (Below.refl _ _).alloc (Nat.le_refl _) _
  have hbx : W0.heap[w.heap.size]? = some (.cells #[.string l.partner, .string l.ref, .int .i64 l.no, .string l.item, .int .i64 l.ordered, .int .i64 l.sent, .int .i64 l.got, .int .i64 l.cut] 26) := by rw [← hW0]; exact World.alloc_heap_new _ _
  have HC : Hid (∀ W, Below W0.heap.size W0 W → W.cell? ⟨w.heap.size, 0, none⟩ = some (.string l.partner) ∧ W.cell? ⟨w.heap.size, 1, none⟩ = some (.string l.ref) ∧ W.cell? ⟨w.heap.size, 2, none⟩ = some (.int .i64 l.no) ∧ W.cell? ⟨w.heap.size, 3, none⟩ = some (.string l.item) ∧ W.cell? ⟨w.heap.size, 4, none⟩ = some (.int .i64 l.ordered) ∧ W.cell? ⟨w.heap.size, 5, none⟩ = some (.int .i64 l.sent) ∧ W.cell? ⟨w.heap.size, 6, none⟩ = some (.int .i64 l.got) ∧ W.cell? ⟨w.heap.size, 7, none⟩ = some (.int .i64 l.cut)) := fun W hW => box8 ((hW.block _ (Array.getElem?_eq_some_iff.1 hbx).1).trans hbx)
  have HB : Hid (Below w.heap.size w W0) := hb0
  clear hbx hb0
  obtain ⟨c0, c1, c2, c3, c4, c5, c6, c7⟩ := HC.out W0 (Below.refl _ _)
  have Q := threeOf_spec l
  obtain ⟨s, hs⟩ : ∃ s, s = stT l := ⟨_, rfl⟩
  rw [← hs] at Q ⊢
  have hr : 0 ≤ s ∧ s ≤ 5 := by rw [hs]; exact stT_ran l
  clear hs
  go_enter Try.func20, Try.ntmps20
  go_upto_region 1 with fail
  try rw [hW0]
  clear hW0
  obtain ⟨W1, hW1⟩ : ∃ W1, W0.alloc (.cells #[.string ⟨#[]⟩, .string ⟨#[110, 101, 119]⟩, .string ⟨#[112, 97, 114, 116]⟩, .string ⟨#[119, 97, 121]⟩, .string ⟨#[100, 111, 110, 101]⟩, .string ⟨#[103, 111, 110, 101]⟩] 9) = W1 := ⟨_, rfl⟩
  have hb1 : Below W0.heap.size W0 W1 := by rw [← hW1]; exact (Below.refl _ _).alloc (Nat.le_refl _) _
  have hbx : W1.heap[W0.heap.size]? = some (.cells #[.string ⟨#[]⟩, .string ⟨#[110, 101, 119]⟩, .string ⟨#[112, 97, 114, 116]⟩, .string ⟨#[119, 97, 121]⟩, .string ⟨#[100, 111, 110, 101]⟩, .string ⟨#[103, 111, 110, 101]⟩] 9) := by rw [← hW1]; exact World.alloc_heap_new _ _
  obtain ⟨c0, c1, c2, c3, c4, c5, c6, c7⟩ := HC.out W1 hb1
  have HX : Hid (Below W0.heap.size W0 W1 ∧ W1.heap[W0.heap.size]? = some (.cells #[.string ⟨#[]⟩, .string ⟨#[110, 101, 119]⟩, .string ⟨#[112, 97, 114, 116]⟩, .string ⟨#[119, 97, 121]⟩, .string ⟨#[100, 111, 110, 101]⟩, .string ⟨#[103, 111, 110, 101]⟩] 9)) := ⟨hb1, hbx⟩
  go_wp2_with fail
  clear hb1 hbx hW1
  refine (Q _).mono ?_
  rintro e w2 ⟨rfl, hb2⟩
  have H2 : Hid (Below w.heap.size w w2) := HB.out.trans ((HX.out.1.trans (hb2.mono HX.out.1.size)).mono HB.out.size)
  obtain ⟨g0, g1, g2, g3, g4, g5⟩ := box6T ((hb2.block _ (Array.getElem?_eq_some_iff.1 HX.out.2).1).trans HX.out.2)
  clear hb2 c0 c1 c2 c3 c4 c5 c6 c7 Q
  obtain rfl | rfl | rfl | rfl | rfl | rfl : s = 0 ∨ s = 1 ∨ s = 2 ∨ s = 3 ∨ s = 4 ∨ s = 5 := by omega
  all_goals go_wp2
  all_goals go_ret
  all_goals exact ⟨rfl, H2.out⟩
end Go.Proofs.Ytnaidbpkllmeoaa
