/- Contracts of the program's postings. -/
import Derived.Test.YtnfidhfhmfggcaaLnQ
import Derived.Test.YtnfidhfhmfggcaaLnO
import Derived.Test.YtnfidhfhmfggcaaLnK
namespace Go.Proofs.Ytnfidhfhmfggcaa
open Go.ChangeShapes Go.WideShapes Go.ChangeAt Go.RowKit
theorem isPost_any (z : Int) (w : World) : Calls Try.prog 28 #[.int .i64 z] w fun e w' => e = .returned (.bool (kindB z)) ∧ w' = w := by
  by_cases h1 : 1 ≤ z
  · by_cases h2 : z ≤ 3
    · rw [kindB_yes ⟨h1, h2⟩]
      go_enter Try.func28, Try.ntmps28
      go_wp2
      go_ret
      exact ⟨by first | rfl | exact ret_yes (p := z ≤ 3) (by omega), rfl⟩
    · rw [kindB_no (by omega)]
      go_enter Try.func28, Try.ntmps28
      go_wp2
      go_ret
      exact ⟨by first | rfl | exact ret_no (p := z ≤ 3) (by omega), rfl⟩
  · rw [kindB_no (by omega)]
    go_enter Try.func28, Try.ntmps28
    go_wp2
    go_ret
    exact ⟨rfl, rfl⟩
set_option maxHeartbeats 4000000 in
theorem postCut_any (l : OLn) (hok : LnOk l) (qty : Int) (hq : 1 ≤ qty ∧ qty ≤ 1000000) (f : Int) (hf : f = fitZ qty (l.ordered - l.sent - l.cut)) (w : World) :
    Calls Try.prog 45 #[.agg #[.string l.partner, .string l.ref, .int .i64 l.no, .string l.item, .int .i64 l.ordered, .int .i64 l.sent, .int .i64 l.got, .int .i64 l.cut], .int .i64 qty] w fun e w' => e = .returned (.tuple #[.agg #[.string l.partner, .string l.ref, .int .i64 l.no, .string l.item, .int .i64 l.ordered, .int .i64 l.sent, .int .i64 l.got, .int .i64 (l.cut + f)], .int .i64 f]) ∧ Below w.heap.size w w' := by
  have k0 := hok.o1
  have k1 := hok.o2
  have k2 := hok.s0
  have k3 := hok.g0
  have k4 := hok.c0
  have k5 := hok.gs
  have k6 := hok.so
  have k7 := hok.co
  obtain ⟨hq1, hq2⟩ := hq
  have Q1 := open_any l hok
  obtain ⟨W1, hW1⟩ : ∃ W1, (w.alloc (.cells #[.string l.partner, .string l.ref, .int .i64 l.no, .string l.item, .int .i64 l.ordered, .int .i64 l.sent, .int .i64 l.got, .int .i64 l.cut] 24)).alloc (.cells #[.string ⟨#[]⟩, .string ⟨#[]⟩, .int .i64 0, .string ⟨#[]⟩, .int .i64 0, .int .i64 0, .int .i64 0, .int .i64 0] 24) = W1 := ⟨_, rfl⟩
  have hb1 : Below w.heap.size w W1 := by rw [← hW1]; exact ((Below.refl _ _).alloc (Nat.le_refl _) _).alloc (by simp) _
  obtain ⟨i0, i1⟩ := fl_two w (.cells #[.string l.partner, .string l.ref, .int .i64 l.no, .string l.item, .int .i64 l.ordered, .int .i64 l.sent, .int .i64 l.got, .int .i64 l.cut] 24) (.cells #[.string ⟨#[]⟩, .string ⟨#[]⟩, .int .i64 0, .string ⟨#[]⟩, .int .i64 0, .int .i64 0, .int .i64 0, .int .i64 0] 24)
  rw [hW1] at i0 i1
  obtain ⟨B, hB⟩ : ∃ B, B = w.heap.size := ⟨_, rfl⟩
  obtain ⟨R, hR⟩ : ∃ R, R = w.heap.size + 1 := ⟨_, rfl⟩
  rw [← hB] at i0
  rw [← hR] at i1
  have HD : Hid (∀ W, Below W1.heap.size W1 W → W.heap[B]? = some (.cells #[.string l.partner, .string l.ref, .int .i64 l.no, .string l.item, .int .i64 l.ordered, .int .i64 l.sent, .int .i64 l.got, .int .i64 l.cut] 24) ∧ W.heap[R]? = some (.cells #[.string ⟨#[]⟩, .string ⟨#[]⟩, .int .i64 0, .string ⟨#[]⟩, .int .i64 0, .int .i64 0, .int .i64 0, .int .i64 0] 24)) := fun W hW => ⟨(hW.block _ (Array.getElem?_eq_some_iff.1 i0).1).trans i0, (hW.block _ (Array.getElem?_eq_some_iff.1 i1).1).trans i1⟩
  have HB : Hid (Below w.heap.size w W1) := hb1
  obtain ⟨c0, c1, c2, c3, c4, c5, c6, c7⟩ := box8 i0
  go_enter Try.func45, Try.ntmps45
  go_upto_region 1 with fail
  try rw [hW1]
  try rw [← hR]
  try rw [← hB]
  have HR : Hid (B = w.heap.size ∧ R = w.heap.size + 1) := ⟨hB, hR⟩
  have hBR : B ≠ R := by omega
  clear hW1 hb1 i0 i1 hB hR
  go_wp2_with fail
  refine (Q1 _).mono ?_
  rintro e w2 ⟨rfl, hb2⟩
  obtain ⟨hx, hr⟩ := HD.out w2 hb2
  clear c0 c1 c2 c3 c4 c5 c6 c7 Q1 hok
  obtain ⟨c0, c1, c2, c3, c4, c5, c6, c7⟩ := box8 hx
  obtain ⟨d0, d1, d2, d3, d4, d5, d6, d7⟩ := box8 hr
  have hfB : ∀ o, w2.frozen? ⟨B, o, none⟩ = false := fun o => by simp [World.frozen?, hx]
  have hfR : ∀ o, w2.frozen? ⟨R, o, none⟩ = false := fun o => by simp [World.frozen?, hr]
  have HE : Hid (Below w.heap.size w w2 ∧ w2.heap[R]? = some (.cells #[.string ⟨#[]⟩, .string ⟨#[]⟩, .int .i64 0, .string ⟨#[]⟩, .int .i64 0, .int .i64 0, .int .i64 0, .int .i64 0] 24) ∧ w.heap.size ≤ R ∧ w.heap.size ≤ B) := ⟨HB.out.trans (hb2.mono HB.out.size), hr, by rw [HR.out.2]; omega, by rw [HR.out.1]; omega⟩
  have HO : Hid (∀ x : Value, (w2.setCell ⟨B, 7, none⟩ x).heap[R]? = some (.cells #[.string ⟨#[]⟩, .string ⟨#[]⟩, .int .i64 0, .string ⟨#[]⟩, .int .i64 0, .int .i64 0, .int .i64 0, .int .i64 0] 24)) := fun x => by
    simp only [World.setCell, Array.getElem?_modify]
    rw [if_neg hBR]
    exact hr
  clear hb2 hx hr
  have HF : Hid (f = (min qty (l.ordered - l.sent - l.cut))) := hf
  clear hf
  go_wp2
  obtain ⟨f0, f1, f2, f3, f4, f5, f6, f7⟩ := box8 (set8 (y0 := .string l.partner) (y1 := .string l.ref) (y2 := .int .i64 l.no) (y3 := .string l.item) (y4 := .int .i64 l.ordered) (y5 := .int .i64 l.sent) (y6 := .int .i64 l.got) (y7 := .int .i64 (l.cut + (min qty (l.ordered - l.sent - l.cut)))) (HO.out (.int .i64 (l.cut + (min qty (l.ordered - l.sent - l.cut))))))
  have hge := HE.out.2.2.1
  have hgB := HE.out.2.2.2
  rw [HF.out]
  exact bodyPost_ret (v := .tuple #[.agg #[.string l.partner, .string l.ref, .int .i64 l.no, .string l.item, .int .i64 l.ordered, .int .i64 l.sent, .int .i64 l.got, .int .i64 (l.cut + (min qty (l.ordered - l.sent - l.cut)))], .int .i64 (min qty (l.ordered - l.sent - l.cut))]) (by simp [results, Try.results45, go_sem, f0, f1, f2, f3, f4, f5, f6, f7]) rfl ⟨rfl, (((((((((HE.out.1.setCell hgB _).setCell hge _).setCell hge _).setCell hge _).setCell hge _).setCell hge _).setCell hge _).setCell hge _).setCell hge _)⟩
set_option maxHeartbeats 4000000 in
theorem postSent_any (l : OLn) (hok : LnOk l) (qty : Int) (hq : 1 ≤ qty ∧ qty ≤ 1000000) (f : Int) (hf : f = fitZ qty (l.ordered - l.sent - l.cut)) (w : World) :
    Calls Try.prog 46 #[.agg #[.string l.partner, .string l.ref, .int .i64 l.no, .string l.item, .int .i64 l.ordered, .int .i64 l.sent, .int .i64 l.got, .int .i64 l.cut], .int .i64 qty] w fun e w' => e = .returned (.tuple #[.agg #[.string l.partner, .string l.ref, .int .i64 l.no, .string l.item, .int .i64 l.ordered, .int .i64 (l.sent + f), .int .i64 l.got, .int .i64 l.cut], .int .i64 f]) ∧ Below w.heap.size w w' := by
  have k0 := hok.o1
  have k1 := hok.o2
  have k2 := hok.s0
  have k3 := hok.g0
  have k4 := hok.c0
  have k5 := hok.gs
  have k6 := hok.so
  have k7 := hok.co
  obtain ⟨hq1, hq2⟩ := hq
  have Q1 := open_any l hok
  obtain ⟨W1, hW1⟩ : ∃ W1, (w.alloc (.cells #[.string l.partner, .string l.ref, .int .i64 l.no, .string l.item, .int .i64 l.ordered, .int .i64 l.sent, .int .i64 l.got, .int .i64 l.cut] 24)).alloc (.cells #[.string ⟨#[]⟩, .string ⟨#[]⟩, .int .i64 0, .string ⟨#[]⟩, .int .i64 0, .int .i64 0, .int .i64 0, .int .i64 0] 24) = W1 := ⟨_, rfl⟩
  have hb1 : Below w.heap.size w W1 := by rw [← hW1]; exact ((Below.refl _ _).alloc (Nat.le_refl _) _).alloc (by simp) _
  obtain ⟨i0, i1⟩ := fl_two w (.cells #[.string l.partner, .string l.ref, .int .i64 l.no, .string l.item, .int .i64 l.ordered, .int .i64 l.sent, .int .i64 l.got, .int .i64 l.cut] 24) (.cells #[.string ⟨#[]⟩, .string ⟨#[]⟩, .int .i64 0, .string ⟨#[]⟩, .int .i64 0, .int .i64 0, .int .i64 0, .int .i64 0] 24)
  rw [hW1] at i0 i1
  obtain ⟨B, hB⟩ : ∃ B, B = w.heap.size := ⟨_, rfl⟩
  obtain ⟨R, hR⟩ : ∃ R, R = w.heap.size + 1 := ⟨_, rfl⟩
  rw [← hB] at i0
  rw [← hR] at i1
  have HD : Hid (∀ W, Below W1.heap.size W1 W → W.heap[B]? = some (.cells #[.string l.partner, .string l.ref, .int .i64 l.no, .string l.item, .int .i64 l.ordered, .int .i64 l.sent, .int .i64 l.got, .int .i64 l.cut] 24) ∧ W.heap[R]? = some (.cells #[.string ⟨#[]⟩, .string ⟨#[]⟩, .int .i64 0, .string ⟨#[]⟩, .int .i64 0, .int .i64 0, .int .i64 0, .int .i64 0] 24)) := fun W hW => ⟨(hW.block _ (Array.getElem?_eq_some_iff.1 i0).1).trans i0, (hW.block _ (Array.getElem?_eq_some_iff.1 i1).1).trans i1⟩
  have HB : Hid (Below w.heap.size w W1) := hb1
  obtain ⟨c0, c1, c2, c3, c4, c5, c6, c7⟩ := box8 i0
  go_enter Try.func46, Try.ntmps46
  go_upto_region 1 with fail
  try rw [hW1]
  try rw [← hR]
  try rw [← hB]
  have HR : Hid (B = w.heap.size ∧ R = w.heap.size + 1) := ⟨hB, hR⟩
  have hBR : B ≠ R := by omega
  clear hW1 hb1 i0 i1 hB hR
  go_wp2_with fail
  refine (Q1 _).mono ?_
  rintro e w2 ⟨rfl, hb2⟩
  obtain ⟨hx, hr⟩ := HD.out w2 hb2
  clear c0 c1 c2 c3 c4 c5 c6 c7 Q1 hok
  obtain ⟨c0, c1, c2, c3, c4, c5, c6, c7⟩ := box8 hx
  obtain ⟨d0, d1, d2, d3, d4, d5, d6, d7⟩ := box8 hr
  have hfB : ∀ o, w2.frozen? ⟨B, o, none⟩ = false := fun o => by simp [World.frozen?, hx]
  have hfR : ∀ o, w2.frozen? ⟨R, o, none⟩ = false := fun o => by simp [World.frozen?, hr]
  have HE : Hid (Below w.heap.size w w2 ∧ w2.heap[R]? = some (.cells #[.string ⟨#[]⟩, .string ⟨#[]⟩, .int .i64 0, .string ⟨#[]⟩, .int .i64 0, .int .i64 0, .int .i64 0, .int .i64 0] 24) ∧ w.heap.size ≤ R ∧ w.heap.size ≤ B) := ⟨HB.out.trans (hb2.mono HB.out.size), hr, by rw [HR.out.2]; omega, by rw [HR.out.1]; omega⟩
  have HO : Hid (∀ x : Value, (w2.setCell ⟨B, 5, none⟩ x).heap[R]? = some (.cells #[.string ⟨#[]⟩, .string ⟨#[]⟩, .int .i64 0, .string ⟨#[]⟩, .int .i64 0, .int .i64 0, .int .i64 0, .int .i64 0] 24)) := fun x => by
    simp only [World.setCell, Array.getElem?_modify]
    rw [if_neg hBR]
    exact hr
  clear hb2 hx hr
  have HF : Hid (f = (min qty (l.ordered - l.sent - l.cut))) := hf
  clear hf
  go_wp2
  obtain ⟨f0, f1, f2, f3, f4, f5, f6, f7⟩ := box8 (set8 (y0 := .string l.partner) (y1 := .string l.ref) (y2 := .int .i64 l.no) (y3 := .string l.item) (y4 := .int .i64 l.ordered) (y5 := .int .i64 (l.sent + (min qty (l.ordered - l.sent - l.cut)))) (y6 := .int .i64 l.got) (y7 := .int .i64 l.cut) (HO.out (.int .i64 (l.sent + (min qty (l.ordered - l.sent - l.cut))))))
  have hge := HE.out.2.2.1
  have hgB := HE.out.2.2.2
  rw [HF.out]
  exact bodyPost_ret (v := .tuple #[.agg #[.string l.partner, .string l.ref, .int .i64 l.no, .string l.item, .int .i64 l.ordered, .int .i64 (l.sent + (min qty (l.ordered - l.sent - l.cut))), .int .i64 l.got, .int .i64 l.cut], .int .i64 (min qty (l.ordered - l.sent - l.cut))]) (by simp [results, Try.results46, go_sem, f0, f1, f2, f3, f4, f5, f6, f7]) rfl ⟨rfl, (((((((((HE.out.1.setCell hgB _).setCell hge _).setCell hge _).setCell hge _).setCell hge _).setCell hge _).setCell hge _).setCell hge _).setCell hge _)⟩
set_option maxHeartbeats 4000000 in
theorem postGot_any (l : OLn) (hok : LnOk l) (qty : Int) (hq : 1 ≤ qty ∧ qty ≤ 1000000) (f : Int) (hf : f = fitZ qty (l.sent - l.got)) (w : World) :
    Calls Try.prog 47 #[.agg #[.string l.partner, .string l.ref, .int .i64 l.no, .string l.item, .int .i64 l.ordered, .int .i64 l.sent, .int .i64 l.got, .int .i64 l.cut], .int .i64 qty] w fun e w' => e = .returned (.tuple #[.agg #[.string l.partner, .string l.ref, .int .i64 l.no, .string l.item, .int .i64 l.ordered, .int .i64 l.sent, .int .i64 (l.got + f), .int .i64 l.cut], .int .i64 f]) ∧ Below w.heap.size w w' := by
  have k0 := hok.o1
  have k1 := hok.o2
  have k2 := hok.s0
  have k3 := hok.g0
  have k4 := hok.c0
  have k5 := hok.gs
  have k6 := hok.so
  have k7 := hok.co
  obtain ⟨hq1, hq2⟩ := hq
  have Q1 := transit_any l hok
  obtain ⟨W1, hW1⟩ : ∃ W1, (w.alloc (.cells #[.string l.partner, .string l.ref, .int .i64 l.no, .string l.item, .int .i64 l.ordered, .int .i64 l.sent, .int .i64 l.got, .int .i64 l.cut] 24)).alloc (.cells #[.string ⟨#[]⟩, .string ⟨#[]⟩, .int .i64 0, .string ⟨#[]⟩, .int .i64 0, .int .i64 0, .int .i64 0, .int .i64 0] 24) = W1 := ⟨_, rfl⟩
  have hb1 : Below w.heap.size w W1 := by rw [← hW1]; exact ((Below.refl _ _).alloc (Nat.le_refl _) _).alloc (by simp) _
  obtain ⟨i0, i1⟩ := fl_two w (.cells #[.string l.partner, .string l.ref, .int .i64 l.no, .string l.item, .int .i64 l.ordered, .int .i64 l.sent, .int .i64 l.got, .int .i64 l.cut] 24) (.cells #[.string ⟨#[]⟩, .string ⟨#[]⟩, .int .i64 0, .string ⟨#[]⟩, .int .i64 0, .int .i64 0, .int .i64 0, .int .i64 0] 24)
  rw [hW1] at i0 i1
  obtain ⟨B, hB⟩ : ∃ B, B = w.heap.size := ⟨_, rfl⟩
  obtain ⟨R, hR⟩ : ∃ R, R = w.heap.size + 1 := ⟨_, rfl⟩
  rw [← hB] at i0
  rw [← hR] at i1
  have HD : Hid (∀ W, Below W1.heap.size W1 W → W.heap[B]? = some (.cells #[.string l.partner, .string l.ref, .int .i64 l.no, .string l.item, .int .i64 l.ordered, .int .i64 l.sent, .int .i64 l.got, .int .i64 l.cut] 24) ∧ W.heap[R]? = some (.cells #[.string ⟨#[]⟩, .string ⟨#[]⟩, .int .i64 0, .string ⟨#[]⟩, .int .i64 0, .int .i64 0, .int .i64 0, .int .i64 0] 24)) := fun W hW => ⟨(hW.block _ (Array.getElem?_eq_some_iff.1 i0).1).trans i0, (hW.block _ (Array.getElem?_eq_some_iff.1 i1).1).trans i1⟩
  have HB : Hid (Below w.heap.size w W1) := hb1
  obtain ⟨c0, c1, c2, c3, c4, c5, c6, c7⟩ := box8 i0
  go_enter Try.func47, Try.ntmps47
  go_upto_region 1 with fail
  try rw [hW1]
  try rw [← hR]
  try rw [← hB]
  have HR : Hid (B = w.heap.size ∧ R = w.heap.size + 1) := ⟨hB, hR⟩
  have hBR : B ≠ R := by omega
  clear hW1 hb1 i0 i1 hB hR
  go_wp2_with fail
  refine (Q1 _).mono ?_
  rintro e w2 ⟨rfl, hb2⟩
  obtain ⟨hx, hr⟩ := HD.out w2 hb2
  clear c0 c1 c2 c3 c4 c5 c6 c7 Q1 hok
  obtain ⟨c0, c1, c2, c3, c4, c5, c6, c7⟩ := box8 hx
  obtain ⟨d0, d1, d2, d3, d4, d5, d6, d7⟩ := box8 hr
  have hfB : ∀ o, w2.frozen? ⟨B, o, none⟩ = false := fun o => by simp [World.frozen?, hx]
  have hfR : ∀ o, w2.frozen? ⟨R, o, none⟩ = false := fun o => by simp [World.frozen?, hr]
  have HE : Hid (Below w.heap.size w w2 ∧ w2.heap[R]? = some (.cells #[.string ⟨#[]⟩, .string ⟨#[]⟩, .int .i64 0, .string ⟨#[]⟩, .int .i64 0, .int .i64 0, .int .i64 0, .int .i64 0] 24) ∧ w.heap.size ≤ R ∧ w.heap.size ≤ B) := ⟨HB.out.trans (hb2.mono HB.out.size), hr, by rw [HR.out.2]; omega, by rw [HR.out.1]; omega⟩
  have HO : Hid (∀ x : Value, (w2.setCell ⟨B, 6, none⟩ x).heap[R]? = some (.cells #[.string ⟨#[]⟩, .string ⟨#[]⟩, .int .i64 0, .string ⟨#[]⟩, .int .i64 0, .int .i64 0, .int .i64 0, .int .i64 0] 24)) := fun x => by
    simp only [World.setCell, Array.getElem?_modify]
    rw [if_neg hBR]
    exact hr
  clear hb2 hx hr
  have HF : Hid (f = (min qty (l.sent - l.got))) := hf
  clear hf
  go_wp2
  obtain ⟨f0, f1, f2, f3, f4, f5, f6, f7⟩ := box8 (set8 (y0 := .string l.partner) (y1 := .string l.ref) (y2 := .int .i64 l.no) (y3 := .string l.item) (y4 := .int .i64 l.ordered) (y5 := .int .i64 l.sent) (y6 := .int .i64 (l.got + (min qty (l.sent - l.got)))) (y7 := .int .i64 l.cut) (HO.out (.int .i64 (l.got + (min qty (l.sent - l.got))))))
  have hge := HE.out.2.2.1
  have hgB := HE.out.2.2.2
  rw [HF.out]
  exact bodyPost_ret (v := .tuple #[.agg #[.string l.partner, .string l.ref, .int .i64 l.no, .string l.item, .int .i64 l.ordered, .int .i64 l.sent, .int .i64 (l.got + (min qty (l.sent - l.got))), .int .i64 l.cut], .int .i64 (min qty (l.sent - l.got))]) (by simp [results, Try.results47, go_sem, f0, f1, f2, f3, f4, f5, f6, f7]) rfl ⟨rfl, (((((((((HE.out.1.setCell hgB _).setCell hge _).setCell hge _).setCell hge _).setCell hge _).setCell hge _).setCell hge _).setCell hge _).setCell hge _)⟩
end Go.Proofs.Ytnfidhfhmfggcaa
