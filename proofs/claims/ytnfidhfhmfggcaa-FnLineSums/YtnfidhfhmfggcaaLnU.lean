/- Contract of the program's LinePost. -/
import Derived.Test.YtnfidhfhmfggcaaLnT
import Derived.Laws.EntriesVeiled
import Derived.Deep.DeepMust
import Derived.Deep.RegionLaw
import Derived.Deep.Cut
import Derived.Deep.CutRange
namespace Go.Proofs.Ytnfidhfhmfggcaa
open Go.ChangeShapes Go.WideShapes Go.ChangeAt Go.RowKit
theorem box11 {W : World} {b t : Nat} {x0 x1 x2 x3 x4 x5 x6 x7 x8 x9 x10 : Value} (h : W.heap[b]? = some (.cells #[x0, x1, x2, x3, x4, x5, x6, x7, x8, x9, x10] t)) : W.cell? ⟨b, 0, none⟩ = some x0 ∧ W.cell? ⟨b, 1, none⟩ = some x1 ∧ W.cell? ⟨b, 2, none⟩ = some x2 ∧ W.cell? ⟨b, 3, none⟩ = some x3 ∧ W.cell? ⟨b, 4, none⟩ = some x4 ∧ W.cell? ⟨b, 5, none⟩ = some x5 ∧ W.cell? ⟨b, 6, none⟩ = some x6 ∧ W.cell? ⟨b, 7, none⟩ = some x7 ∧ W.cell? ⟨b, 8, none⟩ = some x8 ∧ W.cell? ⟨b, 9, none⟩ = some x9 ∧ W.cell? ⟨b, 10, none⟩ = some x10 := by
  refine ⟨?_, ?_, ?_, ?_, ?_, ?_, ?_, ?_, ?_, ?_, ?_⟩ <;> simp [World.cell?, h]
theorem set11 {W : World} {b t : Nat} {x0 x1 x2 x3 x4 x5 x6 x7 x8 x9 x10 y0 y1 y2 y3 y4 y5 y6 y7 y8 y9 y10 : Value} (h : W.heap[b]? = some (.cells #[x0, x1, x2, x3, x4, x5, x6, x7, x8, x9, x10] t)) :
    (((((((((((W.setCell ⟨b, 0, none⟩ y0).setCell ⟨b, 1, none⟩ y1).setCell ⟨b, 2, none⟩ y2).setCell ⟨b, 3, none⟩ y3).setCell ⟨b, 4, none⟩ y4).setCell ⟨b, 5, none⟩ y5).setCell ⟨b, 6, none⟩ y6).setCell ⟨b, 7, none⟩ y7).setCell ⟨b, 8, none⟩ y8).setCell ⟨b, 9, none⟩ y9).setCell ⟨b, 10, none⟩ y10).heap[b]? = some (.cells #[y0, y1, y2, y3, y4, y5, y6, y7, y8, y9, y10] t) := by
  simp [World.setCell, Array.getElem?_modify, h]
theorem unallocL {a b : World} {o : Obj} (h : Below (a.alloc o).heap.size (a.alloc o) b) : Below a.heap.size a b := ((Below.refl _ _).alloc (Nat.le_refl _) _).trans (h.mono (by simp))
theorem boxNewL {a b : World} {o : Obj} (h : Below (a.alloc o).drew.heap.size (a.alloc o).drew b) : b.heap[a.heap.size]? = some o := (h.block a.heap.size (by show a.heap.size < (a.alloc o).heap.size; simp)).trans (World.alloc_heap_new a o)
theorem setB8 {n P : Nat} {a W : World} {y0 y1 y2 y3 y4 y5 y6 y7 : Value} (h : Below n a W) (hP : n ≤ P) : Below n a ((((((((W.setCell ⟨P, 0, none⟩ y0).setCell ⟨P, 1, none⟩ y1).setCell ⟨P, 2, none⟩ y2).setCell ⟨P, 3, none⟩ y3).setCell ⟨P, 4, none⟩ y4).setCell ⟨P, 5, none⟩ y5).setCell ⟨P, 6, none⟩ y6).setCell ⟨P, 7, none⟩ y7) := ((((((((h.setCell hP _).setCell hP _).setCell hP _).setCell hP _).setCell hP _).setCell hP _).setCell hP _).setCell hP _)
theorem boxNewM {a b : World} {o : Obj} (h : Below (a.alloc o).heap.size (a.alloc o) b) : b.heap[a.heap.size]? = some o := (h.block a.heap.size (by simp)).trans (World.alloc_heap_new a o)
theorem frozeL {W : World} {P t : Nat} {cs : Array Value} (h : W.heap[P]? = some (.cells cs t)) : ∀ o, W.frozen? ⟨P, o, none⟩ = false := fun o => by simp [World.frozen?, h]
theorem postingOf1 (w : World) : Calls Try.prog 30 #[.int .i64 1] w fun e w' => e = .returned (.func (.func 45) #[] #[]) ∧ Below w.heap.size w w' := by
  go_enter Try.func30, Try.ntmps30
  go_wp2
  go_ret
  exact ⟨rfl, (Below.refl _ _).alloc (Nat.le_refl _) _⟩
theorem postingOf2 (w : World) : Calls Try.prog 30 #[.int .i64 2] w fun e w' => e = .returned (.func (.func 46) #[] #[]) ∧ Below w.heap.size w w' := by
  go_enter Try.func30, Try.ntmps30
  go_wp2
  go_ret
  exact ⟨rfl, (Below.refl _ _).alloc (Nat.le_refl _) _⟩
theorem postingOf3 (w : World) : Calls Try.prog 30 #[.int .i64 3] w fun e w' => e = .returned (.func (.func 47) #[] #[]) ∧ Below w.heap.size w w' := by
  go_enter Try.func30, Try.ntmps30
  go_wp2
  go_ret
  exact ⟨rfl, (Below.refl _ _).alloc (Nat.le_refl _) _⟩
set_option maxHeartbeats 8000000 in
theorem linePost_impl (l : OLn) (kind qty : Int) (w : World) :
    Calls Try.prog 7 #[.agg #[.string l.partner, .string l.ref, .int .i64 l.no, .string l.item, .int .i64 l.ordered, .int .i64 l.sent, .int .i64 l.got, .int .i64 l.cut], .int .i64 kind, .int .i64 qty] w fun e w' => e = .returned (.agg #[.string (postT l kind qty).line.partner, .string (postT l kind qty).line.ref, .int .i64 (postT l kind qty).line.no, .string (postT l kind qty).line.item, .int .i64 (postT l kind qty).line.ordered, .int .i64 (postT l kind qty).line.sent, .int .i64 (postT l kind qty).line.got, .int .i64 (postT l kind qty).line.cut, .int .i64 (postT l kind qty).fit, .int .i64 (postT l kind qty).over, .int .i64 (postT l kind qty).code]) ∧ Below w.heap.size w w' := by
  obtain ⟨p, hp⟩ : ∃ p, p = postT l kind qty := ⟨_, rfl⟩
  rw [← hp]
  have HP : Hid (p = postT l kind qty) := hp
  clear hp
  have Q1 := lineRight_impl l
  have Q2 := isPost_any kind
  have Q3 := isQuantity_any qty
  obtain ⟨x, hx⟩ : ∃ x, x = lnB l := ⟨_, rfl⟩
  rw [← hx] at Q1
  have HX : Hid (x = lnB l) := hx
  clear hx
  obtain ⟨W1, hW1⟩ : ∃ W1, (w.alloc (.cells #[.string l.partner, .string l.ref, .int .i64 l.no, .string l.item, .int .i64 l.ordered, .int .i64 l.sent, .int .i64 l.got, .int .i64 l.cut] 24)).alloc (.cells #[.string ⟨#[]⟩, .string ⟨#[]⟩, .int .i64 0, .string ⟨#[]⟩, .int .i64 0, .int .i64 0, .int .i64 0, .int .i64 0, .int .i64 0, .int .i64 0, .int .i64 0] 28) = W1 := ⟨_, rfl⟩
  have hb1 : Below w.heap.size w W1 := by rw [← hW1]; exact ((Below.refl _ _).alloc (Nat.le_refl _) _).alloc (by simp) _
  obtain ⟨i0, i1⟩ := fl_two w (.cells #[.string l.partner, .string l.ref, .int .i64 l.no, .string l.item, .int .i64 l.ordered, .int .i64 l.sent, .int .i64 l.got, .int .i64 l.cut] 24) (.cells #[.string ⟨#[]⟩, .string ⟨#[]⟩, .int .i64 0, .string ⟨#[]⟩, .int .i64 0, .int .i64 0, .int .i64 0, .int .i64 0, .int .i64 0, .int .i64 0, .int .i64 0] 28)
  rw [hW1] at i0 i1
  obtain ⟨B, hB⟩ : ∃ B, B = w.heap.size := ⟨_, rfl⟩
  obtain ⟨R, hR⟩ : ∃ R, R = w.heap.size + 1 := ⟨_, rfl⟩
  rw [← hB] at i0
  rw [← hR] at i1
  have HD : Hid (∀ W, Below W1.heap.size W1 W → W.heap[B]? = some (.cells #[.string l.partner, .string l.ref, .int .i64 l.no, .string l.item, .int .i64 l.ordered, .int .i64 l.sent, .int .i64 l.got, .int .i64 l.cut] 24) ∧ W.heap[R]? = some (.cells #[.string ⟨#[]⟩, .string ⟨#[]⟩, .int .i64 0, .string ⟨#[]⟩, .int .i64 0, .int .i64 0, .int .i64 0, .int .i64 0, .int .i64 0, .int .i64 0, .int .i64 0] 28)) := fun W hW => ⟨(hW.block _ (Array.getElem?_eq_some_iff.1 i0).1).trans i0, (hW.block _ (Array.getElem?_eq_some_iff.1 i1).1).trans i1⟩
  have HB : Hid (Below w.heap.size w W1) := hb1
  obtain ⟨c0, c1, c2, c3, c4, c5, c6, c7⟩ := box8 i0
  go_enter Try.func7, Try.ntmps7
  go_upto_region 1 with fail
  try rw [hW1]
  try rw [← hR]
  try rw [← hB]
  have HR : Hid (B = w.heap.size ∧ R = w.heap.size + 1) := ⟨hB, hR⟩
  have hge : w.heap.size ≤ R := by omega
  clear hW1 hb1 i0 i1 hB hR
  go_wp2_with fail
  refine (Q1 _).mono ?_
  rintro e w2 ⟨rfl, hb2⟩
  obtain ⟨hx, hr⟩ := HD.out w2 hb2
  clear c0 c1 c2 c3 c4 c5 c6 c7 Q1
  have HE : Hid (Below w.heap.size w w2 ∧ Below W1.heap.size W1 w2) := ⟨HB.out.trans (hb2.mono HB.out.size), hb2⟩
  have HT : Hid (w2.heap[R]? = some (.cells #[.string ⟨#[]⟩, .string ⟨#[]⟩, .int .i64 0, .string ⟨#[]⟩, .int .i64 0, .int .i64 0, .int .i64 0, .int .i64 0, .int .i64 0, .int .i64 0, .int .i64 0] 28)) := hr
  have hfR : ∀ o, w2.frozen? ⟨R, o, none⟩ = false := fun o => by simp [World.frozen?, hr]
  obtain ⟨c0, c1, c2, c3, c4, c5, c6, c7⟩ := box8 hx
  obtain ⟨d0, d1, d2, d3, d4, d5, d6, d7, d8, d9, d10⟩ := box11 hr
  clear hb2 hx hr
  cases x with
  | false =>
    have HN : Hid (p = ⟨zeroL, 0, 0, 1⟩) := by rw [HP.out]; exact postT_no fun h => by have h1 := HX.out; rw [lnB_yes h.ok] at h1; cases h1
    go_wp2_with (first | (go_at_call 28; refine (Q2 _).mono ?_; rintro e w' ⟨rfl, rfl⟩) | (go_at_call 29; refine (Q3 _).mono ?_; rintro e w' ⟨rfl, rfl⟩))
    obtain ⟨f0, f1, f2, f3, f4, f5, f6, f7, f8, f9, f10⟩ := box11 (set11 (y0 := .string ⟨#[]⟩) (y1 := .string ⟨#[]⟩) (y2 := .int .i64 0) (y3 := .string ⟨#[]⟩) (y4 := .int .i64 0) (y5 := .int .i64 0) (y6 := .int .i64 0) (y7 := .int .i64 0) (y8 := .int .i64 0) (y9 := .int .i64 0) (y10 := .int .i64 1) HT.out)
    rw [HN.out]
    exact bodyPost_ret (v := .agg #[.string ⟨#[]⟩, .string ⟨#[]⟩, .int .i64 0, .string ⟨#[]⟩, .int .i64 0, .int .i64 0, .int .i64 0, .int .i64 0, .int .i64 0, .int .i64 0, .int .i64 1]) (by simp [results, Try.results7, go_sem, f0, f1, f2, f3, f4, f5, f6, f7, f8, f9, f10]) rfl ⟨rfl, (((((((((((HE.out.1.setCell hge _).setCell hge _).setCell hge _).setCell hge _).setCell hge _).setCell hge _).setCell hge _).setCell hge _).setCell hge _).setCell hge _).setCell hge _)⟩
  | true =>
    have hok : LnOk l := lnB_iff.1 HX.out.symm
    by_cases hk : 1 ≤ kind ∧ kind ≤ 3
    case neg =>
      rw [kindB_no hk] at Q2
      clear hok
      have HN : Hid (p = ⟨zeroL, 0, 0, 1⟩) := by rw [HP.out]; exact postT_no fun h => hk ⟨h.k1, h.k3⟩
      go_wp2_with (first | (go_at_call 28; refine (Q2 _).mono ?_; rintro e w' ⟨rfl, rfl⟩) | (go_at_call 29; refine (Q3 _).mono ?_; rintro e w' ⟨rfl, rfl⟩))
      obtain ⟨f0, f1, f2, f3, f4, f5, f6, f7, f8, f9, f10⟩ := box11 (set11 (y0 := .string ⟨#[]⟩) (y1 := .string ⟨#[]⟩) (y2 := .int .i64 0) (y3 := .string ⟨#[]⟩) (y4 := .int .i64 0) (y5 := .int .i64 0) (y6 := .int .i64 0) (y7 := .int .i64 0) (y8 := .int .i64 0) (y9 := .int .i64 0) (y10 := .int .i64 1) HT.out)
      rw [HN.out]
      exact bodyPost_ret (v := .agg #[.string ⟨#[]⟩, .string ⟨#[]⟩, .int .i64 0, .string ⟨#[]⟩, .int .i64 0, .int .i64 0, .int .i64 0, .int .i64 0, .int .i64 0, .int .i64 0, .int .i64 1]) (by simp [results, Try.results7, go_sem, f0, f1, f2, f3, f4, f5, f6, f7, f8, f9, f10]) rfl ⟨rfl, (((((((((((HE.out.1.setCell hge _).setCell hge _).setCell hge _).setCell hge _).setCell hge _).setCell hge _).setCell hge _).setCell hge _).setCell hge _).setCell hge _).setCell hge _)⟩
    rw [kindB_yes hk] at Q2
    by_cases hq : 1 ≤ qty ∧ qty ≤ 1000000
    case neg =>
      rw [qtyB_no hq] at Q3
      clear hok hk
      have HN : Hid (p = ⟨zeroL, 0, 0, 1⟩) := by rw [HP.out]; exact postT_no fun h => hq h.q
      go_wp2_with (first | (go_at_call 28; refine (Q2 _).mono ?_; rintro e w' ⟨rfl, rfl⟩) | (go_at_call 29; refine (Q3 _).mono ?_; rintro e w' ⟨rfl, rfl⟩))
      obtain ⟨f0, f1, f2, f3, f4, f5, f6, f7, f8, f9, f10⟩ := box11 (set11 (y0 := .string ⟨#[]⟩) (y1 := .string ⟨#[]⟩) (y2 := .int .i64 0) (y3 := .string ⟨#[]⟩) (y4 := .int .i64 0) (y5 := .int .i64 0) (y6 := .int .i64 0) (y7 := .int .i64 0) (y8 := .int .i64 0) (y9 := .int .i64 0) (y10 := .int .i64 1) HT.out)
      rw [HN.out]
      exact bodyPost_ret (v := .agg #[.string ⟨#[]⟩, .string ⟨#[]⟩, .int .i64 0, .string ⟨#[]⟩, .int .i64 0, .int .i64 0, .int .i64 0, .int .i64 0, .int .i64 0, .int .i64 0, .int .i64 1]) (by simp [results, Try.results7, go_sem, f0, f1, f2, f3, f4, f5, f6, f7, f8, f9, f10]) rfl ⟨rfl, (((((((((((HE.out.1.setCell hge _).setCell hge _).setCell hge _).setCell hge _).setCell hge _).setCell hge _).setCell hge _).setCell hge _).setCell hge _).setCell hge _).setCell hge _)⟩
    rw [qtyB_yes hq] at Q3
    have HN : Hid (p = ⟨aftT l kind (fitZ qty (mostT l kind)), fitZ qty (mostT l kind), qty - fitZ qty (mostT l kind), 0⟩) := by rw [HP.out]; exact postT_yes ⟨hok, hk.1, hk.2, hq⟩
    have k0 := hok.o1
    have k1 := hok.o2
    have k2 := hok.s0
    have k3 := hok.g0
    have k4 := hok.c0
    have k5 := hok.gs
    have k6 := hok.so
    have k7 := hok.co
    have hz : l.partner.size ≤ 281474976710656 ∧ l.ref.size ≤ 281474976710656 ∧ l.item.size ≤ 281474976710656 := by
      have h1 := nameB_sizes hok.p
      have h2 := nameB_sizes hok.r
      have h3 := nameB_sizes hok.i
      omega
    have Q4 := copyOl_any l
    have HK : Hid (∀ W, Below W1.heap.size W1 W → W.cell? ⟨B, 0, none⟩ = some (.string l.partner) ∧ W.cell? ⟨B, 1, none⟩ = some (.string l.ref) ∧ W.cell? ⟨B, 2, none⟩ = some (.int .i64 l.no) ∧ W.cell? ⟨B, 3, none⟩ = some (.string l.item) ∧ W.cell? ⟨B, 4, none⟩ = some (.int .i64 l.ordered) ∧ W.cell? ⟨B, 5, none⟩ = some (.int .i64 l.sent) ∧ W.cell? ⟨B, 6, none⟩ = some (.int .i64 l.got) ∧ W.cell? ⟨B, 7, none⟩ = some (.int .i64 l.cut)) := fun W hW => box8 (HD.out W hW).1
    have l0 := cell_lt c0
    clear HP HX
    obtain ⟨hq1, hq2⟩ := hq
    obtain rfl | rfl | rfl : kind = 1 ∨ kind = 2 ∨ kind = 3 := by omega
    · obtain ⟨f, hf⟩ : ∃ f, f = fitZ qty (l.ordered - l.sent - l.cut) := ⟨_, rfl⟩
      have hf0 : 0 ≤ f ∧ f ≤ 1000000 := by rw [hf]; unfold fitZ; omega
      obtain ⟨hf1, hf2⟩ := hf0
      have Q5 := postCut_any l hok qty ⟨hq1, hq2⟩ f hf
      have Q6 := postingOf1
      have HM : Hid (p = ⟨⟨l.partner, l.ref, l.no, l.item, l.ordered, l.sent, l.got, l.cut + f⟩, f, qty - f, 0⟩) := by show p = _; rw [HN.out, hf]; rfl
      clear HN hf hk hok
      go_upto_region 3 with (first | (go_at_call 28; refine (Q2 _).mono ?_; rintro e w2 ⟨rfl, rfl⟩) | (go_at_call 29; refine (Q3 _).mono ?_; rintro e w2 ⟨rfl, rfl⟩))
      have qn0 : B ≠ w2.heap.size := Nat.ne_of_lt (cell_lt c0)
      have qm0 : w2.heap.size ≠ B := Ne.symm qn0
      go_cut [7, 8] from 23 to 31 (fun s7 s8 wx => ∃ P, s7 = .pointer (some ⟨P, 0, none⟩) ∧ s8 = .int .i64 f ∧ wx.heap[P]? = some (.cells #[.string l.partner, .string l.ref, .int .i64 l.no, .string l.item, .int .i64 l.ordered, .int .i64 l.sent, .int .i64 l.got, .int .i64 (l.cut + f)] 24) ∧ Below W1.heap.size W1 wx)
      case first =>
        go_region_held3 (fun W => W.cell? ⟨B, 0, none⟩ = some (.string l.partner) ∧ W.cell? ⟨B, 1, none⟩ = some (.string l.ref) ∧ W.cell? ⟨B, 2, none⟩ = some (.int .i64 l.no) ∧ W.cell? ⟨B, 3, none⟩ = some (.string l.item) ∧ W.cell? ⟨B, 4, none⟩ = some (.int .i64 l.ordered) ∧ W.cell? ⟨B, 5, none⟩ = some (.int .i64 l.sent) ∧ W.cell? ⟨B, 6, none⟩ = some (.int .i64 l.got) ∧ W.cell? ⟨B, 7, none⟩ = some (.int .i64 l.cut)) (go_keep) (first | (go_at_call 30; refine (Q6 _).mono ?_; rintro e wa ⟨rfl, hba⟩; have ba : Below W1.heap.size W1 wa := (HE.out.2).trans (((by with_reducible first | exact hba | exact undrewL hba | exact unallocL hba | exact unallocL (undrewL hba)) : Below w2.heap.size w2 wa).mono (HE.out.2).size); obtain ⟨a0, a1, a2, a3, a4, a5, a6, a7⟩ := HK.out wa ba; obtain ⟨aa0, aa1, aa2, aa3, aa4, aa5, aa6, aa7⟩ := HK.out wa.drew ba.drew; obtain ⟨aaa0, aaa1, aaa2, aaa3, aaa4, aaa5, aaa6, aaa7⟩ := HK.out (wa.alloc (.cells #[.string ⟨#[]⟩, .string ⟨#[]⟩, .int .i64 0, .string ⟨#[]⟩, .int .i64 0, .int .i64 0, .int .i64 0, .int .i64 0] 24)) (ba.alloc ba.size _); have qn1 : B ≠ wa.heap.size := Nat.ne_of_lt (cell_lt a0); have qm1 : wa.heap.size ≠ B := Ne.symm qn1; (try (with_reducible have kx1 := boxNewL hba)); (try (with_reducible have kx1 := boxNewM hba)); (try clear hba); try dsimp only) | (go_at_call 31; refine (Q4 _ hz).mono ?_; rintro e wb ⟨rfl, hbb⟩; have bb : Below W1.heap.size W1 wb := (ba).trans (((by with_reducible first | exact hbb | exact undrewL hbb | exact unallocL hbb | exact unallocL (undrewL hbb)) : Below wa.heap.size wa wb).mono (ba).size); obtain ⟨b0, b1, b2, b3, b4, b5, b6, b7⟩ := HK.out wb bb; obtain ⟨bb0, bb1, bb2, bb3, bb4, bb5, bb6, bb7⟩ := HK.out wb.drew bb.drew; obtain ⟨bbb0, bbb1, bbb2, bbb3, bbb4, bbb5, bbb6, bbb7⟩ := HK.out (wb.alloc (.cells #[.string ⟨#[]⟩, .string ⟨#[]⟩, .int .i64 0, .string ⟨#[]⟩, .int .i64 0, .int .i64 0, .int .i64 0, .int .i64 0] 24)) (bb.alloc bb.size _); have qn2 : B ≠ wb.heap.size := Nat.ne_of_lt (cell_lt b0); have qm2 : wb.heap.size ≠ B := Ne.symm qn2; (try (have kx2 := (((by with_reducible first | exact hbb | exact undrewL hbb | exact unallocL hbb | exact unallocL (undrewL hbb)) : Below wa.heap.size wa wb).block _ (Array.getElem?_eq_some_iff.1 kx1).1).trans kx1)); (try (with_reducible have kx2 := boxNewL hbb)); (try (with_reducible have kx2 := boxNewM hbb)); (try clear hbb); try dsimp only) | (go_at_call 45; refine (Q5 _).mono ?_; rintro e wc ⟨rfl, hbc⟩; have bc : Below W1.heap.size W1 wc := (bb).trans (((by with_reducible first | exact hbc | exact undrewL hbc | exact unallocL hbc | exact unallocL (undrewL hbc)) : Below wb.heap.size wb wc).mono (bb).size); obtain ⟨c0, c1, c2, c3, c4, c5, c6, c7⟩ := HK.out wc bc; obtain ⟨cc0, cc1, cc2, cc3, cc4, cc5, cc6, cc7⟩ := HK.out wc.drew bc.drew; obtain ⟨ccc0, ccc1, ccc2, ccc3, ccc4, ccc5, ccc6, ccc7⟩ := HK.out (wc.alloc (.cells #[.string ⟨#[]⟩, .string ⟨#[]⟩, .int .i64 0, .string ⟨#[]⟩, .int .i64 0, .int .i64 0, .int .i64 0, .int .i64 0] 24)) (bc.alloc bc.size _); have qn3 : B ≠ wc.heap.size := Nat.ne_of_lt (cell_lt c0); have qm3 : wc.heap.size ≠ B := Ne.symm qn3; (try (have kx3 := (((by with_reducible first | exact hbc | exact undrewL hbc | exact unallocL hbc | exact unallocL (undrewL hbc)) : Below wb.heap.size wb wc).block _ (Array.getElem?_eq_some_iff.1 kx2).1).trans kx2)); (try (with_reducible have kx3 := boxNewL hbc)); (try (with_reducible have kx3 := boxNewM hbc)); (try (have kk := box8 kx3; obtain ⟨n0, n1, n2, n3, n4, n5, n6, n7⟩ := kk; have hfz := frozeL kx3)); (try clear hbc); try dsimp only))
        all_goals rename_i hHeld
        all_goals clear hHeld
        all_goals go_wp2_with fail
        all_goals go_meet
        · exact ⟨_, rfl, rfl, World.alloc_heap_new _ _, bc.alloc bc.size _⟩
        · exact ⟨_, rfl, rfl, set8 kx3, setB8 bc bb.size⟩
        · exact ⟨_, rfl, rfl, set8 kx3, setB8 bc ba.size⟩
        · exact ⟨_, rfl, rfl, set8 kx3, setB8 bc HE.out.2.size⟩
      case rest =>
        obtain ⟨P, rfl, rfl, hP, hb⟩ := hcut
        rename World => wx
        obtain ⟨g0, g1, g2, g3, g4, g5, g6, g7⟩ := box8 hP
        obtain ⟨_, hr⟩ := HD.out wx hb
        obtain ⟨h0, h1, h2, h3, h4, h5, h6, h7, h8, h9, h10⟩ := box11 hr
        have hfx : ∀ o, wx.frozen? ⟨R, o, none⟩ = false := fun o => by simp [World.frozen?, hr]
        have HG : Hid (wx.heap[R]? = some (.cells #[.string ⟨#[]⟩, .string ⟨#[]⟩, .int .i64 0, .string ⟨#[]⟩, .int .i64 0, .int .i64 0, .int .i64 0, .int .i64 0, .int .i64 0, .int .i64 0, .int .i64 0] 28) ∧ Below w.heap.size w wx) := ⟨hr, HB.out.trans (hb.mono HB.out.size)⟩
        clear hP hb hr HE HT c0 c1 c2 c3 c4 c5 c6 c7 d0 d1 d2 d3 d4 d5 d6 d7 d8 d9 d10 hfR Q2 Q3 Q4 Q5 Q6 qn0 qm0
        go_wp2
        obtain ⟨f0, f1, f2, f3, f4, f5, f6, f7, f8, f9, f10⟩ := box11 (set11 (y0 := .string l.partner) (y1 := .string l.ref) (y2 := .int .i64 l.no) (y3 := .string l.item) (y4 := .int .i64 l.ordered) (y5 := .int .i64 l.sent) (y6 := .int .i64 l.got) (y7 := .int .i64 (l.cut + f)) (y8 := .int .i64 f) (y9 := .int .i64 (qty - f)) (y10 := .int .i64 0) HG.out.1)
        rw [HM.out]
        exact bodyPost_ret (v := .agg #[.string l.partner, .string l.ref, .int .i64 l.no, .string l.item, .int .i64 l.ordered, .int .i64 l.sent, .int .i64 l.got, .int .i64 (l.cut + f), .int .i64 f, .int .i64 (qty - f), .int .i64 0]) (by simp [results, Try.results7, go_sem, f0, f1, f2, f3, f4, f5, f6, f7, f8, f9, f10]) rfl ⟨rfl, (((((((((((HG.out.2.setCell hge _).setCell hge _).setCell hge _).setCell hge _).setCell hge _).setCell hge _).setCell hge _).setCell hge _).setCell hge _).setCell hge _).setCell hge _)⟩
    · obtain ⟨f, hf⟩ : ∃ f, f = fitZ qty (l.ordered - l.sent - l.cut) := ⟨_, rfl⟩
      have hf0 : 0 ≤ f ∧ f ≤ 1000000 := by rw [hf]; unfold fitZ; omega
      obtain ⟨hf1, hf2⟩ := hf0
      have Q5 := postSent_any l hok qty ⟨hq1, hq2⟩ f hf
      have Q6 := postingOf2
      have HM : Hid (p = ⟨⟨l.partner, l.ref, l.no, l.item, l.ordered, l.sent + f, l.got, l.cut⟩, f, qty - f, 0⟩) := by show p = _; rw [HN.out, hf]; rfl
      clear HN hf hk hok
      go_upto_region 3 with (first | (go_at_call 28; refine (Q2 _).mono ?_; rintro e w2 ⟨rfl, rfl⟩) | (go_at_call 29; refine (Q3 _).mono ?_; rintro e w2 ⟨rfl, rfl⟩))
      have qn0 : B ≠ w2.heap.size := Nat.ne_of_lt (cell_lt c0)
      have qm0 : w2.heap.size ≠ B := Ne.symm qn0
      go_cut [7, 8] from 23 to 31 (fun s7 s8 wx => ∃ P, s7 = .pointer (some ⟨P, 0, none⟩) ∧ s8 = .int .i64 f ∧ wx.heap[P]? = some (.cells #[.string l.partner, .string l.ref, .int .i64 l.no, .string l.item, .int .i64 l.ordered, .int .i64 (l.sent + f), .int .i64 l.got, .int .i64 l.cut] 24) ∧ Below W1.heap.size W1 wx)
      case first =>
        go_region_held3 (fun W => W.cell? ⟨B, 0, none⟩ = some (.string l.partner) ∧ W.cell? ⟨B, 1, none⟩ = some (.string l.ref) ∧ W.cell? ⟨B, 2, none⟩ = some (.int .i64 l.no) ∧ W.cell? ⟨B, 3, none⟩ = some (.string l.item) ∧ W.cell? ⟨B, 4, none⟩ = some (.int .i64 l.ordered) ∧ W.cell? ⟨B, 5, none⟩ = some (.int .i64 l.sent) ∧ W.cell? ⟨B, 6, none⟩ = some (.int .i64 l.got) ∧ W.cell? ⟨B, 7, none⟩ = some (.int .i64 l.cut)) (go_keep) (first | (go_at_call 30; refine (Q6 _).mono ?_; rintro e wa ⟨rfl, hba⟩; have ba : Below W1.heap.size W1 wa := (HE.out.2).trans (((by with_reducible first | exact hba | exact undrewL hba | exact unallocL hba | exact unallocL (undrewL hba)) : Below w2.heap.size w2 wa).mono (HE.out.2).size); obtain ⟨a0, a1, a2, a3, a4, a5, a6, a7⟩ := HK.out wa ba; obtain ⟨aa0, aa1, aa2, aa3, aa4, aa5, aa6, aa7⟩ := HK.out wa.drew ba.drew; obtain ⟨aaa0, aaa1, aaa2, aaa3, aaa4, aaa5, aaa6, aaa7⟩ := HK.out (wa.alloc (.cells #[.string ⟨#[]⟩, .string ⟨#[]⟩, .int .i64 0, .string ⟨#[]⟩, .int .i64 0, .int .i64 0, .int .i64 0, .int .i64 0] 24)) (ba.alloc ba.size _); have qn1 : B ≠ wa.heap.size := Nat.ne_of_lt (cell_lt a0); have qm1 : wa.heap.size ≠ B := Ne.symm qn1; (try (with_reducible have kx1 := boxNewL hba)); (try (with_reducible have kx1 := boxNewM hba)); (try clear hba); try dsimp only) | (go_at_call 31; refine (Q4 _ hz).mono ?_; rintro e wb ⟨rfl, hbb⟩; have bb : Below W1.heap.size W1 wb := (ba).trans (((by with_reducible first | exact hbb | exact undrewL hbb | exact unallocL hbb | exact unallocL (undrewL hbb)) : Below wa.heap.size wa wb).mono (ba).size); obtain ⟨b0, b1, b2, b3, b4, b5, b6, b7⟩ := HK.out wb bb; obtain ⟨bb0, bb1, bb2, bb3, bb4, bb5, bb6, bb7⟩ := HK.out wb.drew bb.drew; obtain ⟨bbb0, bbb1, bbb2, bbb3, bbb4, bbb5, bbb6, bbb7⟩ := HK.out (wb.alloc (.cells #[.string ⟨#[]⟩, .string ⟨#[]⟩, .int .i64 0, .string ⟨#[]⟩, .int .i64 0, .int .i64 0, .int .i64 0, .int .i64 0] 24)) (bb.alloc bb.size _); have qn2 : B ≠ wb.heap.size := Nat.ne_of_lt (cell_lt b0); have qm2 : wb.heap.size ≠ B := Ne.symm qn2; (try (have kx2 := (((by with_reducible first | exact hbb | exact undrewL hbb | exact unallocL hbb | exact unallocL (undrewL hbb)) : Below wa.heap.size wa wb).block _ (Array.getElem?_eq_some_iff.1 kx1).1).trans kx1)); (try (with_reducible have kx2 := boxNewL hbb)); (try (with_reducible have kx2 := boxNewM hbb)); (try clear hbb); try dsimp only) | (go_at_call 46; refine (Q5 _).mono ?_; rintro e wc ⟨rfl, hbc⟩; have bc : Below W1.heap.size W1 wc := (bb).trans (((by with_reducible first | exact hbc | exact undrewL hbc | exact unallocL hbc | exact unallocL (undrewL hbc)) : Below wb.heap.size wb wc).mono (bb).size); obtain ⟨c0, c1, c2, c3, c4, c5, c6, c7⟩ := HK.out wc bc; obtain ⟨cc0, cc1, cc2, cc3, cc4, cc5, cc6, cc7⟩ := HK.out wc.drew bc.drew; obtain ⟨ccc0, ccc1, ccc2, ccc3, ccc4, ccc5, ccc6, ccc7⟩ := HK.out (wc.alloc (.cells #[.string ⟨#[]⟩, .string ⟨#[]⟩, .int .i64 0, .string ⟨#[]⟩, .int .i64 0, .int .i64 0, .int .i64 0, .int .i64 0] 24)) (bc.alloc bc.size _); have qn3 : B ≠ wc.heap.size := Nat.ne_of_lt (cell_lt c0); have qm3 : wc.heap.size ≠ B := Ne.symm qn3; (try (have kx3 := (((by with_reducible first | exact hbc | exact undrewL hbc | exact unallocL hbc | exact unallocL (undrewL hbc)) : Below wb.heap.size wb wc).block _ (Array.getElem?_eq_some_iff.1 kx2).1).trans kx2)); (try (with_reducible have kx3 := boxNewL hbc)); (try (with_reducible have kx3 := boxNewM hbc)); (try (have kk := box8 kx3; obtain ⟨n0, n1, n2, n3, n4, n5, n6, n7⟩ := kk; have hfz := frozeL kx3)); (try clear hbc); try dsimp only))
        all_goals rename_i hHeld
        all_goals clear hHeld
        all_goals go_wp2_with fail
        all_goals go_meet
        · exact ⟨_, rfl, rfl, World.alloc_heap_new _ _, bc.alloc bc.size _⟩
        · exact ⟨_, rfl, rfl, set8 kx3, setB8 bc bb.size⟩
        · exact ⟨_, rfl, rfl, set8 kx3, setB8 bc ba.size⟩
        · exact ⟨_, rfl, rfl, set8 kx3, setB8 bc HE.out.2.size⟩
      case rest =>
        obtain ⟨P, rfl, rfl, hP, hb⟩ := hcut
        rename World => wx
        obtain ⟨g0, g1, g2, g3, g4, g5, g6, g7⟩ := box8 hP
        obtain ⟨_, hr⟩ := HD.out wx hb
        obtain ⟨h0, h1, h2, h3, h4, h5, h6, h7, h8, h9, h10⟩ := box11 hr
        have hfx : ∀ o, wx.frozen? ⟨R, o, none⟩ = false := fun o => by simp [World.frozen?, hr]
        have HG : Hid (wx.heap[R]? = some (.cells #[.string ⟨#[]⟩, .string ⟨#[]⟩, .int .i64 0, .string ⟨#[]⟩, .int .i64 0, .int .i64 0, .int .i64 0, .int .i64 0, .int .i64 0, .int .i64 0, .int .i64 0] 28) ∧ Below w.heap.size w wx) := ⟨hr, HB.out.trans (hb.mono HB.out.size)⟩
        clear hP hb hr HE HT c0 c1 c2 c3 c4 c5 c6 c7 d0 d1 d2 d3 d4 d5 d6 d7 d8 d9 d10 hfR Q2 Q3 Q4 Q5 Q6 qn0 qm0
        go_wp2
        obtain ⟨f0, f1, f2, f3, f4, f5, f6, f7, f8, f9, f10⟩ := box11 (set11 (y0 := .string l.partner) (y1 := .string l.ref) (y2 := .int .i64 l.no) (y3 := .string l.item) (y4 := .int .i64 l.ordered) (y5 := .int .i64 (l.sent + f)) (y6 := .int .i64 l.got) (y7 := .int .i64 l.cut) (y8 := .int .i64 f) (y9 := .int .i64 (qty - f)) (y10 := .int .i64 0) HG.out.1)
        rw [HM.out]
        exact bodyPost_ret (v := .agg #[.string l.partner, .string l.ref, .int .i64 l.no, .string l.item, .int .i64 l.ordered, .int .i64 (l.sent + f), .int .i64 l.got, .int .i64 l.cut, .int .i64 f, .int .i64 (qty - f), .int .i64 0]) (by simp [results, Try.results7, go_sem, f0, f1, f2, f3, f4, f5, f6, f7, f8, f9, f10]) rfl ⟨rfl, (((((((((((HG.out.2.setCell hge _).setCell hge _).setCell hge _).setCell hge _).setCell hge _).setCell hge _).setCell hge _).setCell hge _).setCell hge _).setCell hge _).setCell hge _)⟩
    · obtain ⟨f, hf⟩ : ∃ f, f = fitZ qty (l.sent - l.got) := ⟨_, rfl⟩
      have hf0 : 0 ≤ f ∧ f ≤ 1000000 := by rw [hf]; unfold fitZ; omega
      obtain ⟨hf1, hf2⟩ := hf0
      have Q5 := postGot_any l hok qty ⟨hq1, hq2⟩ f hf
      have Q6 := postingOf3
      have HM : Hid (p = ⟨⟨l.partner, l.ref, l.no, l.item, l.ordered, l.sent, l.got + f, l.cut⟩, f, qty - f, 0⟩) := by show p = _; rw [HN.out, hf]; rfl
      clear HN hf hk hok
      go_upto_region 3 with (first | (go_at_call 28; refine (Q2 _).mono ?_; rintro e w2 ⟨rfl, rfl⟩) | (go_at_call 29; refine (Q3 _).mono ?_; rintro e w2 ⟨rfl, rfl⟩))
      have qn0 : B ≠ w2.heap.size := Nat.ne_of_lt (cell_lt c0)
      have qm0 : w2.heap.size ≠ B := Ne.symm qn0
      go_cut [7, 8] from 23 to 31 (fun s7 s8 wx => ∃ P, s7 = .pointer (some ⟨P, 0, none⟩) ∧ s8 = .int .i64 f ∧ wx.heap[P]? = some (.cells #[.string l.partner, .string l.ref, .int .i64 l.no, .string l.item, .int .i64 l.ordered, .int .i64 l.sent, .int .i64 (l.got + f), .int .i64 l.cut] 24) ∧ Below W1.heap.size W1 wx)
      case first =>
        go_region_held3 (fun W => W.cell? ⟨B, 0, none⟩ = some (.string l.partner) ∧ W.cell? ⟨B, 1, none⟩ = some (.string l.ref) ∧ W.cell? ⟨B, 2, none⟩ = some (.int .i64 l.no) ∧ W.cell? ⟨B, 3, none⟩ = some (.string l.item) ∧ W.cell? ⟨B, 4, none⟩ = some (.int .i64 l.ordered) ∧ W.cell? ⟨B, 5, none⟩ = some (.int .i64 l.sent) ∧ W.cell? ⟨B, 6, none⟩ = some (.int .i64 l.got) ∧ W.cell? ⟨B, 7, none⟩ = some (.int .i64 l.cut)) (go_keep) (first | (go_at_call 30; refine (Q6 _).mono ?_; rintro e wa ⟨rfl, hba⟩; have ba : Below W1.heap.size W1 wa := (HE.out.2).trans (((by with_reducible first | exact hba | exact undrewL hba | exact unallocL hba | exact unallocL (undrewL hba)) : Below w2.heap.size w2 wa).mono (HE.out.2).size); obtain ⟨a0, a1, a2, a3, a4, a5, a6, a7⟩ := HK.out wa ba; obtain ⟨aa0, aa1, aa2, aa3, aa4, aa5, aa6, aa7⟩ := HK.out wa.drew ba.drew; obtain ⟨aaa0, aaa1, aaa2, aaa3, aaa4, aaa5, aaa6, aaa7⟩ := HK.out (wa.alloc (.cells #[.string ⟨#[]⟩, .string ⟨#[]⟩, .int .i64 0, .string ⟨#[]⟩, .int .i64 0, .int .i64 0, .int .i64 0, .int .i64 0] 24)) (ba.alloc ba.size _); have qn1 : B ≠ wa.heap.size := Nat.ne_of_lt (cell_lt a0); have qm1 : wa.heap.size ≠ B := Ne.symm qn1; (try (with_reducible have kx1 := boxNewL hba)); (try (with_reducible have kx1 := boxNewM hba)); (try clear hba); try dsimp only) | (go_at_call 31; refine (Q4 _ hz).mono ?_; rintro e wb ⟨rfl, hbb⟩; have bb : Below W1.heap.size W1 wb := (ba).trans (((by with_reducible first | exact hbb | exact undrewL hbb | exact unallocL hbb | exact unallocL (undrewL hbb)) : Below wa.heap.size wa wb).mono (ba).size); obtain ⟨b0, b1, b2, b3, b4, b5, b6, b7⟩ := HK.out wb bb; obtain ⟨bb0, bb1, bb2, bb3, bb4, bb5, bb6, bb7⟩ := HK.out wb.drew bb.drew; obtain ⟨bbb0, bbb1, bbb2, bbb3, bbb4, bbb5, bbb6, bbb7⟩ := HK.out (wb.alloc (.cells #[.string ⟨#[]⟩, .string ⟨#[]⟩, .int .i64 0, .string ⟨#[]⟩, .int .i64 0, .int .i64 0, .int .i64 0, .int .i64 0] 24)) (bb.alloc bb.size _); have qn2 : B ≠ wb.heap.size := Nat.ne_of_lt (cell_lt b0); have qm2 : wb.heap.size ≠ B := Ne.symm qn2; (try (have kx2 := (((by with_reducible first | exact hbb | exact undrewL hbb | exact unallocL hbb | exact unallocL (undrewL hbb)) : Below wa.heap.size wa wb).block _ (Array.getElem?_eq_some_iff.1 kx1).1).trans kx1)); (try (with_reducible have kx2 := boxNewL hbb)); (try (with_reducible have kx2 := boxNewM hbb)); (try clear hbb); try dsimp only) | (go_at_call 47; refine (Q5 _).mono ?_; rintro e wc ⟨rfl, hbc⟩; have bc : Below W1.heap.size W1 wc := (bb).trans (((by with_reducible first | exact hbc | exact undrewL hbc | exact unallocL hbc | exact unallocL (undrewL hbc)) : Below wb.heap.size wb wc).mono (bb).size); obtain ⟨c0, c1, c2, c3, c4, c5, c6, c7⟩ := HK.out wc bc; obtain ⟨cc0, cc1, cc2, cc3, cc4, cc5, cc6, cc7⟩ := HK.out wc.drew bc.drew; obtain ⟨ccc0, ccc1, ccc2, ccc3, ccc4, ccc5, ccc6, ccc7⟩ := HK.out (wc.alloc (.cells #[.string ⟨#[]⟩, .string ⟨#[]⟩, .int .i64 0, .string ⟨#[]⟩, .int .i64 0, .int .i64 0, .int .i64 0, .int .i64 0] 24)) (bc.alloc bc.size _); have qn3 : B ≠ wc.heap.size := Nat.ne_of_lt (cell_lt c0); have qm3 : wc.heap.size ≠ B := Ne.symm qn3; (try (have kx3 := (((by with_reducible first | exact hbc | exact undrewL hbc | exact unallocL hbc | exact unallocL (undrewL hbc)) : Below wb.heap.size wb wc).block _ (Array.getElem?_eq_some_iff.1 kx2).1).trans kx2)); (try (with_reducible have kx3 := boxNewL hbc)); (try (with_reducible have kx3 := boxNewM hbc)); (try (have kk := box8 kx3; obtain ⟨n0, n1, n2, n3, n4, n5, n6, n7⟩ := kk; have hfz := frozeL kx3)); (try clear hbc); try dsimp only))
        all_goals rename_i hHeld
        all_goals clear hHeld
        all_goals go_wp2_with fail
        all_goals go_meet
        · exact ⟨_, rfl, rfl, World.alloc_heap_new _ _, bc.alloc bc.size _⟩
        · exact ⟨_, rfl, rfl, set8 kx3, setB8 bc bb.size⟩
        · exact ⟨_, rfl, rfl, set8 kx3, setB8 bc ba.size⟩
        · exact ⟨_, rfl, rfl, set8 kx3, setB8 bc HE.out.2.size⟩
      case rest =>
        obtain ⟨P, rfl, rfl, hP, hb⟩ := hcut
        rename World => wx
        obtain ⟨g0, g1, g2, g3, g4, g5, g6, g7⟩ := box8 hP
        obtain ⟨_, hr⟩ := HD.out wx hb
        obtain ⟨h0, h1, h2, h3, h4, h5, h6, h7, h8, h9, h10⟩ := box11 hr
        have hfx : ∀ o, wx.frozen? ⟨R, o, none⟩ = false := fun o => by simp [World.frozen?, hr]
        have HG : Hid (wx.heap[R]? = some (.cells #[.string ⟨#[]⟩, .string ⟨#[]⟩, .int .i64 0, .string ⟨#[]⟩, .int .i64 0, .int .i64 0, .int .i64 0, .int .i64 0, .int .i64 0, .int .i64 0, .int .i64 0] 28) ∧ Below w.heap.size w wx) := ⟨hr, HB.out.trans (hb.mono HB.out.size)⟩
        clear hP hb hr HE HT c0 c1 c2 c3 c4 c5 c6 c7 d0 d1 d2 d3 d4 d5 d6 d7 d8 d9 d10 hfR Q2 Q3 Q4 Q5 Q6 qn0 qm0
        go_wp2
        obtain ⟨f0, f1, f2, f3, f4, f5, f6, f7, f8, f9, f10⟩ := box11 (set11 (y0 := .string l.partner) (y1 := .string l.ref) (y2 := .int .i64 l.no) (y3 := .string l.item) (y4 := .int .i64 l.ordered) (y5 := .int .i64 l.sent) (y6 := .int .i64 (l.got + f)) (y7 := .int .i64 l.cut) (y8 := .int .i64 f) (y9 := .int .i64 (qty - f)) (y10 := .int .i64 0) HG.out.1)
        rw [HM.out]
        exact bodyPost_ret (v := .agg #[.string l.partner, .string l.ref, .int .i64 l.no, .string l.item, .int .i64 l.ordered, .int .i64 l.sent, .int .i64 (l.got + f), .int .i64 l.cut, .int .i64 f, .int .i64 (qty - f), .int .i64 0]) (by simp [results, Try.results7, go_sem, f0, f1, f2, f3, f4, f5, f6, f7, f8, f9, f10]) rfl ⟨rfl, (((((((((((HG.out.2.setCell hge _).setCell hge _).setCell hge _).setCell hge _).setCell hge _).setCell hge _).setCell hge _).setCell hge _).setCell hge _).setCell hge _).setCell hge _)⟩
end Go.Proofs.Ytnfidhfhmfggcaa
