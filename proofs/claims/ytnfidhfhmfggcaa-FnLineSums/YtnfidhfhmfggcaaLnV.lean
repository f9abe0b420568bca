/- Contract of the model's LinePost. -/
import Derived.Test.YtnfidhfhmfggcaaLnS
import Derived.Test.YtnfidhfhmfggcaaLnU
namespace Go.Proofs.Ytnfidhfhmfggcaa
open Go.ChangeShapes Go.WideShapes Go.ChangeAt Go.RowKit
theorem l01Min_any (q m : Int) (w : World) : Calls Try.prog 25 #[.int .i64 q, .int .i64 m] w fun e w' => e = .returned (.int .i64 (fitZ q m)) ∧ w' = w := by
  by_cases h : q < m
  · have HE : Hid (fitZ q m = q) := by show min q m = q; omega
    go_enter Try.func25, Try.ntmps25
    go_wp2
    go_ret
    exact ⟨by rw [HE.out]; rfl, rfl⟩
  · have HE : Hid (fitZ q m = m) := by show min q m = m; omega
    go_enter Try.func25, Try.ntmps25
    go_wp2
    go_ret
    exact ⟨by rw [HE.out]; rfl, rfl⟩
set_option maxHeartbeats 8000000 in
theorem linePost_spec (l : OLn) (kind qty : Int) (w : World) :
    Calls Try.prog 6 #[.agg #[.string l.partner, .string l.ref, .int .i64 l.no, .string l.item, .int .i64 l.ordered, .int .i64 l.sent, .int .i64 l.got, .int .i64 l.cut], .int .i64 kind, .int .i64 qty] w fun e w' => e = .returned (.agg #[.string (postT l kind qty).line.partner, .string (postT l kind qty).line.ref, .int .i64 (postT l kind qty).line.no, .string (postT l kind qty).line.item, .int .i64 (postT l kind qty).line.ordered, .int .i64 (postT l kind qty).line.sent, .int .i64 (postT l kind qty).line.got, .int .i64 (postT l kind qty).line.cut, .int .i64 (postT l kind qty).fit, .int .i64 (postT l kind qty).over, .int .i64 (postT l kind qty).code]) ∧ Below w.heap.size w w' := by
  obtain ⟨p, hp⟩ : ∃ p, p = postT l kind qty := ⟨_, rfl⟩
  rw [← hp]
  have HP : Hid (p = postT l kind qty) := hp
  clear hp
  have Q1 := lineRight_spec l
  have Q3 := l01Qty_any qty
  obtain ⟨x, hx⟩ : ∃ x, x = lnB l := ⟨_, rfl⟩
  rw [← hx] at Q1
  have HX : Hid (x = lnB l) := hx
  clear hx
  obtain ⟨W1, hW1⟩ : ∃ W1, (w.alloc (.cells #[.string l.partner, .string l.ref, .int .i64 l.no, .string l.item, .int .i64 l.ordered, .int .i64 l.sent, .int .i64 l.got, .int .i64 l.cut] 24)).alloc (.cells #[.string ⟨#[]⟩, .string ⟨#[]⟩, .int .i64 0, .string ⟨#[]⟩, .int .i64 0, .int .i64 0, .int .i64 0, .int .i64 0, .int .i64 0, .int .i64 0, .int .i64 0] 28) = W1 := ⟨_, rfl⟩
  have hb1 : Below w.heap.size w W1 := by rw [← hW1]; exact ((Below.refl _ _).alloc (Nat.le_refl _) _).alloc (by simp) _
  obtain ⟨i0, i1⟩ := fl_two w (.cells #[.string l.partner, .string l.ref, .int .i64 l.no, .string l.item, .int .i64 l.ordered, .int .i64 l.sent, .int .i64 l.got, .int .i64 l.cut] 24) (.cells #[.string ⟨#[]⟩, .string ⟨#[]⟩, .int .i64 0, .string ⟨#[]⟩, .int .i64 0, .int .i64 0, .int .i64 0, .int .i64 0, .int .i64 0, .int .i64 0, .int .i64 0] 28)
  rw [hW1] at i0 i1
  obtain ⟨B, hB⟩ : ∃ B, B = w.heap.size := ⟨_, rfl⟩
  obtain ⟨R, hR⟩ : ∃ R, R = w.heap.size + 1 := ⟨_, rfl⟩
  rw [← hB] at i0
  rw [← hR] at i1
  have HD : Hid (∀ W, Below W1.heap.size W1 W → W.heap[B]? = some (.cells #[.string l.partner, .string l.ref, .int .i64 l.no, .string l.item, .int .i64 l.ordered, .int .i64 l.sent, .int .i64 l.got, .int .i64 l.cut] 24) ∧ W.heap[R]? = some (.cells #[.string ⟨#[]⟩, .string ⟨#[]⟩, .int .i64 0, .string ⟨#[]⟩, .int .i64 0, .int .i64 0, .int .i64 0, .int .i64 0, .int .i64 0, .int .i64 0, .int .i64 0] 28)) := fun W hW => ⟨(hW.block _ (Array.getElem?_eq_some_iff.1 i0).1).trans i0, (hW.block _ (Array.getElem?_eq_some_iff.1 i1).1).trans i1⟩
  have HB : Hid (Below w.heap.size w W1) := hb1
  have hl1 := (Array.getElem?_eq_some_iff.1 i1).1
  obtain ⟨c0, c1, c2, c3, c4, c5, c6, c7⟩ := box8 i0
  go_enter Try.func6, Try.ntmps6
  go_upto_region 1 with fail
  try rw [hW1]
  try rw [← hR]
  try rw [← hB]
  have hge : w.heap.size ≤ R := by omega
  have hBR : B < R := by omega
  clear hW1 hb1 i0 i1 hB hR
  go_wp2_with fail
  refine (Q1 _).mono ?_
  rintro e w2 ⟨rfl, hb2⟩
  obtain ⟨hx, hr⟩ := HD.out w2 hb2
  clear c0 c1 c2 c3 c4 c5 c6 c7 Q1
  have HE : Hid (Below w.heap.size w w2 ∧ Below W1.heap.size W1 w2) := ⟨HB.out.trans (hb2.mono HB.out.size), hb2⟩
  have HT : Hid (w2.heap[R]? = some (.cells #[.string ⟨#[]⟩, .string ⟨#[]⟩, .int .i64 0, .string ⟨#[]⟩, .int .i64 0, .int .i64 0, .int .i64 0, .int .i64 0, .int .i64 0, .int .i64 0, .int .i64 0] 28)) := hr
  have hfR : ∀ o, w2.frozen? ⟨R, o, none⟩ = false := fun o => by simp [World.frozen?, hr]
  obtain ⟨c0, c1, c2, c3, c4, c5, c6, c7⟩ := box8 hx
  obtain ⟨d0, d1, d2, d3, d4, d5, d6, d7, d8, d9, d10⟩ := box11 hr
  clear hb2 hx hr
  cases x with
  | false =>
    have HN : Hid (p = ⟨zeroL, 0, 0, 1⟩) := by rw [HP.out]; exact postT_no fun h => by have h1 := HX.out; rw [lnB_yes h.ok] at h1; cases h1
    go_wp2_with (first | (go_at_call 24; refine (Q3 _).mono ?_; rintro e w' ⟨rfl, rfl⟩))
    obtain ⟨f0, f1, f2, f3, f4, f5, f6, f7, f8, f9, f10⟩ := box11 (set11 (y0 := .string ⟨#[]⟩) (y1 := .string ⟨#[]⟩) (y2 := .int .i64 0) (y3 := .string ⟨#[]⟩) (y4 := .int .i64 0) (y5 := .int .i64 0) (y6 := .int .i64 0) (y7 := .int .i64 0) (y8 := .int .i64 0) (y9 := .int .i64 0) (y10 := .int .i64 1) HT.out)
    rw [HN.out]
    exact bodyPost_ret (v := .agg #[.string ⟨#[]⟩, .string ⟨#[]⟩, .int .i64 0, .string ⟨#[]⟩, .int .i64 0, .int .i64 0, .int .i64 0, .int .i64 0, .int .i64 0, .int .i64 0, .int .i64 1]) (by simp [results, Try.results6, go_sem, f0, f1, f2, f3, f4, f5, f6, f7, f8, f9, f10]) rfl ⟨rfl, (((((((((((HE.out.1.setCell hge _).setCell hge _).setCell hge _).setCell hge _).setCell hge _).setCell hge _).setCell hge _).setCell hge _).setCell hge _).setCell hge _).setCell hge _)⟩
  | true =>
    have hok : LnOk l := lnB_iff.1 HX.out.symm
    by_cases hk1 : kind < 1
    · clear hok
      have HN : Hid (p = ⟨zeroL, 0, 0, 1⟩) := by rw [HP.out]; exact postT_no fun h => by have h1 := h.k1; omega
      go_wp2_with (first | (go_at_call 24; refine (Q3 _).mono ?_; rintro e w' ⟨rfl, rfl⟩))
      obtain ⟨f0, f1, f2, f3, f4, f5, f6, f7, f8, f9, f10⟩ := box11 (set11 (y0 := .string ⟨#[]⟩) (y1 := .string ⟨#[]⟩) (y2 := .int .i64 0) (y3 := .string ⟨#[]⟩) (y4 := .int .i64 0) (y5 := .int .i64 0) (y6 := .int .i64 0) (y7 := .int .i64 0) (y8 := .int .i64 0) (y9 := .int .i64 0) (y10 := .int .i64 1) HT.out)
      rw [HN.out]
      exact bodyPost_ret (v := .agg #[.string ⟨#[]⟩, .string ⟨#[]⟩, .int .i64 0, .string ⟨#[]⟩, .int .i64 0, .int .i64 0, .int .i64 0, .int .i64 0, .int .i64 0, .int .i64 0, .int .i64 1]) (by simp [results, Try.results6, go_sem, f0, f1, f2, f3, f4, f5, f6, f7, f8, f9, f10]) rfl ⟨rfl, (((((((((((HE.out.1.setCell hge _).setCell hge _).setCell hge _).setCell hge _).setCell hge _).setCell hge _).setCell hge _).setCell hge _).setCell hge _).setCell hge _).setCell hge _)⟩
    by_cases hk3 : 3 < kind
    · clear hok
      have HN : Hid (p = ⟨zeroL, 0, 0, 1⟩) := by rw [HP.out]; exact postT_no fun h => by have h1 := h.k3; omega
      go_wp2_with (first | (go_at_call 24; refine (Q3 _).mono ?_; rintro e w' ⟨rfl, rfl⟩))
      obtain ⟨f0, f1, f2, f3, f4, f5, f6, f7, f8, f9, f10⟩ := box11 (set11 (y0 := .string ⟨#[]⟩) (y1 := .string ⟨#[]⟩) (y2 := .int .i64 0) (y3 := .string ⟨#[]⟩) (y4 := .int .i64 0) (y5 := .int .i64 0) (y6 := .int .i64 0) (y7 := .int .i64 0) (y8 := .int .i64 0) (y9 := .int .i64 0) (y10 := .int .i64 1) HT.out)
      rw [HN.out]
      exact bodyPost_ret (v := .agg #[.string ⟨#[]⟩, .string ⟨#[]⟩, .int .i64 0, .string ⟨#[]⟩, .int .i64 0, .int .i64 0, .int .i64 0, .int .i64 0, .int .i64 0, .int .i64 0, .int .i64 1]) (by simp [results, Try.results6, go_sem, f0, f1, f2, f3, f4, f5, f6, f7, f8, f9, f10]) rfl ⟨rfl, (((((((((((HE.out.1.setCell hge _).setCell hge _).setCell hge _).setCell hge _).setCell hge _).setCell hge _).setCell hge _).setCell hge _).setCell hge _).setCell hge _).setCell hge _)⟩
    by_cases hq : 1 ≤ qty ∧ qty ≤ 1000000
    case neg =>
      rw [qtyB_no hq] at Q3
      clear hok
      have HN : Hid (p = ⟨zeroL, 0, 0, 1⟩) := by rw [HP.out]; exact postT_no fun h => hq h.q
      go_wp2_with (first | (go_at_call 24; refine (Q3 _).mono ?_; rintro e w' ⟨rfl, rfl⟩))
      obtain ⟨f0, f1, f2, f3, f4, f5, f6, f7, f8, f9, f10⟩ := box11 (set11 (y0 := .string ⟨#[]⟩) (y1 := .string ⟨#[]⟩) (y2 := .int .i64 0) (y3 := .string ⟨#[]⟩) (y4 := .int .i64 0) (y5 := .int .i64 0) (y6 := .int .i64 0) (y7 := .int .i64 0) (y8 := .int .i64 0) (y9 := .int .i64 0) (y10 := .int .i64 1) HT.out)
      rw [HN.out]
      exact bodyPost_ret (v := .agg #[.string ⟨#[]⟩, .string ⟨#[]⟩, .int .i64 0, .string ⟨#[]⟩, .int .i64 0, .int .i64 0, .int .i64 0, .int .i64 0, .int .i64 0, .int .i64 0, .int .i64 1]) (by simp [results, Try.results6, go_sem, f0, f1, f2, f3, f4, f5, f6, f7, f8, f9, f10]) rfl ⟨rfl, (((((((((((HE.out.1.setCell hge _).setCell hge _).setCell hge _).setCell hge _).setCell hge _).setCell hge _).setCell hge _).setCell hge _).setCell hge _).setCell hge _).setCell hge _)⟩
    rw [qtyB_yes hq] at Q3
    have HN : Hid (p = ⟨aftT l kind (fitZ qty (mostT l kind)), fitZ qty (mostT l kind), qty - fitZ qty (mostT l kind), 0⟩) := by rw [HP.out]; exact postT_yes ⟨hok, by omega, by omega, hq⟩
    have k0 := hok.o1
    have k1 := hok.o2
    have k2 := hok.s0
    have k3 := hok.g0
    have k4 := hok.c0
    have k5 := hok.gs
    have k6 := hok.so
    have k7 := hok.co
    have Q4 := lineOpen_spec l
    have Q5 := lineTransit_spec l
    rw [opnT_yes hok] at Q4
    rw [trnT_yes hok] at Q5
    have HK : Hid (∀ W, Below W1.heap.size W1 W → W.cell? ⟨B, 0, none⟩ = some (.string l.partner) ∧ W.cell? ⟨B, 1, none⟩ = some (.string l.ref) ∧ W.cell? ⟨B, 2, none⟩ = some (.int .i64 l.no) ∧ W.cell? ⟨B, 3, none⟩ = some (.string l.item) ∧ W.cell? ⟨B, 4, none⟩ = some (.int .i64 l.ordered) ∧ W.cell? ⟨B, 5, none⟩ = some (.int .i64 l.sent) ∧ W.cell? ⟨B, 6, none⟩ = some (.int .i64 l.got) ∧ W.cell? ⟨B, 7, none⟩ = some (.int .i64 l.cut)) := fun W hW => box8 (HD.out W hW).1
    clear HP HX
    obtain ⟨hq1, hq2⟩ := hq
    obtain ⟨W3, hW3⟩ : ∃ W3, w2.alloc (.cells #[.string l.partner, .string l.ref, .int .i64 l.no, .string l.item, .int .i64 l.ordered, .int .i64 l.sent, .int .i64 l.got, .int .i64 l.cut, .int .i64 0, .int .i64 0, .int .i64 0] 28) = W3 := ⟨_, rfl⟩
    have hb3 : Below w2.heap.size w2 W3 := by rw [← hW3]; exact (Below.refl _ _).alloc (Nat.le_refl _) _
    have ho3 : W3.heap[w2.heap.size]? = some (.cells #[.string l.partner, .string l.ref, .int .i64 l.no, .string l.item, .int .i64 l.ordered, .int .i64 l.sent, .int .i64 l.got, .int .i64 l.cut, .int .i64 0, .int .i64 0, .int .i64 0] 28) := by rw [← hW3]; exact World.alloc_heap_new _ _
    obtain ⟨O, hO⟩ : ∃ O, O = w2.heap.size := ⟨_, rfl⟩
    rw [← hO] at ho3
    have H3 : Hid (Below W1.heap.size W1 W3 ∧ W3.heap[O]? = some (.cells #[.string l.partner, .string l.ref, .int .i64 l.no, .string l.item, .int .i64 l.ordered, .int .i64 l.sent, .int .i64 l.got, .int .i64 l.cut, .int .i64 0, .int .i64 0, .int .i64 0] 28) ∧ W1.heap.size ≤ O) := ⟨HE.out.2.trans (hb3.mono HE.out.2.size), ho3, by rw [hO]; exact HE.out.2.size⟩
    have HW3 : Hid (w2.alloc (.cells #[.string l.partner, .string l.ref, .int .i64 l.no, .string l.item, .int .i64 l.ordered, .int .i64 l.sent, .int .i64 l.got, .int .i64 l.cut, .int .i64 0, .int .i64 0, .int .i64 0] 28) = W3 ∧ O = w2.heap.size) := ⟨hW3, hO⟩
    clear hb3 ho3 hW3 hO
    obtain rfl | rfl | rfl : kind = 1 ∨ kind = 2 ∨ kind = 3 := by omega
    · obtain ⟨f, hf⟩ : ∃ f, f = fitZ qty (l.ordered - l.sent - l.cut) := ⟨_, rfl⟩
      have hf0 : 0 ≤ f ∧ f ≤ 1000000 ∧ f ≤ l.ordered - l.sent - l.cut := by rw [hf]; unfold fitZ; omega
      obtain ⟨hf1, hf2, hf3⟩ := hf0
      have Q6 := l01Min_any qty (l.ordered - l.sent - l.cut)
      rw [← hf] at Q6
      have HM : Hid (p = ⟨⟨l.partner, l.ref, l.no, l.item, l.ordered, l.sent, l.got, l.cut + f⟩, f, qty - f, 0⟩) := by show p = _; rw [HN.out, hf]; rfl
      clear HN hf hok
      go_upto_region 8 with (first | (go_at_call 24; refine (Q3 _).mono ?_; rintro e w2 ⟨rfl, rfl⟩))
      try rw [HW3.out.1]
      try rw [← HW3.out.2]
      clear HW3 c0 c1 c2 c3 c4 c5 c6 c7 d0 d1 d2 d3 d4 d5 d6 d7 d8 d9 d10 hfR HT
      obtain ⟨c0, c1, c2, c3, c4, c5, c6, c7⟩ := HK.out W3 H3.out.1
      go_wp2_with fail
      refine (Q4 _).mono ?_
      rintro e w4 ⟨rfl, hb4⟩
      have hb5 := H3.out.1.trans (hb4.mono H3.out.1.size)
      obtain ⟨_, hr4⟩ := HD.out w4 hb5
      have ho4 := (hb4.block O (Array.getElem?_eq_some_iff.1 H3.out.2.1).1).trans H3.out.2.1
      have hOR : R < O := by have := H3.out.2.2; omega
      have hOR' : O ≠ R := by omega
      have hRO' : R ≠ O := by omega
      have hBO : B ≠ O := by omega
      have hOB : O ≠ B := by omega
      have HG : Hid (w4.heap[R]? = some (.cells #[.string ⟨#[]⟩, .string ⟨#[]⟩, .int .i64 0, .string ⟨#[]⟩, .int .i64 0, .int .i64 0, .int .i64 0, .int .i64 0, .int .i64 0, .int .i64 0, .int .i64 0] 28) ∧ Below w.heap.size w w4 ∧ w.heap.size ≤ O) := ⟨hr4, HB.out.trans (hb5.mono HB.out.size), by omega⟩
      have HO : Hid (∀ (W : World) (o : Nat) (x : Value), W.heap[R]? = some (.cells #[.string ⟨#[]⟩, .string ⟨#[]⟩, .int .i64 0, .string ⟨#[]⟩, .int .i64 0, .int .i64 0, .int .i64 0, .int .i64 0, .int .i64 0, .int .i64 0, .int .i64 0] 28) → (W.setCell ⟨O, o, none⟩ x).heap[R]? = some (.cells #[.string ⟨#[]⟩, .string ⟨#[]⟩, .int .i64 0, .string ⟨#[]⟩, .int .i64 0, .int .i64 0, .int .i64 0, .int .i64 0, .int .i64 0, .int .i64 0, .int .i64 0] 28)) := fun W o x h => by
        simp only [World.setCell, Array.getElem?_modify]
        rw [if_neg hOR']
        exact h
      have hfO : ∀ o, w4.frozen? ⟨O, o, none⟩ = false := frozeL ho4
      have hfR : ∀ o, w4.frozen? ⟨R, o, none⟩ = false := frozeL hr4
      clear c0 c1 c2 c3 c4 c5 c6 c7
      obtain ⟨c0, c1, c2, c3, c4, c5, c6, c7⟩ := HK.out w4 hb5
      obtain ⟨o0, o1, o2, o3, o4, o5, o6, o7, o8, o9, o10⟩ := box11 ho4
      obtain ⟨h0, h1, h2, h3, h4, h5, h6, h7, h8, h9, h10⟩ := box11 hr4
      clear hb4 hb5 hr4 ho4 H3 hOR HE Q4 Q5 Q3
      go_wp2_with (first | (go_at_call 25; refine (Q6 _).mono ?_; rintro e w4 ⟨rfl, rfl⟩))
      obtain ⟨f0, f1, f2, f3, f4, f5, f6, f7, f8, f9, f10⟩ := box11 (set11 (y0 := .string l.partner) (y1 := .string l.ref) (y2 := .int .i64 l.no) (y3 := .string l.item) (y4 := .int .i64 l.ordered) (y5 := .int .i64 l.sent) (y6 := .int .i64 l.got) (y7 := .int .i64 (l.cut + f)) (y8 := .int .i64 f) (y9 := .int .i64 (qty - f)) (y10 := .int .i64 0) (HO.out _ 9 (.int .i64 (qty - f)) (HO.out _ 7 (.int .i64 (l.cut + f)) (HO.out _ 8 (.int .i64 f) HG.out.1))))
      rw [HM.out]
      have hgO := HG.out.2.2
      exact bodyPost_ret (v := .agg #[.string l.partner, .string l.ref, .int .i64 l.no, .string l.item, .int .i64 l.ordered, .int .i64 l.sent, .int .i64 l.got, .int .i64 (l.cut + f), .int .i64 f, .int .i64 (qty - f), .int .i64 0]) (by simp [results, Try.results6, go_sem, f0, f1, f2, f3, f4, f5, f6, f7, f8, f9, f10]) rfl ⟨rfl, ((((((((((((((HG.out.2.1.setCell hgO _).setCell hgO _).setCell hgO _).setCell hge _).setCell hge _).setCell hge _).setCell hge _).setCell hge _).setCell hge _).setCell hge _).setCell hge _).setCell hge _).setCell hge _).setCell hge _)⟩
    · obtain ⟨f, hf⟩ : ∃ f, f = fitZ qty (l.ordered - l.sent - l.cut) := ⟨_, rfl⟩
      have hf0 : 0 ≤ f ∧ f ≤ 1000000 ∧ f ≤ l.ordered - l.sent - l.cut := by rw [hf]; unfold fitZ; omega
      obtain ⟨hf1, hf2, hf3⟩ := hf0
      have Q6 := l01Min_any qty (l.ordered - l.sent - l.cut)
      rw [← hf] at Q6
      have HM : Hid (p = ⟨⟨l.partner, l.ref, l.no, l.item, l.ordered, l.sent + f, l.got, l.cut⟩, f, qty - f, 0⟩) := by show p = _; rw [HN.out, hf]; rfl
      clear HN hf hok
      go_upto_region 11 with (first | (go_at_call 24; refine (Q3 _).mono ?_; rintro e w2 ⟨rfl, rfl⟩))
      try rw [HW3.out.1]
      try rw [← HW3.out.2]
      clear HW3 c0 c1 c2 c3 c4 c5 c6 c7 d0 d1 d2 d3 d4 d5 d6 d7 d8 d9 d10 hfR HT
      obtain ⟨c0, c1, c2, c3, c4, c5, c6, c7⟩ := HK.out W3 H3.out.1
      go_wp2_with fail
      refine (Q4 _).mono ?_
      rintro e w4 ⟨rfl, hb4⟩
      have hb5 := H3.out.1.trans (hb4.mono H3.out.1.size)
      obtain ⟨_, hr4⟩ := HD.out w4 hb5
      have ho4 := (hb4.block O (Array.getElem?_eq_some_iff.1 H3.out.2.1).1).trans H3.out.2.1
      have hOR : R < O := by have := H3.out.2.2; omega
      have hOR' : O ≠ R := by omega
      have hRO' : R ≠ O := by omega
      have hBO : B ≠ O := by omega
      have hOB : O ≠ B := by omega
      have HG : Hid (w4.heap[R]? = some (.cells #[.string ⟨#[]⟩, .string ⟨#[]⟩, .int .i64 0, .string ⟨#[]⟩, .int .i64 0, .int .i64 0, .int .i64 0, .int .i64 0, .int .i64 0, .int .i64 0, .int .i64 0] 28) ∧ Below w.heap.size w w4 ∧ w.heap.size ≤ O) := ⟨hr4, HB.out.trans (hb5.mono HB.out.size), by omega⟩
      have HO : Hid (∀ (W : World) (o : Nat) (x : Value), W.heap[R]? = some (.cells #[.string ⟨#[]⟩, .string ⟨#[]⟩, .int .i64 0, .string ⟨#[]⟩, .int .i64 0, .int .i64 0, .int .i64 0, .int .i64 0, .int .i64 0, .int .i64 0, .int .i64 0] 28) → (W.setCell ⟨O, o, none⟩ x).heap[R]? = some (.cells #[.string ⟨#[]⟩, .string ⟨#[]⟩, .int .i64 0, .string ⟨#[]⟩, .int .i64 0, .int .i64 0, .int .i64 0, .int .i64 0, .int .i64 0, .int .i64 0, .int .i64 0] 28)) := fun W o x h => by
        simp only [World.setCell, Array.getElem?_modify]
        rw [if_neg hOR']
        exact h
      have hfO : ∀ o, w4.frozen? ⟨O, o, none⟩ = false := frozeL ho4
      have hfR : ∀ o, w4.frozen? ⟨R, o, none⟩ = false := frozeL hr4
      clear c0 c1 c2 c3 c4 c5 c6 c7
      obtain ⟨c0, c1, c2, c3, c4, c5, c6, c7⟩ := HK.out w4 hb5
      obtain ⟨o0, o1, o2, o3, o4, o5, o6, o7, o8, o9, o10⟩ := box11 ho4
      obtain ⟨h0, h1, h2, h3, h4, h5, h6, h7, h8, h9, h10⟩ := box11 hr4
      clear hb4 hb5 hr4 ho4 H3 hOR HE Q4 Q5 Q3
      go_wp2_with (first | (go_at_call 25; refine (Q6 _).mono ?_; rintro e w4 ⟨rfl, rfl⟩))
      obtain ⟨f0, f1, f2, f3, f4, f5, f6, f7, f8, f9, f10⟩ := box11 (set11 (y0 := .string l.partner) (y1 := .string l.ref) (y2 := .int .i64 l.no) (y3 := .string l.item) (y4 := .int .i64 l.ordered) (y5 := .int .i64 (l.sent + f)) (y6 := .int .i64 l.got) (y7 := .int .i64 l.cut) (y8 := .int .i64 f) (y9 := .int .i64 (qty - f)) (y10 := .int .i64 0) (HO.out _ 9 (.int .i64 (qty - f)) (HO.out _ 5 (.int .i64 (l.sent + f)) (HO.out _ 8 (.int .i64 f) HG.out.1))))
      rw [HM.out]
      have hgO := HG.out.2.2
      exact bodyPost_ret (v := .agg #[.string l.partner, .string l.ref, .int .i64 l.no, .string l.item, .int .i64 l.ordered, .int .i64 (l.sent + f), .int .i64 l.got, .int .i64 l.cut, .int .i64 f, .int .i64 (qty - f), .int .i64 0]) (by simp [results, Try.results6, go_sem, f0, f1, f2, f3, f4, f5, f6, f7, f8, f9, f10]) rfl ⟨rfl, ((((((((((((((HG.out.2.1.setCell hgO _).setCell hgO _).setCell hgO _).setCell hge _).setCell hge _).setCell hge _).setCell hge _).setCell hge _).setCell hge _).setCell hge _).setCell hge _).setCell hge _).setCell hge _).setCell hge _)⟩
    · obtain ⟨f, hf⟩ : ∃ f, f = fitZ qty (l.sent - l.got) := ⟨_, rfl⟩
      have hf0 : 0 ≤ f ∧ f ≤ 1000000 ∧ f ≤ l.sent - l.got := by rw [hf]; unfold fitZ; omega
      obtain ⟨hf1, hf2, hf3⟩ := hf0
      have Q6 := l01Min_any qty (l.sent - l.got)
      rw [← hf] at Q6
      have HM : Hid (p = ⟨⟨l.partner, l.ref, l.no, l.item, l.ordered, l.sent, l.got + f, l.cut⟩, f, qty - f, 0⟩) := by show p = _; rw [HN.out, hf]; rfl
      clear HN hf hok
      go_upto_region 5 with (first | (go_at_call 24; refine (Q3 _).mono ?_; rintro e w2 ⟨rfl, rfl⟩))
      try rw [HW3.out.1]
      try rw [← HW3.out.2]
      clear HW3 c0 c1 c2 c3 c4 c5 c6 c7 d0 d1 d2 d3 d4 d5 d6 d7 d8 d9 d10 hfR HT
      obtain ⟨c0, c1, c2, c3, c4, c5, c6, c7⟩ := HK.out W3 H3.out.1
      go_wp2_with fail
      refine (Q5 _).mono ?_
      rintro e w4 ⟨rfl, hb4⟩
      have hb5 := H3.out.1.trans (hb4.mono H3.out.1.size)
      obtain ⟨_, hr4⟩ := HD.out w4 hb5
      have ho4 := (hb4.block O (Array.getElem?_eq_some_iff.1 H3.out.2.1).1).trans H3.out.2.1
      have hOR : R < O := by have := H3.out.2.2; omega
      have hOR' : O ≠ R := by omega
      have hRO' : R ≠ O := by omega
      have hBO : B ≠ O := by omega
      have hOB : O ≠ B := by omega
      have HG : Hid (w4.heap[R]? = some (.cells #[.string ⟨#[]⟩, .string ⟨#[]⟩, .int .i64 0, .string ⟨#[]⟩, .int .i64 0, .int .i64 0, .int .i64 0, .int .i64 0, .int .i64 0, .int .i64 0, .int .i64 0] 28) ∧ Below w.heap.size w w4 ∧ w.heap.size ≤ O) := ⟨hr4, HB.out.trans (hb5.mono HB.out.size), by omega⟩
      have HO : Hid (∀ (W : World) (o : Nat) (x : Value), W.heap[R]? = some (.cells #[.string ⟨#[]⟩, .string ⟨#[]⟩, .int .i64 0, .string ⟨#[]⟩, .int .i64 0, .int .i64 0, .int .i64 0, .int .i64 0, .int .i64 0, .int .i64 0, .int .i64 0] 28) → (W.setCell ⟨O, o, none⟩ x).heap[R]? = some (.cells #[.string ⟨#[]⟩, .string ⟨#[]⟩, .int .i64 0, .string ⟨#[]⟩, .int .i64 0, .int .i64 0, .int .i64 0, .int .i64 0, .int .i64 0, .int .i64 0, .int .i64 0] 28)) := fun W o x h => by
        simp only [World.setCell, Array.getElem?_modify]
        rw [if_neg hOR']
        exact h
      have hfO : ∀ o, w4.frozen? ⟨O, o, none⟩ = false := frozeL ho4
      have hfR : ∀ o, w4.frozen? ⟨R, o, none⟩ = false := frozeL hr4
      clear c0 c1 c2 c3 c4 c5 c6 c7
      obtain ⟨c0, c1, c2, c3, c4, c5, c6, c7⟩ := HK.out w4 hb5
      obtain ⟨o0, o1, o2, o3, o4, o5, o6, o7, o8, o9, o10⟩ := box11 ho4
      obtain ⟨h0, h1, h2, h3, h4, h5, h6, h7, h8, h9, h10⟩ := box11 hr4
      clear hb4 hb5 hr4 ho4 H3 hOR HE Q4 Q5 Q3
      go_wp2_with (first | (go_at_call 25; refine (Q6 _).mono ?_; rintro e w4 ⟨rfl, rfl⟩))
      obtain ⟨f0, f1, f2, f3, f4, f5, f6, f7, f8, f9, f10⟩ := box11 (set11 (y0 := .string l.partner) (y1 := .string l.ref) (y2 := .int .i64 l.no) (y3 := .string l.item) (y4 := .int .i64 l.ordered) (y5 := .int .i64 l.sent) (y6 := .int .i64 (l.got + f)) (y7 := .int .i64 l.cut) (y8 := .int .i64 f) (y9 := .int .i64 (qty - f)) (y10 := .int .i64 0) (HO.out _ 9 (.int .i64 (qty - f)) (HO.out _ 6 (.int .i64 (l.got + f)) (HO.out _ 8 (.int .i64 f) HG.out.1))))
      rw [HM.out]
      have hgO := HG.out.2.2
      exact bodyPost_ret (v := .agg #[.string l.partner, .string l.ref, .int .i64 l.no, .string l.item, .int .i64 l.ordered, .int .i64 l.sent, .int .i64 (l.got + f), .int .i64 l.cut, .int .i64 f, .int .i64 (qty - f), .int .i64 0]) (by simp [results, Try.results6, go_sem, f0, f1, f2, f3, f4, f5, f6, f7, f8, f9, f10]) rfl ⟨rfl, ((((((((((((((HG.out.2.1.setCell hgO _).setCell hgO _).setCell hgO _).setCell hge _).setCell hge _).setCell hge _).setCell hge _).setCell hge _).setCell hge _).setCell hge _).setCell hge _).setCell hge _).setCell hge _).setCell hge _)⟩
end Go.Proofs.Ytnfidhfhmfggcaa
