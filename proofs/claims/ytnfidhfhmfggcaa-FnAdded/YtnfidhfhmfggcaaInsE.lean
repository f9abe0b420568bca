/- Contract of the program's LinesAdd. -/
import Derived.Test.YtnfidhfhmfggcaaInsP
import Derived.Test.YtnfidhfhmfggcaaInsC
import Derived.Test.YtnfidhfhmfggcaaInsD
import Derived.Test.YtnfidhfhmfggcaaLnG
import Derived.Deep.RegionHeld3
import Derived.Deep.DeepMust
import Derived.Deep.Cut
import Derived.Deep.CutRange
namespace Go.Proofs.Ytnfidhfhmfggcaa
open Go.ChangeShapes Go.WideShapes Go.ChangeAt Go.RowKit
theorem undrewM {a b : World} (h : Below a.drew.heap.size a.drew b) : Below a.heap.size a b := (Below.refl _ _).drew.trans h
theorem unallocM {a b : World} {o : Obj} (h : Below (a.alloc o).heap.size (a.alloc o) b) : Below a.heap.size a b := ((Below.refl _ _).alloc (Nat.le_refl _) _).trans (h.mono (by simp))
theorem boxNewN {a b : World} {o : Obj} (h : Below (a.alloc o).drew.heap.size (a.alloc o).drew b) : b.heap[a.heap.size]? = some o := (h.block a.heap.size (by show a.heap.size < (a.alloc o).heap.size; simp)).trans (World.alloc_heap_new a o)
theorem gtNew {a : World} {o : Obj} {g : Nat} (h : (a.alloc o).drew.heap.size ≤ g) : a.heap.size < g := by
  have e : (a.alloc o).drew.heap.size = a.heap.size + 1 := by show (a.alloc o).heap.size = _; simp
  omega
set_option maxRecDepth 20000 in
set_option maxHeartbeats 4000000 in
theorem linesAdd_impl (ad : Addr) (Cp : Nat) (rs : List OLn) (l : OLn) (w : World) (h : RowOl w (.slice (some ad) rs.length Cp) rs) (hz : ∀ c ∈ rs, c.partner.size ≤ 1048576 ∧ c.ref.size ≤ 1048576 ∧ c.item.size ≤ 1048576) (hzl : l.partner.size ≤ 1048576 ∧ l.ref.size ≤ 1048576 ∧ l.item.size ≤ 1048576) :
    Calls Try.prog 14 #[.slice (some ad) rs.length Cp, .agg #[.string l.partner, .string l.ref, .int .i64 l.no, .string l.item, .int .i64 l.ordered, .int .i64 l.sent, .int .i64 l.got, .int .i64 l.cut]] w fun e w' => ∃ u b, e = .returned u ∧ w.heap.size ≤ b ∧ LOl b w' u (addT rs l) ∧ Below w.heap.size w w' := by
  have hlen := h.len
  obtain ⟨W0, hW0⟩ : ∃ W0, w.alloc (.cells #[.string l.partner, .string l.ref, .int .i64 l.no, .string l.item, .int .i64 l.ordered, .int .i64 l.sent, .int .i64 l.got, .int .i64 l.cut] 24) = W0 := ⟨_, rfl⟩
  have hb0 : Below w.heap.size w W0 := by rw [← hW0]; exact (Below.refl _ _).alloc (Nat.le_refl _) _
  have hx0 : W0.heap[w.heap.size]? = some (.cells #[.string l.partner, .string l.ref, .int .i64 l.no, .string l.item, .int .i64 l.ordered, .int .i64 l.sent, .int .i64 l.got, .int .i64 l.cut] 24) := by rw [← hW0]; exact World.alloc_heap_new _ _
  obtain ⟨B, hB⟩ : ∃ B, B = w.heap.size := ⟨_, rfl⟩
  rw [← hB] at hx0
  have H0 : Hid (Below w.heap.size w W0 ∧ W0.heap[B]? = some (.cells #[.string l.partner, .string l.ref, .int .i64 l.no, .string l.item, .int .i64 l.ordered, .int .i64 l.sent, .int .i64 l.got, .int .i64 l.cut] 24) ∧ RowOl W0 (.slice (some ad) rs.length Cp) rs) := ⟨hb0, hx0, h.below hb0⟩
  have HW : Hid (w.alloc (.cells #[.string l.partner, .string l.ref, .int .i64 l.no, .string l.item, .int .i64 l.ordered, .int .i64 l.sent, .int .i64 l.got, .int .i64 l.cut] 24) = W0 ∧ B = w.heap.size) := ⟨hW0, hB⟩
  have HZ : Hid (∀ c, c = l ∨ c ∈ rs → c.partner.size ≤ 1048576 ∧ c.ref.size ≤ 1048576 ∧ c.item.size ≤ 1048576) := fun c hc => by
    rcases hc with rfl | hc
    · exact hzl
    · exact hz c hc
  clear hW0 hb0 hx0 hB h hz hzl
  go_enter Try.func14, Try.ntmps14
  go_upto_region 1 with fail
  try rw [HW.out.1]
  try rw [← HW.out.2]
  clear HW
  by_cases h4 : 400 < rs.length
  · have h4' : (400 : Int) < (rs.length : Int) := by omega
    go_wp2
    go_ret
    exact ⟨_, w.heap.size, rfl, Nat.le_refl _, by rw [addT_big h4]; exact ⟨⟨none, 0, rfl, fun h => absurd rfl h⟩, by simp, fun i g hi => by simp at hi⟩, H0.out.1⟩
  have h4' : ¬ (400 : Int) < (rs.length : Int) := by omega
  have HQ : Hid (∀ W, Below w.heap.size w W → RowOl W (.slice (some ad) rs.length Cp) rs → addT rs l = rs → Calls Try.prog 41 #[.slice (some ad) rs.length Cp] W fun e w' => ∃ u b, e = .returned u ∧ w.heap.size ≤ b ∧ LOl b w' u (addT rs l) ∧ Below w.heap.size w w') := fun W hW hR hA => by
    refine (copyOls_any _ rs W hR (by omega) (fun c hc => HZ.out c (.inr hc))).mono ?_
    rintro e w' ⟨u, b, he, h1, h2, h3⟩
    exact ⟨u, b, he, Nat.le_trans hW.size h1, by rw [hA]; exact h2, hW.trans (h3.mono hW.size)⟩
  go_wp2_with fail
  refine (linesRight_impl _ rs _ H0.out.2.2).mono ?_
  rintro e wz ⟨rfl, hb1⟩
  have H1 : Hid (Below w.heap.size w wz ∧ wz.heap[B]? = some (.cells #[.string l.partner, .string l.ref, .int .i64 l.no, .string l.item, .int .i64 l.ordered, .int .i64 l.sent, .int .i64 l.got, .int .i64 l.cut] 24) ∧ RowOl wz (.slice (some ad) rs.length Cp) rs) := ⟨H0.out.1.trans (hb1.mono H0.out.1.size), (hb1.block _ (Array.getElem?_eq_some_iff.1 H0.out.2.1).1).trans H0.out.2.1, H0.out.2.2.below hb1⟩
  clear hb1 H0
  cases hrb : lnsB rs
  · have HE : Hid (addT rs l = rs) := addT_no h4 fun ⟨h, _⟩ => lnsB_iff'.1 hrb h
    clear hrb
    go_wp2_with fail
    refine (HQ.out _ H1.out.1 H1.out.2.2 HE.out).mono ?_
    rintro e w2 ⟨u, b, rfl, h1, h2, h3⟩
    have H2 : Hid _ := And.intro h1 (And.intro h2 h3)
    clear h1 h2 h3
    go_wp2
    go_ret
    exact ⟨_, b, rfl, H2.out.1, H2.out.2.1, H2.out.2.2⟩
  have HRL : Hid (RightL rs) := lnsB_iff.1 hrb
  clear hrb
  obtain ⟨m, hm⟩ : ∃ m, m = plcL rs l := ⟨_, rfl⟩
  obtain ⟨q, hq⟩ : ∃ q, q = (rs[plcL rs l]?).any fun x => decide (lcmp x l = 0) := ⟨_, rfl⟩
  have QP : Hid (∀ W, RowOl W (.slice (some ad) rs.length Cp) rs → Calls Try.prog 38 #[.slice (some ad) rs.length Cp, .agg #[.string l.partner, .string l.ref, .int .i64 l.no, .string l.item, .int .i64 l.ordered, .int .i64 l.sent, .int .i64 l.got, .int .i64 l.cut]] W fun e w' => e = .returned (.tuple #[.int .i64 (m : Int), .bool q]) ∧ Below W.heap.size W w') := fun W hW => by
    have := place_any (.slice (some ad) rs.length Cp) rs l W hW (by omega) HRL.out.pair
    rw [← hq, ← hm] at this
    exact this
  have hpl : m ≤ rs.length := by rw [hm]; exact plc_le rs l
  have HM : Hid (m = plcL rs l) := hm
  clear hm hq
  obtain ⟨c0, c1, c2, c3, c4, c5, c6, c7⟩ := box8 H1.out.2.1
  go_wp2_with fail
  refine (QP.out _ H1.out.2.2).mono ?_
  rintro e w1 ⟨rfl, hb1b⟩
  have H1b : Hid (Below w.heap.size w w1 ∧ w1.heap[B]? = some (.cells #[.string l.partner, .string l.ref, .int .i64 l.no, .string l.item, .int .i64 l.ordered, .int .i64 l.sent, .int .i64 l.got, .int .i64 l.cut] 24) ∧ RowOl w1 (.slice (some ad) rs.length Cp) rs) := ⟨H1.out.1.trans (hb1b.mono H1.out.1.size), (hb1b.block _ (Array.getElem?_eq_some_iff.1 H1.out.2.1).1).trans H1.out.2.1, H1.out.2.2.below hb1b⟩
  clear hb1b H1 c0 c1 c2 c3 c4 c5 c6 c7 QP
  go_upto_region 5 with fail
  obtain ⟨c0, c1, c2, c3, c4, c5, c6, c7⟩ := box8 H1b.out.2.1
  have HK : Hid (∀ W, Below w1.heap.size w1 W → W.cell? ⟨B, 0, none⟩ = some (.string l.partner) ∧ W.cell? ⟨B, 1, none⟩ = some (.string l.ref) ∧ W.cell? ⟨B, 2, none⟩ = some (.int .i64 l.no) ∧ W.cell? ⟨B, 3, none⟩ = some (.string l.item) ∧ W.cell? ⟨B, 4, none⟩ = some (.int .i64 l.ordered) ∧ W.cell? ⟨B, 5, none⟩ = some (.int .i64 l.sent) ∧ W.cell? ⟨B, 6, none⟩ = some (.int .i64 l.got) ∧ W.cell? ⟨B, 7, none⟩ = some (.int .i64 l.cut)) := fun W hW => box8 ((hW.block _ (Array.getElem?_eq_some_iff.1 H1b.out.2.1).1).trans H1b.out.2.1)
  have HRW : Hid (∀ W, Below w1.heap.size w1 W → RowOl W (.slice (some ad) rs.length Cp) rs) := fun W hW => H1b.out.2.2.below hW
  have HSZ : Hid (∀ x, x = l ∨ x ∈ rs → x.partner.size ≤ 9223372036854775807 ∧ x.ref.size ≤ 9223372036854775807 ∧ x.item.size ≤ 9223372036854775807) := fun x hx => by
    have := HZ.out x hx
    omega
  obtain ⟨d0, d1, d2, d3, d4, d5, d6, d7⟩ := HK.out (w1.alloc (.cells #[.string l.partner, .string l.ref, .int .i64 l.no, .string l.item, .int .i64 l.ordered, .int .i64 l.sent, .int .i64 l.got, .int .i64 l.cut] 24)) ((Below.refl _ _).alloc (Nat.le_refl _) _)
  have nB : B < w1.heap.size := cell_lt c0
  go_cut [7] from 19 to 24 (fun s7 wx => ∃ A C, s7 = .slice A (insT rs m l).length C ∧ RowOl wx s7 (insT rs m l) ∧ Below w1.heap.size w1 wx)
  case first =>
    go_region_held3 (fun W => W.cell? ⟨B, 0, none⟩ = some (.string l.partner) ∧ W.cell? ⟨B, 1, none⟩ = some (.string l.ref) ∧ W.cell? ⟨B, 2, none⟩ = some (.int .i64 l.no) ∧ W.cell? ⟨B, 3, none⟩ = some (.string l.item) ∧ W.cell? ⟨B, 4, none⟩ = some (.int .i64 l.ordered) ∧ W.cell? ⟨B, 5, none⟩ = some (.int .i64 l.sent) ∧ W.cell? ⟨B, 6, none⟩ = some (.int .i64 l.got) ∧ W.cell? ⟨B, 7, none⟩ = some (.int .i64 l.cut)) (go_keep) (first | (go_at_call 40; refine (cloneOl_any ad Cp rs _ (HRW.out _ (by with_reducible first | exact (Below.refl _ _).drew | exact ((Below.refl _ _).alloc (Nat.le_refl _) _).drew | exact (Below.refl _ _))) (by omega)).mono ?_; rintro e w2 ⟨g, C, rfl, hO, hb2⟩; have b2 : Below w1.heap.size w1 w2 := (by with_reducible first | exact hb2 | exact undrewM hb2 | exact unallocM hb2 | exact unallocM (undrewM hb2)); obtain ⟨cur, hu1, hu2, hu3⟩ := hO.cur; have hO1 := hO.ge; have hO2 := hO.len; have hO3 := hO.cap; obtain ⟨a0, a1, a2, a3, a4, a5, a6, a7⟩ := HK.out w2 b2; obtain ⟨aa0, aa1, aa2, aa3, aa4, aa5, aa6, aa7⟩ := HK.out (w2.alloc (.cells #[.string l.partner, .string l.ref, .int .i64 l.no, .string l.item, .int .i64 l.ordered, .int .i64 l.sent, .int .i64 l.got, .int .i64 l.cut] 24)) (b2.alloc b2.size _); have gl := (Array.getElem?_eq_some_iff.1 hu1).1; have kn := World.alloc_heap_new w2 (.cells #[.string l.partner, .string l.ref, .int .i64 l.no, .string l.item, .int .i64 l.ordered, .int .i64 l.sent, .int .i64 l.got, .int .i64 l.cut] 24); have ku := (((Below.refl _ w2).alloc (Nat.le_refl _) (.cells #[.string l.partner, .string l.ref, .int .i64 l.no, .string l.item, .int .i64 l.ordered, .int .i64 l.sent, .int .i64 l.got, .int .i64 l.cut] 24)).block g gl).trans hu1; (try (with_reducible have kx := boxNewN hb2)); (try (with_reducible have gx := gtNew hO1)); (try clear hb2); try dsimp only) | (go_at_call 39; refine (insert_any rs l g w1.heap.size _ C w1.heap.size cur _ hu1 hu2 hO2 hO3 hu3 kx (Nat.ne_of_lt gx) (Nat.le_of_lt gx) b2.size (by omega) HSZ.out hpl).mono ?_; rintro e w3 ⟨u, rfl, hr3, hb3⟩; have b3 : Below w1.heap.size w1 w3 := b2.trans hb3; obtain ⟨h0, h1, h2, h3, h4, h5, h6, h7⟩ := HK.out w3 b3; clear hb3; try dsimp only) | (go_at_call 39; go_must (refine (insert_any rs l g w2.heap.size _ C w1.heap.size cur _ ku hu2 hO2 hO3 hu3 kn (Nat.ne_of_gt gl) hO1 (b2.alloc b2.size _).size (by omega) HSZ.out hpl).mono ?_); rintro e w3 ⟨u, rfl, hr3, hb3⟩; have b3 : Below w1.heap.size w1 w3 := (b2.alloc b2.size _).trans hb3; obtain ⟨h0, h1, h2, h3, h4, h5, h6, h7⟩ := HK.out w3 b3; clear hb3; try dsimp only) | fail)
    all_goals rename_i hHeld
    all_goals clear hHeld
    all_goals go_wp2_with fail
    all_goals go_meet
    all_goals obtain ⟨Au, Cu, hu⟩ := hr3.val
    all_goals exact ⟨Au, Cu, hu, hr3, b3⟩
  case rest =>
    obtain ⟨Au, Cu, rfl, hr3, hb3⟩ := hcut
    rename World => w4
    have H4 : Hid (Below w.heap.size w w4 ∧ RowOl w4 (.slice (some ad) rs.length Cp) rs ∧ RowOl w4 (.slice Au (insT rs m l).length Cu) (insT rs m l)) := ⟨H1b.out.1.trans (hb3.mono H1b.out.1.size), HRW.out _ hb3, hr3⟩
    have hil : (insT rs m l).length ≤ 401 := by rw [insT_len _ _ _ hpl]; omega
    clear hr3 hb3 HK HRW H1b c0 c1 c2 c3 c4 c5 c6 c7 d0 d1 d2 d3 d4 d5 d6 d7 nB
    go_wp2_with fail
    refine (linesRight_impl _ _ _ H4.out.2.2).mono ?_
    rintro e w5 ⟨rfl, hb5⟩
    have H5 : Hid (Below w.heap.size w w5 ∧ RowOl w5 (.slice (some ad) rs.length Cp) rs ∧ RowOl w5 (.slice Au (insT rs m l).length Cu) (insT rs m l)) := ⟨H4.out.1.trans (hb5.mono H4.out.1.size), H4.out.2.1.below hb5, H4.out.2.2.below hb5⟩
    clear hb5 H4
    cases hri : lnsB (insT rs m l)
    · have HE : Hid (addT rs l = rs) := addT_no h4 fun ⟨_, h⟩ => lnsB_iff'.1 hri (by rw [HM.out]; exact h)
      clear hri
      go_wp2_with fail
      refine (HQ.out _ H5.out.1 H5.out.2.1 HE.out).mono ?_
      rintro e w6 ⟨u, b, rfl, h1, h2, h3⟩
      have H6 : Hid _ := And.intro h1 (And.intro h2 h3)
      clear h1 h2 h3
      go_wp2
      go_ret
      exact ⟨_, b, rfl, H6.out.1, H6.out.2.1, H6.out.2.2⟩
    · have HE : Hid (addT rs l = insT rs m l) := by
        have h := lnsB_iff.1 hri
        rw [HM.out] at h ⊢
        exact addT_yes HRL.out h
      clear hri
      go_wp2_with fail
      refine (copyOls_any _ _ _ H5.out.2.2 (by omega) (fun c hc => HZ.out c (insT_mem hc))).mono ?_
      rintro e w6 ⟨u, b, rfl, h1, h2, h3⟩
      have H6 : Hid _ := And.intro h1 (And.intro h2 h3)
      clear h1 h2 h3
      go_wp2
      go_ret
      exact ⟨_, b, rfl, Nat.le_trans H5.out.1.size H6.out.1, by rw [HE.out]; exact H6.out.2.1, H5.out.1.trans (H6.out.2.2.mono H5.out.1.size)⟩
end Go.Proofs.Ytnfidhfhmfggcaa
