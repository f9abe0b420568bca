/- Contract of the program's OutboxPut. -/
import Derived.Test.YtiakkpglnijapaaOoT
import Derived.Test.YtiakkpglnijapaaOuCl
import Derived.Test.YtiakkpglnijapaaOuD
import Derived.Deep.RegionHeld3
import Derived.Deep.DeepMust
namespace Go.Proofs.Ytiakkpglnijapaa
open Go.ChangeShapes Go.WideShapes Go.ChangeAt Go.RowKit
theorem undrewM {a b : World} (h : Below a.drew.heap.size a.drew b) : Below a.heap.size a b := (Below.refl _ _).drew.trans h
theorem unallocM {a b : World} {o : Obj} (h : Below (a.alloc o).heap.size (a.alloc o) b) : Below a.heap.size a b := ((Below.refl _ _).alloc (Nat.le_refl _) _).trans (h.mono (by simp))
theorem boxNewN {a b : World} {o : Obj} (h : Below (a.alloc o).drew.heap.size (a.alloc o).drew b) : b.heap[a.heap.size]? = some o := (h.block a.heap.size (by show a.heap.size < (a.alloc o).heap.size; simp)).trans (World.alloc_heap_new a o)
theorem gtNew {a : World} {o : Obj} {g : Nat} (h : (a.alloc o).drew.heap.size ≤ g) : a.heap.size < g := by
  have e : (a.alloc o).drew.heap.size = a.heap.size + 1 := by show (a.alloc o).heap.size = _; simp
  omega
set_option maxRecDepth 20000 in
set_option maxHeartbeats 8000000 in
theorem outboxPut_impl (ad : Addr) (Cp : Nat) (rs : List OutR) (l : OutR) (w : World) (h : RowOu w (.slice (some ad) rs.length Cp) rs) (hz : ∀ c ∈ rs, c.partner.size ≤ 1048576 ∧ c.text.size ≤ 1048576) (hzl : l.partner.size ≤ 1048576 ∧ l.text.size ≤ 1048576) :
    Calls Try.prog 7 #[.slice (some ad) rs.length Cp, .agg #[.string l.partner, .int .i64 l.number, .string l.text, .int .i64 l.tries, .int .i64 l.due]] w fun e w' => ∃ u b, e = .returned (.agg #[u, .slice none 0 0, .slice none 0 0, .int .i64 (putO rs l).code]) ∧ w.heap.size ≤ b ∧ LOu b w' u (putO rs l).list ∧ Below w.heap.size w w' := by
  have hlen := h.len
  have HZ : Hid (∀ c, c = l ∨ c ∈ rs → c.partner.size ≤ 1048576 ∧ c.text.size ≤ 1048576) := fun c hc => by
    rcases hc with rfl | hc
    · exact hzl
    · exact hz c hc
  clear hz hzl
  obtain ⟨W0, hW0⟩ : ∃ W0, (w.alloc (.cells #[.string l.partner, .int .i64 l.number, .string l.text, .int .i64 l.tries, .int .i64 l.due] 25)).alloc (.cells #[.slice none 0 0, .slice none 0 0, .slice none 0 0, .int .i64 0] 30) = W0 := ⟨_, rfl⟩
  have hb0 : Below w.heap.size w W0 := by rw [← hW0]; exact ((Below.refl _ _).alloc (Nat.le_refl _) _).alloc (by simp) _
  obtain ⟨k0, k1⟩ := fl_twoU w (.cells #[.string l.partner, .int .i64 l.number, .string l.text, .int .i64 l.tries, .int .i64 l.due] 25) (.cells #[.slice none 0 0, .slice none 0 0, .slice none 0 0, .int .i64 0] 30)
  rw [hW0] at k0 k1
  obtain ⟨B, hB⟩ : ∃ B, B = w.heap.size := ⟨_, rfl⟩
  obtain ⟨R, hR⟩ : ∃ R, R = w.heap.size + 1 := ⟨_, rfl⟩
  rw [← hB] at k0
  rw [← hR] at k1
  have hge : w.heap.size ≤ R := by omega
  have hBR : B ≠ R := by omega
  have HK : Hid (∀ W, Below W0.heap.size W0 W → W.heap[B]? = some (.cells #[.string l.partner, .int .i64 l.number, .string l.text, .int .i64 l.tries, .int .i64 l.due] 25) ∧ W.heap[R]? = some (.cells #[.slice none 0 0, .slice none 0 0, .slice none 0 0, .int .i64 0] 30)) := fun W hW => ⟨(hW.block _ (Array.getElem?_eq_some_iff.1 k0).1).trans k0, (hW.block _ (Array.getElem?_eq_some_iff.1 k1).1).trans k1⟩
  have HB : Hid (Below w.heap.size w W0) := hb0
  have HRW : Hid (∀ W, Below W0.heap.size W0 W → RowOu W (.slice (some ad) rs.length Cp) rs) := fun W hW => (h.below hb0).below hW
  have HW : Hid ((w.alloc (.cells #[.string l.partner, .int .i64 l.number, .string l.text, .int .i64 l.tries, .int .i64 l.due] 25)).alloc (.cells #[.slice none 0 0, .slice none 0 0, .slice none 0 0, .int .i64 0] 30) = W0 ∧ B = w.heap.size ∧ R = w.heap.size + 1) := ⟨hW0, hB, hR⟩
  clear hW0 hb0 k0 k1 hB hR h
  go_enter Try.func7, Try.ntmps7
  go_upto_region 1 with fail
  try rw [HW.out.1]
  try rw [← HW.out.2.2]
  try rw [← HW.out.2.1]
  clear HW
  by_cases h4 : 400 < rs.length
  · have h4' : (400 : Int) < (rs.length : Int) := by omega
    have hRe := (HK.out W0 (Below.refl W0.heap.size W0)).2
    obtain ⟨r0, r1, r2, r3⟩ := bx4 hRe
    have hfR : ∀ o, W0.frozen? ⟨R, o, none⟩ = false := fun o => by simp [World.frozen?, hRe]
    have HEE : Hid (Below w.heap.size w W0 ∧ W0.heap[R]? = some (.cells #[.slice none 0 0, .slice none 0 0, .slice none 0 0, .int .i64 0] 30)) := ⟨HB.out.trans ((Below.refl W0.heap.size W0).mono HB.out.size), hRe⟩
    clear hRe
    go_wp2
    obtain ⟨f0, f1, f2, f3⟩ := bx4 (st4 (y0 := .slice none 0 0) (y1 := .slice none 0 0) (y2 := .slice none 0 0) (y3 := .int .i64 2) HEE.out.2)
    have HFB : Hid (Below w.heap.size w ((((W0.setCell ⟨R, 0, none⟩ (.slice none 0 0)).setCell ⟨R, 1, none⟩ (.slice none 0 0)).setCell ⟨R, 2, none⟩ (.slice none 0 0)).setCell ⟨R, 3, none⟩ (.int .i64 2))) := (((HEE.out.1.setCell hge _).setCell hge _).setCell hge _).setCell hge _
    refine bodyPost_ret (v := .agg #[.slice none 0 0, .slice none 0 0, .slice none 0 0, .int .i64 2]) (by simp [results, Try.results7, go_sem, f0, f1, f2, f3]) rfl ?_
    rw [putO_big h4]
    exact ⟨_, w.heap.size, rfl, Nat.le_refl _, LOu.nil _ _, HFB.out⟩
  have h4' : ¬ (400 : Int) < (rs.length : Int) := by omega
  go_wp2_with fail
  refine (outboxRight_impl _ rs _ (HRW.out _ (Below.refl _ _))).mono ?_
  rintro e w1 ⟨rfl, hb1⟩
  have H1 : Hid (Below W0.heap.size W0 w1) := hb1
  clear hb1
  cases hrb : ousB rs
  · have HE : Hid (putO rs l = errO 1) := putO_form h4 fun ⟨h, _⟩ => ousB_iff'.1 hrb h
    clear hrb
    have hRe := (HK.out w1 (H1.out)).2
    obtain ⟨r0, r1, r2, r3⟩ := bx4 hRe
    have hfR : ∀ o, w1.frozen? ⟨R, o, none⟩ = false := fun o => by simp [World.frozen?, hRe]
    have HEE : Hid (Below w.heap.size w w1 ∧ w1.heap[R]? = some (.cells #[.slice none 0 0, .slice none 0 0, .slice none 0 0, .int .i64 0] 30)) := ⟨HB.out.trans ((H1.out).mono HB.out.size), hRe⟩
    clear hRe
    go_wp2
    obtain ⟨f0, f1, f2, f3⟩ := bx4 (st4 (y0 := .slice none 0 0) (y1 := .slice none 0 0) (y2 := .slice none 0 0) (y3 := .int .i64 1) HEE.out.2)
    have HFB : Hid (Below w.heap.size w ((((w1.setCell ⟨R, 0, none⟩ (.slice none 0 0)).setCell ⟨R, 1, none⟩ (.slice none 0 0)).setCell ⟨R, 2, none⟩ (.slice none 0 0)).setCell ⟨R, 3, none⟩ (.int .i64 1))) := (((HEE.out.1.setCell hge _).setCell hge _).setCell hge _).setCell hge _
    refine bodyPost_ret (v := .agg #[.slice none 0 0, .slice none 0 0, .slice none 0 0, .int .i64 1]) (by simp [results, Try.results7, go_sem, f0, f1, f2, f3]) rfl ?_
    rw [HE.out]
    exact ⟨_, w.heap.size, rfl, Nat.le_refl _, LOu.nil _ _, HFB.out⟩
  have HRL : Hid (RightO rs) := ousB_iff.1 hrb
  clear hrb
  obtain ⟨ok, hok⟩ : ∃ ok, ok = ouB l := ⟨_, rfl⟩
  have Q2 := fun w => right_any l w (by have := (HZ.out l (.inl rfl)).2; omega)
  rw [← hok] at Q2
  have HOK : Hid (ok = ouB l) := hok
  clear hok
  obtain ⟨c0, c1, c2, c3, c4⟩ := box5 (HK.out w1 H1.out).1
  go_wp2_with fail
  refine (Q2 _).mono ?_
  rintro e w2 ⟨rfl, hg2⟩
  have H2 : Hid (Below W0.heap.size W0 w2) := H1.out.trans (hg2.mono H1.out.size)
  clear hg2 c0 c1 c2 c3 c4 Q2
  cases ok with
  | false =>
    have HE : Hid (putO rs l = errO 1) := putO_form h4 fun ⟨_, h⟩ => ouB_iff'.1 HOK.out.symm h
    have hRe := (HK.out w2 (H2.out)).2
    obtain ⟨r0, r1, r2, r3⟩ := bx4 hRe
    have hfR : ∀ o, w2.frozen? ⟨R, o, none⟩ = false := fun o => by simp [World.frozen?, hRe]
    have HEE : Hid (Below w.heap.size w w2 ∧ w2.heap[R]? = some (.cells #[.slice none 0 0, .slice none 0 0, .slice none 0 0, .int .i64 0] 30)) := ⟨HB.out.trans ((H2.out).mono HB.out.size), hRe⟩
    clear hRe
    go_wp2
    obtain ⟨f0, f1, f2, f3⟩ := bx4 (st4 (y0 := .slice none 0 0) (y1 := .slice none 0 0) (y2 := .slice none 0 0) (y3 := .int .i64 1) HEE.out.2)
    have HFB : Hid (Below w.heap.size w ((((w2.setCell ⟨R, 0, none⟩ (.slice none 0 0)).setCell ⟨R, 1, none⟩ (.slice none 0 0)).setCell ⟨R, 2, none⟩ (.slice none 0 0)).setCell ⟨R, 3, none⟩ (.int .i64 1))) := (((HEE.out.1.setCell hge _).setCell hge _).setCell hge _).setCell hge _
    refine bodyPost_ret (v := .agg #[.slice none 0 0, .slice none 0 0, .slice none 0 0, .int .i64 1]) (by simp [results, Try.results7, go_sem, f0, f1, f2, f3]) rfl ?_
    rw [HE.out]
    exact ⟨_, w.heap.size, rfl, Nat.le_refl _, LOu.nil _ _, HFB.out⟩
  | true =>
  have HOL : Hid (OuOk l) := ouB_iff.1 HOK.out.symm
  obtain ⟨m, hm⟩ : ∃ m, m = plcO rs (tgtO l.partner l.number) := ⟨_, rfl⟩
  obtain ⟨q, hq⟩ : ∃ q, q = (rs[plcO rs (tgtO l.partner l.number)]?).any fun x => decide (ocmp x (tgtO l.partner l.number) = 0) := ⟨_, rfl⟩
  have Q3 := place_any (.slice (some ad) rs.length Cp) rs l.partner l.number w2 (HRW.out _ H2.out) (by omega) HRL.out.pair
  rw [← hq, ← hm] at Q3
  have HQ : Hid (q = (rs[plcO rs (tgtO l.partner l.number)]?).any fun x => decide (ocmp x (tgtO l.partner l.number) = 0)) := hq
  have HM : Hid (m = plcO rs l) := by rw [hm]; exact plc_tgt rs l
  have hpl : m ≤ rs.length := by rw [HM.out]; exact plc_le rs l
  clear hm hq
  obtain ⟨c0, c1, c2, c3, c4⟩ := box5 (HK.out w2 H2.out).1
  go_wp2_with fail
  refine Q3.mono ?_
  rintro e w3 ⟨rfl, hb3⟩
  have H3 : Hid (Below W0.heap.size W0 w3) := H2.out.trans (hb3.mono H2.out.size)
  clear hb3 c0 c1 c2 c3 c4 Q3
  cases q with
  | true =>
    have HE : Hid (putO rs l = errO 11) := putO_there HRL.out HOL.out (by
      obtain ⟨x, hx, hk⟩ := place_yes HQ.out.symm
      exact ⟨x, List.mem_of_getElem? hx, hk.trans (tgt_key l)⟩)
    have hRe := (HK.out w3 (H3.out)).2
    obtain ⟨r0, r1, r2, r3⟩ := bx4 hRe
    have hfR : ∀ o, w3.frozen? ⟨R, o, none⟩ = false := fun o => by simp [World.frozen?, hRe]
    have HEE : Hid (Below w.heap.size w w3 ∧ w3.heap[R]? = some (.cells #[.slice none 0 0, .slice none 0 0, .slice none 0 0, .int .i64 0] 30)) := ⟨HB.out.trans ((H3.out).mono HB.out.size), hRe⟩
    clear hRe
    go_wp2
    obtain ⟨f0, f1, f2, f3⟩ := bx4 (st4 (y0 := .slice none 0 0) (y1 := .slice none 0 0) (y2 := .slice none 0 0) (y3 := .int .i64 11) HEE.out.2)
    have HFB : Hid (Below w.heap.size w ((((w3.setCell ⟨R, 0, none⟩ (.slice none 0 0)).setCell ⟨R, 1, none⟩ (.slice none 0 0)).setCell ⟨R, 2, none⟩ (.slice none 0 0)).setCell ⟨R, 3, none⟩ (.int .i64 11))) := (((HEE.out.1.setCell hge _).setCell hge _).setCell hge _).setCell hge _
    refine bodyPost_ret (v := .agg #[.slice none 0 0, .slice none 0 0, .slice none 0 0, .int .i64 11]) (by simp [results, Try.results7, go_sem, f0, f1, f2, f3]) rfl ?_
    rw [HE.out]
    exact ⟨_, w.heap.size, rfl, Nat.le_refl _, LOu.nil _ _, HFB.out⟩
  | false =>
  have HNO : Hid (∀ x ∈ rs, keyO x ≠ keyO l) := place_no HRL.out HQ.out.symm
  by_cases hf : rs.length = 60
  · have hf' : (rs.length : Int) = 60 := by omega
    have HE : Hid (putO rs l = errO 12) := putO_full HRL.out HOL.out HNO.out hf
    have hRe := (HK.out w3 (H3.out)).2
    obtain ⟨r0, r1, r2, r3⟩ := bx4 hRe
    have hfR : ∀ o, w3.frozen? ⟨R, o, none⟩ = false := fun o => by simp [World.frozen?, hRe]
    have HEE : Hid (Below w.heap.size w w3 ∧ w3.heap[R]? = some (.cells #[.slice none 0 0, .slice none 0 0, .slice none 0 0, .int .i64 0] 30)) := ⟨HB.out.trans ((H3.out).mono HB.out.size), hRe⟩
    clear hRe
    go_wp2
    obtain ⟨f0, f1, f2, f3⟩ := bx4 (st4 (y0 := .slice none 0 0) (y1 := .slice none 0 0) (y2 := .slice none 0 0) (y3 := .int .i64 12) HEE.out.2)
    have HFB : Hid (Below w.heap.size w ((((w3.setCell ⟨R, 0, none⟩ (.slice none 0 0)).setCell ⟨R, 1, none⟩ (.slice none 0 0)).setCell ⟨R, 2, none⟩ (.slice none 0 0)).setCell ⟨R, 3, none⟩ (.int .i64 12))) := (((HEE.out.1.setCell hge _).setCell hge _).setCell hge _).setCell hge _
    refine bodyPost_ret (v := .agg #[.slice none 0 0, .slice none 0 0, .slice none 0 0, .int .i64 12]) (by simp [results, Try.results7, go_sem, f0, f1, f2, f3]) rfl ?_
    rw [HE.out]
    exact ⟨_, w.heap.size, rfl, Nat.le_refl _, LOu.nil _ _, HFB.out⟩
  have hf' : ¬ (rs.length : Int) = 60 := by omega
  have HE : Hid (putO rs l = ⟨insT rs m l, [], [], 0⟩) := by rw [HM.out]; exact putO_yes HRL.out HOL.out HNO.out hf
  have HRW3 : Hid (∀ W, Below w3.heap.size w3 W → RowOu W (.slice (some ad) rs.length Cp) rs) := fun W hW => HRW.out W (H3.out.trans (hW.mono H3.out.size))
  have HKB : Hid (∀ W, Below w3.heap.size w3 W → W.cell? ⟨B, 0, none⟩ = some (.string l.partner) ∧ W.cell? ⟨B, 1, none⟩ = some (.int .i64 l.number) ∧ W.cell? ⟨B, 2, none⟩ = some (.string l.text) ∧ W.cell? ⟨B, 3, none⟩ = some (.int .i64 l.tries) ∧ W.cell? ⟨B, 4, none⟩ = some (.int .i64 l.due)) := fun W hW => box5 (HK.out W (H3.out.trans (hW.mono H3.out.size))).1
  have HKR : Hid (∀ W, Below w3.heap.size w3 W → W.cell? ⟨R, 0, none⟩ = some (.slice none 0 0) ∧ W.cell? ⟨R, 1, none⟩ = some (.slice none 0 0) ∧ W.cell? ⟨R, 2, none⟩ = some (.slice none 0 0) ∧ W.cell? ⟨R, 3, none⟩ = some (.int .i64 0)) := fun W hW => bx4 (HK.out W (H3.out.trans (hW.mono H3.out.size))).2
  have HFR : Hid (∀ W, Below w3.heap.size w3 W → ∀ o, W.frozen? ⟨R, o, none⟩ = false) := fun W hW o => by
    have hx := (HK.out W (H3.out.trans (hW.mono H3.out.size))).2
    simp [World.frozen?, hx]
  have HKS : Hid (∀ W, Below w3.heap.size w3 W → ∀ u, ((((W.setCell ⟨R, 0, none⟩ u).setCell ⟨R, 1, none⟩ (.slice none 0 0)).setCell ⟨R, 2, none⟩ (.slice none 0 0)).setCell ⟨R, 3, none⟩ (.int .i64 0)).cell? ⟨B, 0, none⟩ = some (.string l.partner) ∧ ((((W.setCell ⟨R, 0, none⟩ u).setCell ⟨R, 1, none⟩ (.slice none 0 0)).setCell ⟨R, 2, none⟩ (.slice none 0 0)).setCell ⟨R, 3, none⟩ (.int .i64 0)).cell? ⟨B, 1, none⟩ = some (.int .i64 l.number) ∧ ((((W.setCell ⟨R, 0, none⟩ u).setCell ⟨R, 1, none⟩ (.slice none 0 0)).setCell ⟨R, 2, none⟩ (.slice none 0 0)).setCell ⟨R, 3, none⟩ (.int .i64 0)).cell? ⟨B, 2, none⟩ = some (.string l.text) ∧ ((((W.setCell ⟨R, 0, none⟩ u).setCell ⟨R, 1, none⟩ (.slice none 0 0)).setCell ⟨R, 2, none⟩ (.slice none 0 0)).setCell ⟨R, 3, none⟩ (.int .i64 0)).cell? ⟨B, 3, none⟩ = some (.int .i64 l.tries) ∧ ((((W.setCell ⟨R, 0, none⟩ u).setCell ⟨R, 1, none⟩ (.slice none 0 0)).setCell ⟨R, 2, none⟩ (.slice none 0 0)).setCell ⟨R, 3, none⟩ (.int .i64 0)).cell? ⟨B, 4, none⟩ = some (.int .i64 l.due)) := fun W hW u => by
    have hx := (HK.out W (H3.out.trans (hW.mono H3.out.size))).1
    exact box5 (t := 25) (by rw [set_other _ _ _ _ _ hBR, set_other _ _ _ _ _ hBR, set_other _ _ _ _ _ hBR, set_other _ _ _ _ _ hBR]; exact hx)
  have HSZ : Hid (∀ x, x = l ∨ x ∈ rs → x.partner.size ≤ 9223372036854775807 ∧ x.text.size ≤ 9223372036854775807) := fun x hx => by
    have := HZ.out x hx
    omega
  have HZI : Hid (∀ c ∈ insT rs m l, c.partner.size ≤ 1048576 ∧ c.text.size ≤ 1048576) := fun c hc => HZ.out c (insT_mem hc)
  have hil : (insT rs m l).length ≤ 1048576 := by rw [insT_len _ _ _ hpl]; omega
  go_upto_region 10 with fail
  obtain ⟨c0, c1, c2, c3, c4⟩ := HKB.out w3 (Below.refl _ _)
  obtain ⟨d0, d1, d2, d3, d4⟩ := HKB.out (w3.alloc (.cells #[.string l.partner, .int .i64 l.number, .string l.text, .int .i64 l.tries, .int .i64 l.due] 25)) ((Below.refl _ _).alloc (Nat.le_refl _) _)
  have nB : B < w3.heap.size := cell_lt c0
  have nR : R < w3.heap.size := cell_lt (HKR.out w3 (Below.refl _ _)).1
  go_region_held3 (fun W => W.cell? ⟨B, 0, none⟩ = some (.string l.partner) ∧ W.cell? ⟨B, 1, none⟩ = some (.int .i64 l.number) ∧ W.cell? ⟨B, 2, none⟩ = some (.string l.text) ∧ W.cell? ⟨B, 3, none⟩ = some (.int .i64 l.tries) ∧ W.cell? ⟨B, 4, none⟩ = some (.int .i64 l.due)) (go_keep) (first | (go_at_call 28; refine (cloneOu_any ad Cp rs _ (HRW3.out _ (by with_reducible first | exact (Below.refl _ _).drew | exact ((Below.refl _ _).alloc (Nat.le_refl _) _).drew | exact (Below.refl _ _))) (by omega)).mono ?_; rintro e w2 ⟨g, C, rfl, hO, hb2⟩; have b2 : Below w3.heap.size w3 w2 := (by with_reducible first | exact hb2 | exact undrewM hb2 | exact unallocM hb2 | exact unallocM (undrewM hb2)); obtain ⟨cur, hu1, hu2, hu3⟩ := hO.cur; have hO1 := hO.ge; have hO2 := hO.len; have hO3 := hO.cap; obtain ⟨a0, a1, a2, a3, a4⟩ := HKB.out w2 b2; obtain ⟨aa0, aa1, aa2, aa3, aa4⟩ := HKB.out (w2.alloc (.cells #[.string l.partner, .int .i64 l.number, .string l.text, .int .i64 l.tries, .int .i64 l.due] 25)) (b2.alloc b2.size _); have gl := (Array.getElem?_eq_some_iff.1 hu1).1; have kn := World.alloc_heap_new w2 (.cells #[.string l.partner, .int .i64 l.number, .string l.text, .int .i64 l.tries, .int .i64 l.due] 25); have ku := (((Below.refl _ w2).alloc (Nat.le_refl _) (.cells #[.string l.partner, .int .i64 l.number, .string l.text, .int .i64 l.tries, .int .i64 l.due] 25)).block g gl).trans hu1; (try (with_reducible have kx := boxNewN hb2)); (try (with_reducible have gx := gtNew hO1)); (try clear hb2); try dsimp only) | (go_at_call 27; refine (insert_any rs l g w3.heap.size _ C w3.heap.size cur _ hu1 hu2 hO2 hO3 hu3 kx (Nat.ne_of_lt gx) (Nat.le_of_lt gx) b2.size (by omega) HSZ.out hpl).mono ?_; rintro e w5 ⟨u, rfl, hr5, hb5⟩; have b5 : Below w3.heap.size w3 w5 := b2.trans hb5; obtain ⟨h0, h1, h2, h3, h4⟩ := HKB.out w5 b5; clear hb5; try dsimp only) | (go_at_call 27; go_must (refine (insert_any rs l g w2.heap.size _ C w3.heap.size cur _ ku hu2 hO2 hO3 hu3 kn (Nat.ne_of_gt gl) hO1 (b2.alloc b2.size _).size (by omega) HSZ.out hpl).mono ?_); rintro e w5 ⟨u, rfl, hr5, hb5⟩; have b5 : Below w3.heap.size w3 w5 := (b2.alloc b2.size _).trans hb5; obtain ⟨h0, h1, h2, h3, h4⟩ := HKB.out w5 b5; clear hb5; try dsimp only) | (go_at_call 26; refine (copyOus_any _ (insT rs m l) _ hr5 hil HZI.out).mono ?_; rintro e w6 ⟨u6, b6, rfl, hg6, hL6, hb6⟩; obtain ⟨A6, C6, rfl⟩ := hL6.val; have b6' : Below w3.heap.size w3 w6 := b5.trans (hb6.mono b5.size); obtain ⟨i0, i1, i2, i3, i4⟩ := HKB.out w6 b6'; obtain ⟨r0, r1, r2, r3⟩ := HKR.out w6 b6'; have hfR := HFR.out w6 b6'; obtain ⟨j0, j1, j2, j3, j4⟩ := HKS.out w6 b6' (.slice A6 (insT rs m l).length C6); have hg6' : w3.heap.size ≤ b6 := Nat.le_trans b5.size hg6; clear hb6; try dsimp only) | fail)
  all_goals rename_i hHeld
  all_goals clear hHeld
  all_goals go_wp2
  all_goals obtain ⟨f0, f1, f2, f3⟩ := bx4 (st4 (y0 := .slice A6 (insT rs m l).length C6) (y1 := .slice none 0 0) (y2 := .slice none 0 0) (y3 := .int .i64 0) (HK.out w6 (H3.out.trans (b6'.mono H3.out.size))).2)
  all_goals refine bodyPost_ret (v := .agg #[.slice A6 (insT rs m l).length C6, .slice none 0 0, .slice none 0 0, .int .i64 0]) (by simp [results, Try.results7, go_sem, f0, f1, f2, f3]) rfl ?_
  all_goals have hb9 : Below w.heap.size w w6 := HB.out.trans ((H3.out.trans (b6'.mono H3.out.size)).mono HB.out.size)
  all_goals have hne : b6 ≠ R := by omega
  all_goals rw [HE.out]
  all_goals exact ⟨_, b6, rfl, Nat.le_trans (HB.out.trans (H3.out.mono HB.out.size)).size hg6', (((hL6.setR hne 0 _).setR hne 1 _).setR hne 2 _).setR hne 3 _, (((hb9.setCell hge _).setCell hge _).setCell hge _).setCell hge _⟩
end Go.Proofs.Ytiakkpglnijapaa
