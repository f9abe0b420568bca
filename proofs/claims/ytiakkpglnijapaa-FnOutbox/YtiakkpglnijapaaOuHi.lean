/- Contract of the program's OutboxHeard. -/
import Derived.Test.YtiakkpglnijapaaOoT
import Derived.Test.YtiakkpglnijapaaOuG
import Derived.Test.YtiakkpglnijapaaOuD
import Derived.Deep.RegionHeld3
import Derived.Deep.DeepMust
namespace Go.Proofs.Ytiakkpglnijapaa
open Go.ChangeShapes Go.WideShapes Go.ChangeAt Go.RowKit
theorem rowOu_take {W : World} {a : Option Addr} {rs : List OutR} {C c : Nat} (h : RowOu W (.slice a rs.length C) rs) (i : Nat) (hi : i ≤ rs.length) : RowOu W (.slice a i c) (rs.take i) := by
  obtain ⟨a', cap, e, hc⟩ := h.shape
  simp only [Value.slice.injEq, true_and] at e
  obtain ⟨rfl, rfl⟩ := e
  have hl : (rs.take i).length = i := by rw [List.length_take]; omega
  refine ⟨⟨a, c, by rw [hl], fun hn => ?_⟩, by have := h.len; omega, fun j g hj => h.sizes j g ?_⟩
  · obtain ⟨b, o, ea, hcell⟩ := hc (fun e => hn (by rw [e]; simp))
    refine ⟨b, o, ea, fun j g hj => hcell j g ?_⟩
    rw [List.getElem?_take] at hj
    split at hj
    · exact hj
    · cases hj
  · rw [List.getElem?_take] at hj
    split at hj
    · exact hj
    · cases hj
theorem rowOu_drop {W : World} {b o : Nat} {rs : List OutR} {C c : Nat} (h : RowOu W (.slice (some ⟨b, o, none⟩) rs.length C) rs) (i : Nat) (hi : i ≤ rs.length) {A : Option Addr} (hA : i < rs.length → A = some ⟨b, o + i * 5, none⟩) : RowOu W (.slice A (rs.length - i) c) (rs.drop i) := by
  obtain ⟨a', cap, e, hc⟩ := h.shape
  simp only [Value.slice.injEq, true_and] at e
  obtain ⟨rfl, rfl⟩ := e
  have hl : (rs.drop i).length = rs.length - i := by rw [List.length_drop]
  refine ⟨⟨A, c, by rw [hl], fun hn => ?_⟩, by have := h.len; omega, fun j g hj => h.sizes (i + j) g ?_⟩
  · have hlt : i < rs.length := by
      rcases Nat.lt_or_ge i rs.length with g | g
      · exact g
      · exact absurd (List.drop_of_length_le g) hn
    obtain ⟨b', o', ea, hcell⟩ := hc (fun e => hn (by rw [e]; simp))
    simp only [Option.some.injEq, Addr.mk.injEq, and_true] at ea
    obtain ⟨rfl, rfl⟩ := ea
    refine ⟨b, o + i * 5, hA hlt, fun j g hj => ?_⟩
    rw [List.getElem?_drop] at hj
    have := hcell (i + j) g hj
    rw [show o + (i + j) * 5 = o + i * 5 + j * 5 by omega] at this
    exact this
  · rwa [List.getElem?_drop] at hj
theorem undrewH {a b : World} (h : Below a.drew.heap.size a.drew b) : Below a.heap.size a b := (Below.refl _ _).drew.trans h
theorem unallocH {a b : World} {o : Obj} (h : Below (a.alloc o).heap.size (a.alloc o) b) : Below a.heap.size a b := ((Below.refl _ _).alloc (Nat.le_refl _) _).trans (h.mono (by simp))
set_option maxRecDepth 20000 in
set_option maxHeartbeats 8000000 in
theorem outboxHeard_impl (A : Option Addr) (Cp : Nat) (rs : List OutR) (p : ByteArray) (n : Int) (w : World) (h : RowOu w (.slice A rs.length Cp) rs) (hCp : rs.length ≤ Cp) (hCm : Cp ≤ 9223372036854775807) (hz : ∀ c ∈ rs, c.partner.size ≤ 1048576 ∧ c.text.size ≤ 1048576) (hp : p.size ≤ 9223372036854775807) :
    Calls Try.prog 8 #[.slice A rs.length Cp, .string p, .int .i64 n] w fun e w' => AnsI w (hrdO rs p n) e w' := by
  have hlen := h.len
  have HZ : Hid (∀ c ∈ rs, c.partner.size ≤ 1048576 ∧ c.text.size ≤ 1048576) := hz
  clear hz
  obtain ⟨W0, hW0⟩ : ∃ W0, w.alloc (.cells #[.slice none 0 0, .slice none 0 0, .slice none 0 0, .int .i64 0] 30) = W0 := ⟨_, rfl⟩
  have hb0 : Below w.heap.size w W0 := by rw [← hW0]; exact (Below.refl _ _).alloc (Nat.le_refl _) _
  have k1 : W0.heap[w.heap.size]? = some (.cells #[.slice none 0 0, .slice none 0 0, .slice none 0 0, .int .i64 0] 30) := by rw [← hW0]; exact World.alloc_heap_new _ _
  obtain ⟨R, hR⟩ : ∃ R, R = w.heap.size := ⟨_, rfl⟩
  rw [← hR] at k1
  have hge : w.heap.size ≤ R := by omega
  have HK : Hid (∀ W, Below W0.heap.size W0 W → W.heap[R]? = some (.cells #[.slice none 0 0, .slice none 0 0, .slice none 0 0, .int .i64 0] 30)) := fun W hW => (hW.block _ (Array.getElem?_eq_some_iff.1 k1).1).trans k1
  have HB : Hid (Below w.heap.size w W0) := hb0
  have HRW : Hid (∀ W, Below W0.heap.size W0 W → RowOu W (.slice A rs.length Cp) rs) := fun W hW => (h.below hb0).below hW
  have HW : Hid (w.alloc (.cells #[.slice none 0 0, .slice none 0 0, .slice none 0 0, .int .i64 0] 30) = W0 ∧ R = w.heap.size) := ⟨hW0, hR⟩
  clear hW0 hb0 k1 hR h
  go_enter Try.func8, Try.ntmps8
  go_upto_region 1 with fail
  try rw [HW.out.1]
  try rw [← HW.out.2]
  clear HW
  by_cases h4 : 400 < rs.length
  · have h4' : (400 : Int) < (rs.length : Int) := by omega
    have hRe := (HK.out W0 (Below.refl W0.heap.size W0))
    obtain ⟨r0, r1, r2, r3⟩ := bx4 hRe
    have hfR : ∀ o, W0.frozen? ⟨R, o, none⟩ = false := fun o => by simp [World.frozen?, hRe]
    have HEE : Hid (Below w.heap.size w W0 ∧ W0.heap[R]? = some (.cells #[.slice none 0 0, .slice none 0 0, .slice none 0 0, .int .i64 0] 30)) := ⟨HB.out.trans ((Below.refl W0.heap.size W0).mono HB.out.size), hRe⟩
    clear hRe
    go_wp2
    obtain ⟨f0, f1, f2, f3⟩ := bx4 (st4 (y0 := .slice none 0 0) (y1 := .slice none 0 0) (y2 := .slice none 0 0) (y3 := .int .i64 2) HEE.out.2)
    have HFB : Hid (Below w.heap.size w ((((W0.setCell ⟨R, 0, none⟩ (.slice none 0 0)).setCell ⟨R, 1, none⟩ (.slice none 0 0)).setCell ⟨R, 2, none⟩ (.slice none 0 0)).setCell ⟨R, 3, none⟩ (.int .i64 2))) := (((HEE.out.1.setCell hge _).setCell hge _).setCell hge _).setCell hge _
    refine bodyPost_ret (v := .agg #[.slice none 0 0, .slice none 0 0, .slice none 0 0, .int .i64 2]) (by simp [results, Try.results8, go_sem, f0, f1, f2, f3]) rfl ?_
    rw [hrdO_big (.inl h4)]
    exact ansI_err 2 HFB.out
  have h4' : ¬ (400 : Int) < (rs.length : Int) := by omega
  by_cases h5 : 20000 < p.size
  · have h5' : (20000 : Int) < (p.size : Int) := by omega
    have hRe := (HK.out W0 (Below.refl W0.heap.size W0))
    obtain ⟨r0, r1, r2, r3⟩ := bx4 hRe
    have hfR : ∀ o, W0.frozen? ⟨R, o, none⟩ = false := fun o => by simp [World.frozen?, hRe]
    have HEE : Hid (Below w.heap.size w W0 ∧ W0.heap[R]? = some (.cells #[.slice none 0 0, .slice none 0 0, .slice none 0 0, .int .i64 0] 30)) := ⟨HB.out.trans ((Below.refl W0.heap.size W0).mono HB.out.size), hRe⟩
    clear hRe
    go_wp2
    obtain ⟨f0, f1, f2, f3⟩ := bx4 (st4 (y0 := .slice none 0 0) (y1 := .slice none 0 0) (y2 := .slice none 0 0) (y3 := .int .i64 2) HEE.out.2)
    have HFB : Hid (Below w.heap.size w ((((W0.setCell ⟨R, 0, none⟩ (.slice none 0 0)).setCell ⟨R, 1, none⟩ (.slice none 0 0)).setCell ⟨R, 2, none⟩ (.slice none 0 0)).setCell ⟨R, 3, none⟩ (.int .i64 2))) := (((HEE.out.1.setCell hge _).setCell hge _).setCell hge _).setCell hge _
    refine bodyPost_ret (v := .agg #[.slice none 0 0, .slice none 0 0, .slice none 0 0, .int .i64 2]) (by simp [results, Try.results8, go_sem, f0, f1, f2, f3]) rfl ?_
    rw [hrdO_big (.inr h5)]
    exact ansI_err 2 HFB.out
  have h5' : ¬ (20000 : Int) < (p.size : Int) := by omega
  have H45 : Hid (¬ (400 < rs.length ∨ 20000 < p.size)) := fun h => by omega
  go_wp2_with fail
  refine (outboxRight_impl _ rs _ (HRW.out _ (Below.refl _ _))).mono ?_
  rintro e w1 ⟨rfl, hb1⟩
  have H1 : Hid (Below W0.heap.size W0 w1) := hb1
  clear hb1
  cases hrb : ousB rs
  · have HE : Hid (hrdO rs p n = errO 1) := hrdO_form H45.out (ousB_iff'.1 hrb)
    clear hrb
    have hRe := (HK.out w1 (H1.out))
    obtain ⟨r0, r1, r2, r3⟩ := bx4 hRe
    have hfR : ∀ o, w1.frozen? ⟨R, o, none⟩ = false := fun o => by simp [World.frozen?, hRe]
    have HEE : Hid (Below w.heap.size w w1 ∧ w1.heap[R]? = some (.cells #[.slice none 0 0, .slice none 0 0, .slice none 0 0, .int .i64 0] 30)) := ⟨HB.out.trans ((H1.out).mono HB.out.size), hRe⟩
    clear hRe
    go_wp2
    obtain ⟨f0, f1, f2, f3⟩ := bx4 (st4 (y0 := .slice none 0 0) (y1 := .slice none 0 0) (y2 := .slice none 0 0) (y3 := .int .i64 1) HEE.out.2)
    have HFB : Hid (Below w.heap.size w ((((w1.setCell ⟨R, 0, none⟩ (.slice none 0 0)).setCell ⟨R, 1, none⟩ (.slice none 0 0)).setCell ⟨R, 2, none⟩ (.slice none 0 0)).setCell ⟨R, 3, none⟩ (.int .i64 1))) := (((HEE.out.1.setCell hge _).setCell hge _).setCell hge _).setCell hge _
    refine bodyPost_ret (v := .agg #[.slice none 0 0, .slice none 0 0, .slice none 0 0, .int .i64 1]) (by simp [results, Try.results8, go_sem, f0, f1, f2, f3]) rfl ?_
    rw [HE.out]
    exact ansI_err 1 HFB.out
  have HRL : Hid (RightO rs) := ousB_iff.1 hrb
  clear hrb
  obtain ⟨m, hm⟩ : ∃ m, m = plcO rs (tgtO p n) := ⟨_, rfl⟩
  obtain ⟨q, hq⟩ : ∃ q, q = (rs[plcO rs (tgtO p n)]?).any fun x => decide (ocmp x (tgtO p n) = 0) := ⟨_, rfl⟩
  have Q3 := place_any (.slice A rs.length Cp) rs p n w1 (HRW.out _ H1.out) (by omega) HRL.out.pair
  rw [← hq, ← hm] at Q3
  have HQ : Hid (q = (rs[plcO rs (tgtO p n)]?).any fun x => decide (ocmp x (tgtO p n) = 0)) := hq
  have HM : Hid (m = plcO rs (tgtO p n)) := hm
  clear hm hq
  go_wp2_with fail
  refine Q3.mono ?_
  rintro e w3 ⟨rfl, hb3⟩
  have H3 : Hid (Below W0.heap.size W0 w3) := H1.out.trans (hb3.mono H1.out.size)
  clear hb3 Q3
  cases q with
  | false =>
    have HE : Hid (hrdO rs p n = errO 6) := hrdO_none H45.out HRL.out (place_no (t := tgtO p n) HRL.out HQ.out.symm)
    have hRe := (HK.out w3 (H3.out))
    obtain ⟨r0, r1, r2, r3⟩ := bx4 hRe
    have hfR : ∀ o, w3.frozen? ⟨R, o, none⟩ = false := fun o => by simp [World.frozen?, hRe]
    have HEE : Hid (Below w.heap.size w w3 ∧ w3.heap[R]? = some (.cells #[.slice none 0 0, .slice none 0 0, .slice none 0 0, .int .i64 0] 30)) := ⟨HB.out.trans ((H3.out).mono HB.out.size), hRe⟩
    clear hRe
    go_wp2
    obtain ⟨f0, f1, f2, f3⟩ := bx4 (st4 (y0 := .slice none 0 0) (y1 := .slice none 0 0) (y2 := .slice none 0 0) (y3 := .int .i64 6) HEE.out.2)
    have HFB : Hid (Below w.heap.size w ((((w3.setCell ⟨R, 0, none⟩ (.slice none 0 0)).setCell ⟨R, 1, none⟩ (.slice none 0 0)).setCell ⟨R, 2, none⟩ (.slice none 0 0)).setCell ⟨R, 3, none⟩ (.int .i64 6))) := (((HEE.out.1.setCell hge _).setCell hge _).setCell hge _).setCell hge _
    refine bodyPost_ret (v := .agg #[.slice none 0 0, .slice none 0 0, .slice none 0 0, .int .i64 6]) (by simp [results, Try.results8, go_sem, f0, f1, f2, f3]) rfl ?_
    rw [HE.out]
    exact ansI_err 6 HFB.out
  | true =>
  obtain ⟨x, hx, hk⟩ := place_yes (t := tgtO p n) HQ.out.symm
  rw [← HM.out] at hx
  have hlt := (List.getElem?_eq_some_iff.1 hx).1
  have hlt' : (m : Int) < (rs.length : Int) := by omega
  obtain ⟨fL, hfL⟩ : ∃ fL, fL = rs.take m ++ rs.drop (m + 1) := ⟨_, rfl⟩
  have HE : Hid (hrdO rs p n = ⟨fL, [], [], 0⟩) := by
    have h1 := hrdO_yes H45.out HRL.out ⟨x, List.mem_of_getElem? hx, hk⟩
    have h2 := heard_at (t := tgtO p n) HRL.out.pair hx hk
    rw [hfL, ← h2]
    exact h1
  have hfl : fL.length ≤ 400 := by rw [hfL, List.length_append, List.length_take, List.length_drop]; omega
  have HFM : Hid (∀ c ∈ fL, c ∈ rs) := fun c hc => by
    rw [hfL] at hc
    rcases List.mem_append.1 hc with g | g
    · exact List.mem_of_mem_take g
    · exact List.mem_of_mem_drop g
  have HFL : Hid (fL = rs.take m ++ rs.drop (m + 1)) := hfL
  obtain ⟨b, o, cap', g, e, -, -, -⟩ := (HRW.out w3 H3.out).at hlt
  simp only [Value.slice.injEq, true_and] at e
  obtain ⟨rfl, rfl⟩ := e
  clear hx hk hfL x g
  have HRW3 : Hid (∀ W, Below w3.heap.size w3 W → RowOu W (.slice (some ⟨b, o, none⟩) rs.length Cp) rs) := fun W hW => HRW.out W (H3.out.trans (hW.mono H3.out.size))
  have HKR : Hid (∀ W, Below w3.heap.size w3 W → W.cell? ⟨R, 0, none⟩ = some (.slice none 0 0) ∧ W.cell? ⟨R, 1, none⟩ = some (.slice none 0 0) ∧ W.cell? ⟨R, 2, none⟩ = some (.slice none 0 0) ∧ W.cell? ⟨R, 3, none⟩ = some (.int .i64 0)) := fun W hW => bx4 (HK.out W (H3.out.trans (hW.mono H3.out.size)))
  have HFR : Hid (∀ W, Below w3.heap.size w3 W → ∀ o, W.frozen? ⟨R, o, none⟩ = false) := fun W hW o => by
    have hx := HK.out W (H3.out.trans (hW.mono H3.out.size))
    simp [World.frozen?, hx]
  have hm0 : (0 : Int) ≤ (m : Int) := by omega
  have hm1 : (0 : Int) ≤ (m : Int) + 1 := by omega
  have hm2 : (m : Int) + 1 ≤ (rs.length : Int) := by omega
  have hmn : ((m : Int) + 1).toNat = m + 1 := by omega
  have hmw : IntKind.i64.wrap ((m : Int) + 1) = (m : Int) + 1 := by rw [IntKind.wrap_i64]; omega
  have nR : R < w3.heap.size := cell_lt (HKR.out w3 (Below.refl _ _)).1
  have HSZ : Hid (∀ x, x ∈ rs.take m ∨ x ∈ rs.drop (m + 1) → x.partner.size ≤ 9223372036854775807 ∧ x.text.size ≤ 9223372036854775807) := fun x hx => by
    have := HZ.out x (by rcases hx with g | g; exact List.mem_of_mem_take g; exact List.mem_of_mem_drop g)
    omega
  have HZI : Hid (∀ c ∈ fL, c.partner.size ≤ 1048576 ∧ c.text.size ≤ 1048576) := fun c hc => HZ.out c (HFM.out c hc)
  have hmc0 : ¬ (Cp = m) := by omega
  have hmc1 : (m : Int) ≤ (Cp : Int) := by omega
  have hmc2 : (rs.length : Int) ≤ (Cp : Int) := by omega
  go_upto_region 8 with fail
  by_cases hmc : Cp = m + 1
  · subst hmc
    have i1 : (m : Int) ≤ (m : Int) + 1 := by omega
    have i2 : (m : Int) ≤ ((m + 1 : Nat) : Int) := by omega
    have kb : Below w3.heap.size w3 (w3.alloc (.cells #[.slice (some ⟨b, o, none⟩) m (m + 1), .slice (some ⟨b, o, none⟩) 0 0] 23)).drew := ((Below.refl _ _).alloc (Nat.le_refl _) _).drew
    have kc0 : (w3.alloc (.cells #[.slice (some ⟨b, o, none⟩) m (m + 1), .slice (some ⟨b, o, none⟩) 0 0] 23)).drew.cell? ⟨w3.heap.size, 0, none⟩ = some (.slice (some ⟨b, o, none⟩) m (m + 1)) := cell_newU w3 _ _ 0 _ rfl
    have kc1 : (w3.alloc (.cells #[.slice (some ⟨b, o, none⟩) m (m + 1), .slice (some ⟨b, o, none⟩) 0 0] 23)).drew.cell? ⟨w3.heap.size, 1, none⟩ = some (.slice (some ⟨b, o, none⟩) 0 0) := cell_newU w3 _ _ 1 _ rfl
    have kr0 : RowOu (w3.alloc (.cells #[.slice (some ⟨b, o, none⟩) m (m + 1), .slice (some ⟨b, o, none⟩) 0 0] 23)).drew (.slice (some ⟨b, o, none⟩) m (m + 1)) (rs.take m) := rowOu_take (HRW3.out _ kb) m (by omega)
    have kr1 : RowOu (w3.alloc (.cells #[.slice (some ⟨b, o, none⟩) m (m + 1), .slice (some ⟨b, o, none⟩) 0 0] 23)).drew (.slice (some ⟨b, o, none⟩) 0 0) (rs.drop (m + 1)) := by
      have h0 := rowOu_drop (c := 0) (HRW3.out _ kb) (m + 1) (by omega) (A := some ⟨b, o, none⟩) (fun h => by omega)
      rw [show rs.length - (m + 1) = 0 by omega] at h0
      exact h0
    have hln : (rs.take m).length + (rs.drop (m + 1)).length ≤ 1000 := by rw [List.length_take, List.length_drop]; omega
    clear kb
    go_region_held3 (fun _ => True) (go_keep) (first | (go_at_call 29; refine (concat_any w3.heap.size _ _ (rs.take m) (rs.drop (m + 1)) _ kc0 kc1 kr0 kr1 hln HSZ.out).mono ?_; rintro e w5 ⟨u, rfl, hr5, hb5⟩; have b5 : Below w3.heap.size w3 w5 := unallocH (undrewH hb5); rw [← HFL.out] at hr5; clear hb5; try dsimp only) | (go_at_call 26; refine (copyOus_any _ fL _ hr5 (by omega) HZI.out).mono ?_; rintro e w6 ⟨u6, b6, rfl, hg6, hL6, hb6⟩; obtain ⟨A6, C6, rfl⟩ := hL6.val; have b6' : Below w3.heap.size w3 w6 := b5.trans (hb6.mono b5.size); obtain ⟨r0, r1, r2, r3⟩ := HKR.out w6 b6'; have hfR := HFR.out w6 b6'; have hg6' : w3.heap.size ≤ b6 := Nat.le_trans b5.size hg6; clear hb6; try dsimp only) | fail)
    all_goals rename_i hHeld
    all_goals clear hHeld
    all_goals go_wp2
    all_goals obtain ⟨f0, f1, f2, f3⟩ := bx4 (st4 (y0 := .slice A6 fL.length C6) (y1 := .slice none 0 0) (y2 := .slice none 0 0) (y3 := .int .i64 0) (HK.out w6 (H3.out.trans (b6'.mono H3.out.size))))
    all_goals refine bodyPost_ret (v := .agg #[.slice A6 fL.length C6, .slice none 0 0, .slice none 0 0, .int .i64 0]) (by simp [results, Try.results8, go_sem, f0, f1, f2, f3]) rfl ?_
    all_goals have hb9 : Below w.heap.size w w6 := HB.out.trans ((H3.out.trans (b6'.mono H3.out.size)).mono HB.out.size)
    all_goals have hne : b6 ≠ R := by omega
    all_goals rw [HE.out]
    all_goals exact ansI_list ((((hL6.setR hne 0 _).setR hne 1 _).setR hne 2 _).setR hne 3 _) (Nat.le_trans (HB.out.trans (H3.out.mono HB.out.size)).size hg6') ((((hb9.setCell hge _).setCell hge _).setCell hge _).setCell hge _)
  have kb : Below w3.heap.size w3 (w3.alloc (.cells #[.slice (some ⟨b, o, none⟩) m Cp, .slice (some ⟨b, o + (m + 1) * 5, none⟩) (rs.length - (m + 1)) (Cp - (m + 1))] 23)).drew := ((Below.refl _ _).alloc (Nat.le_refl _) _).drew
  have kc0 : (w3.alloc (.cells #[.slice (some ⟨b, o, none⟩) m Cp, .slice (some ⟨b, o + (m + 1) * 5, none⟩) (rs.length - (m + 1)) (Cp - (m + 1))] 23)).drew.cell? ⟨w3.heap.size, 0, none⟩ = some (.slice (some ⟨b, o, none⟩) m Cp) := cell_newU w3 _ _ 0 _ rfl
  have kc1 : (w3.alloc (.cells #[.slice (some ⟨b, o, none⟩) m Cp, .slice (some ⟨b, o + (m + 1) * 5, none⟩) (rs.length - (m + 1)) (Cp - (m + 1))] 23)).drew.cell? ⟨w3.heap.size, 1, none⟩ = some (.slice (some ⟨b, o + (m + 1) * 5, none⟩) (rs.length - (m + 1)) (Cp - (m + 1))) := cell_newU w3 _ _ 1 _ rfl
  have kr0 : RowOu (w3.alloc (.cells #[.slice (some ⟨b, o, none⟩) m Cp, .slice (some ⟨b, o + (m + 1) * 5, none⟩) (rs.length - (m + 1)) (Cp - (m + 1))] 23)).drew (.slice (some ⟨b, o, none⟩) m Cp) (rs.take m) := rowOu_take (HRW3.out _ kb) m (by omega)
  have kr1 : RowOu (w3.alloc (.cells #[.slice (some ⟨b, o, none⟩) m Cp, .slice (some ⟨b, o + (m + 1) * 5, none⟩) (rs.length - (m + 1)) (Cp - (m + 1))] 23)).drew (.slice (some ⟨b, o + (m + 1) * 5, none⟩) (rs.length - (m + 1)) (Cp - (m + 1))) (rs.drop (m + 1)) := rowOu_drop (HRW3.out _ kb) (m + 1) (by omega) (fun _ => rfl)
  have hln : (rs.take m).length + (rs.drop (m + 1)).length ≤ 1000 := by rw [List.length_take, List.length_drop]; omega
  clear kb
  go_region_held3 (fun _ => True) (go_keep) (first | (go_at_call 29; refine (concat_any w3.heap.size _ _ (rs.take m) (rs.drop (m + 1)) _ kc0 kc1 kr0 kr1 hln HSZ.out).mono ?_; rintro e w5 ⟨u, rfl, hr5, hb5⟩; have b5 : Below w3.heap.size w3 w5 := unallocH (undrewH hb5); rw [← HFL.out] at hr5; clear hb5; try dsimp only) | (go_at_call 26; refine (copyOus_any _ fL _ hr5 (by omega) HZI.out).mono ?_; rintro e w6 ⟨u6, b6, rfl, hg6, hL6, hb6⟩; obtain ⟨A6, C6, rfl⟩ := hL6.val; have b6' : Below w3.heap.size w3 w6 := b5.trans (hb6.mono b5.size); obtain ⟨r0, r1, r2, r3⟩ := HKR.out w6 b6'; have hfR := HFR.out w6 b6'; have hg6' : w3.heap.size ≤ b6 := Nat.le_trans b5.size hg6; clear hb6; try dsimp only) | fail)
  all_goals rename_i hHeld
  all_goals clear hHeld
  all_goals go_wp2
  all_goals obtain ⟨f0, f1, f2, f3⟩ := bx4 (st4 (y0 := .slice A6 fL.length C6) (y1 := .slice none 0 0) (y2 := .slice none 0 0) (y3 := .int .i64 0) (HK.out w6 (H3.out.trans (b6'.mono H3.out.size))))
  all_goals refine bodyPost_ret (v := .agg #[.slice A6 fL.length C6, .slice none 0 0, .slice none 0 0, .int .i64 0]) (by simp [results, Try.results8, go_sem, f0, f1, f2, f3]) rfl ?_
  all_goals have hb9 : Below w.heap.size w w6 := HB.out.trans ((H3.out.trans (b6'.mono H3.out.size)).mono HB.out.size)
  all_goals have hne : b6 ≠ R := by omega
  all_goals rw [HE.out]
  all_goals exact ansI_list ((((hL6.setR hne 0 _).setR hne 1 _).setR hne 2 _).setR hne 3 _) (Nat.le_trans (HB.out.trans (H3.out.mono HB.out.size)).size hg6') ((((hb9.setCell hge _).setCell hge _).setCell hge _).setCell hge _)
end Go.Proofs.Ytiakkpglnijapaa
