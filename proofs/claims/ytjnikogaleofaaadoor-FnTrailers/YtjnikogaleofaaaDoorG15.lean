/- Texts of ours put together: IxS. -/
import Derived.Test.YtjnikogaleofaaaDoorG12
import Derived.Test.YtjnikogaleofaaaDoorG14
import Derived.Deep.RegionHeld3
import Derived.Deep.CutBlock
namespace Go.Proofs.YtjnikogaleofaaaDoor
open Go.ChangeShapes Go.WideShapes Go.ChangeAt Go.RowKit
set_option maxHeartbeats 1000000 in
theorem l03Own_any (tag : ByteArray) (w : World) : Calls Tryd.prog 14 #[.string tag] w fun e w' => e = .returned (.bool (ownT tag)) ∧ w' = w := by
  by_cases ho : ownT tag = true
  · have HO : Hid (ownT tag = true) := ho
    unfold ownT at ho
    simp only [Bool.or_eq_true, decide_eq_true_eq] at ho
    rcases ho with rfl | rfl | rfl | rfl | rfl | rfl
    all_goals
      go_enter Tryd.func14, Tryd.ntmps14
      go_wp2
      go_ret
      exact ⟨ret_bool HO.out.symm, rfl⟩
  · simp only [Bool.not_eq_true] at ho
    have HO : Hid (ownT tag = false) := ho
    unfold ownT at ho
    simp only [Bool.or_eq_false_iff, decide_eq_false_iff_not] at ho
    obtain ⟨q1, q2, q3, q4, q5, q6⟩ := ho
    obtain ⟨a1, b1, c1⟩ := toList_neq3 q1
    obtain ⟨a2, b2, c2⟩ := toList_neq3 q2
    obtain ⟨a3, b3, c3⟩ := toList_neq3 q3
    obtain ⟨a4, b4, c4⟩ := toList_neq3 q4
    obtain ⟨a5, b5, c5⟩ := toList_neq3 q5
    obtain ⟨a6, b6, c6⟩ := toList_neq3 q6
    clear q1 q2 q3 q4 q5 q6
    go_enter Tryd.func14, Tryd.ntmps14
    go_wp2
    go_ret
    exact ⟨ret_bool HO.out.symm, rfl⟩
set_option maxRecDepth 20000 in
set_option maxHeartbeats 8000000 in
theorem ixRight_spec (m : Ixc) (v : Value) (w : World) (h : RI w v m) (hB : BdI 1048576 m) : Calls Tryd.prog 5 #[.agg #[.string m.frm, .string m.to, .int .i64 m.num, v]] w fun e w' => e = .returned (.bool (ixB m)) ∧ Below w.heap.size w w' := by
  obtain ⟨frm, tt, num, buns⟩ := m
  have hlen := h.ls.len
  obtain ⟨A, C, rfl⟩ := h.ls.val
  dsimp only at h hlen ⊢
  have b0 : Below w.heap.size w (w.alloc (.cells #[.string frm, .string tt, .int .i64 num, .slice A buns.length C] 25)) := (Below.refl _ _).alloc (Nat.le_refl _) _
  have HR : Hid (RowB (w.alloc (.cells #[.string frm, .string tt, .int .i64 num, .slice A buns.length C] 25)) (.slice A buns.length C) buns ∧ BdsB 1048576 buns ∧ Below w.heap.size w (w.alloc (.cells #[.string frm, .string tt, .int .i64 num, .slice A buns.length C] 25))) := ⟨h.ls.below b0, hB.2.2, b0⟩
  clear h hB b0
  have c0 : (w.alloc (.cells #[.string frm, .string tt, .int .i64 num, .slice A buns.length C] 25)).cell? ⟨w.heap.size, 0, none⟩ = some (.string frm) := by simp [go_sem]
  have c1 : (w.alloc (.cells #[.string frm, .string tt, .int .i64 num, .slice A buns.length C] 25)).cell? ⟨w.heap.size, 1, none⟩ = some (.string tt) := by simp [go_sem]
  have c2 : (w.alloc (.cells #[.string frm, .string tt, .int .i64 num, .slice A buns.length C] 25)).cell? ⟨w.heap.size, 2, none⟩ = some (.int .i64 num) := by simp [go_sem]
  have c3 : (w.alloc (.cells #[.string frm, .string tt, .int .i64 num, .slice A buns.length C] 25)).cell? ⟨w.heap.size, 3, none⟩ = some (.slice A buns.length C) := by simp [go_sem]
  go_enter Tryd.func5, Tryd.ntmps5
  go_wp2_with fail
  generalize (w.alloc (.cells #[.string frm, .string tt, .int .i64 num, .slice A buns.length C] 25)) = W0 at *
  refine (l01Name_any frm _).mono ?_
  rintro e w1 ⟨rfl, rfl⟩
  cases hf : nameB frm
  · go_wp2
    go_ret
    exact ⟨ret_bool (by simp [ixB, hf]), HR.out.2.2⟩
  go_wp2_with fail
  refine (l01Name_any tt _).mono ?_
  rintro e w2 ⟨rfl, rfl⟩
  cases ht : nameB tt
  · go_wp2
    go_ret
    exact ⟨ret_bool (by simp [ixB, ht]), HR.out.2.2⟩
  go_wp2_with fail
  refine (l01Control_any num _).mono ?_
  rintro e w3 ⟨rfl, rfl⟩
  cases hc : ctlB num
  · go_wp2
    go_ret
    exact ⟨ret_bool (by simp [ixB, hc]), HR.out.2.2⟩
  have ixb : ixB ⟨frm, tt, num, buns⟩ = (decide (1 ≤ buns.length) && (decide (buns.length ≤ 5) && buns.all bunB)) := by
    simp only [ixB, hc, hf, ht, Bool.true_and]
  have HX : Hid (ixB ⟨frm, tt, num, buns⟩ = (decide (1 ≤ buns.length) && (decide (buns.length ≤ 5) && buns.all bunB))) := ixb
  clear ixb
  by_cases hl0 : buns.length < 1
  · have hl' : (buns.length : Int) < 1 := by omega
    go_wp2
    go_ret
    exact ⟨ret_bool (by rw [HX.out]; simp; intro q; omega), HR.out.2.2⟩
  have hl0' : ¬ (buns.length : Int) < 1 := by omega
  by_cases hl : buns.length ≤ 5
  · have hl' : ¬ (5 : Int) < (buns.length : Int) := by omega
    go_wp2
    go_loopw [3] (fun i wr => ∃ k : Nat, i = .int .i64 (k : Int) ∧ k ≤ buns.length ∧ (∀ (j : Nat) (g : Bun), j < k → buns[j]? = some g → bunB g = true) ∧ Below w3.heap.size w3 wr) (fun i _ => buns.length - (intOf i).toNat)
    case atStart => exact ⟨0, rfl, by omega, fun j g hj => by omega, Below.refl _ _⟩
    case round =>
      obtain ⟨k, rfl, hk, hA, hb⟩ := hrel
      have HA : Hid (∀ (j : Nat) (g : Bun), j < k → buns[j]? = some g → bunB g = true) := hA
      have HW : Hid (Below w.heap.size w wr ∧ Below w3.heap.size w3 wr) := ⟨HR.out.2.2.trans (hb.mono HR.out.2.2.size), hb⟩
      have x3 := (hb.cell (cell_lt c3)).trans c3
      clear hA
      by_cases hlt : k < buns.length
      · have hlt' : (k : Int) < (buns.length : Int) := by omega
        obtain ⟨b, o, cap', g, u, e, hs, ⟨q0, q1, q2⟩, hG⟩ := (HR.out.1.below hb).at hlt
        simp only [Value.slice.injEq, true_and] at e
        obtain ⟨rfl, rfl⟩ := e
        have hml := hG.ls.len
        obtain ⟨n0, c0', rfl⟩ := hG.ls.val
        have bA : Below wr.heap.size wr (wr.alloc (.cells #[.int .i64 g.kind, .int .i64 g.num, .slice n0 g.msgs.length c0'] 48)) := (Below.refl _ _).alloc (Nat.le_refl _) _
        have HS : Hid (buns[k]? = some g ∧ RowM (wr.alloc (.cells #[.int .i64 g.kind, .int .i64 g.num, .slice n0 g.msgs.length c0'] 48)) (.slice n0 g.msgs.length c0') g.msgs ∧ BdsM 1048576 g.msgs ∧ Below w.heap.size w (wr.alloc (.cells #[.int .i64 g.kind, .int .i64 g.num, .slice n0 g.msgs.length c0'] 48)) ∧ Below w3.heap.size w3 (wr.alloc (.cells #[.int .i64 g.kind, .int .i64 g.num, .slice n0 g.msgs.length c0'] 48))) := ⟨hs, hG.ls.below bA, HR.out.2.1.2 k g hs, HW.out.1.trans (bA.mono HW.out.1.size), hb.trans (bA.mono hb.size)⟩
        have d0 : (wr.alloc (.cells #[.int .i64 g.kind, .int .i64 g.num, .slice n0 g.msgs.length c0'] 48)).cell? ⟨wr.heap.size, 0, none⟩ = some (.int .i64 g.kind) := by simp [go_sem]
        have d1 : (wr.alloc (.cells #[.int .i64 g.kind, .int .i64 g.num, .slice n0 g.msgs.length c0'] 48)).cell? ⟨wr.heap.size, 1, none⟩ = some (.int .i64 g.num) := by simp [go_sem]
        have d2 : (wr.alloc (.cells #[.int .i64 g.kind, .int .i64 g.num, .slice n0 g.msgs.length c0'] 48)).cell? ⟨wr.heap.size, 2, none⟩ = some (.slice n0 g.msgs.length c0') := by simp [go_sem]
        clear hs hG bA hb
        have no : bunB g = false → ixB ⟨frm, tt, num, buns⟩ = false := fun q => by rw [HX.out, all_no HS.out.1 q]; simp
        have NO : Hid (bunB g = false → ixB ⟨frm, tt, num, buns⟩ = false) := no
        clear no
        by_cases hk1 : g.kind < 1
        · go_wp2
          go_ret
          exact ⟨ret_bool (NO.out (by simp [bunB]; intro _ q; omega)).symm, HS.out.2.2.2.1⟩
        by_cases hk2 : 7 < g.kind
        · go_wp2
          go_ret
          exact ⟨ret_bool (NO.out (by simp [bunB]; intro _ _ q; omega)).symm, HS.out.2.2.2.1⟩
        go_upto_region 7 with fail
        go_wp2_with fail
        generalize hB1 : wr.heap.size = B1 at *
        generalize (wr.alloc (.cells #[.int .i64 g.kind, .int .i64 g.num, .slice n0 g.msgs.length c0'] 48)) = W1 at *
        refine (l01Control_any g.num _).mono ?_
        rintro e w5 ⟨rfl, rfl⟩
        cases hcb : ctlB g.num
        · go_wp2
          go_ret
          exact ⟨ret_bool (NO.out (by simp [bunB, hcb])).symm, HS.out.2.2.2.1⟩
        by_cases hm0 : g.msgs.length < 1
        · have hm' : (g.msgs.length : Int) < 1 := by omega
          go_wp2
          go_ret
          exact ⟨ret_bool (NO.out (by simp only [bunB, hcb]; simp; intro _ _ q; omega)).symm, HS.out.2.2.2.1⟩
        have hm0' : ¬ (g.msgs.length : Int) < 1 := by omega
        by_cases hm1 : g.msgs.length ≤ 10
        · have hm1' : ¬ (10 : Int) < (g.msgs.length : Int) := by omega
          go_wp2
          clear HW x3 q0 q1 q2 hB1
          go_loopw [5] (fun i wr => ∃ k2 : Nat, i = .int .i64 (k2 : Int) ∧ k2 ≤ g.msgs.length ∧ (∀ (j : Nat) (m : Msg), j < k2 → g.msgs[j]? = some m → msgB m = true) ∧ Below w5.heap.size w5 wr) (fun i _ => g.msgs.length - (intOf i).toNat)
          case atStart => exact ⟨0, rfl, by omega, fun j g hj => by omega, Below.refl _ _⟩
          case round =>
            obtain ⟨k2, rfl, hkk, hA2, hb2⟩ := hrel
            have HA2 : Hid (∀ (j : Nat) (m : Msg), j < k2 → g.msgs[j]? = some m → msgB m = true) := hA2
            have HW2 : Hid (Below w.heap.size w wr ∧ Below w3.heap.size w3 wr ∧ Below w5.heap.size w5 wr) := ⟨HS.out.2.2.2.1.trans (hb2.mono HS.out.2.2.2.1.size), HS.out.2.2.2.2.trans (hb2.mono HS.out.2.2.2.2.size), hb2⟩
            have y2 := (hb2.cell (cell_lt d2)).trans d2
            clear hA2
            by_cases hlt2 : k2 < g.msgs.length
            · have hlt2' : (k2 : Int) < (g.msgs.length : Int) := by omega
              obtain ⟨b2, o2, cap2, m, u2, e2, hs2, ⟨p0, p1⟩, hM⟩ := (HS.out.2.1.below hb2).at hlt2
              simp only [Value.slice.injEq, true_and] at e2
              obtain ⟨rfl, rfl⟩ := e2
              have hbl := hM.ls.len
              obtain ⟨n1, c1', rfl⟩ := hM.ls.val
              have bM : Below wr.heap.size wr (wr.alloc (.cells #[.int .i64 m.num, .slice n1 m.body.length c1'] 50)) := (Below.refl _ _).alloc (Nat.le_refl _) _
              have HM : Hid (g.msgs[k2]? = some m ∧ RowG (wr.alloc (.cells #[.int .i64 m.num, .slice n1 m.body.length c1'] 50)) (.slice n1 m.body.length c1') m.body ∧ BdG 1048576 m.body ∧ Below w.heap.size w (wr.alloc (.cells #[.int .i64 m.num, .slice n1 m.body.length c1'] 50)) ∧ Below w5.heap.size w5 (wr.alloc (.cells #[.int .i64 m.num, .slice n1 m.body.length c1'] 50))) := ⟨hs2, hM.ls.below bM, HS.out.2.2.1.2 k2 m hs2, HW2.out.1.trans (bM.mono HW2.out.1.size), hb2.trans (bM.mono hb2.size)⟩
              have f0 : (wr.alloc (.cells #[.int .i64 m.num, .slice n1 m.body.length c1'] 50)).cell? ⟨wr.heap.size, 0, none⟩ = some (.int .i64 m.num) := by simp [go_sem]
              have f1 : (wr.alloc (.cells #[.int .i64 m.num, .slice n1 m.body.length c1'] 50)).cell? ⟨wr.heap.size, 1, none⟩ = some (.slice n1 m.body.length c1') := by simp [go_sem]
              clear hs2 hM bM hb2
              have no2 : msgB m = false → ixB ⟨frm, tt, num, buns⟩ = false := fun q => NO.out (by simp only [bunB, all_no HM.out.1 q]; simp)
              have NO2 : Hid (msgB m = false → ixB ⟨frm, tt, num, buns⟩ = false) := no2
              clear no2
              go_wp2_with fail
              generalize hM1 : wr.heap.size = M1 at *
              generalize (wr.alloc (.cells #[.int .i64 m.num, .slice n1 m.body.length c1'] 50)) = W6 at *
              refine (l01Control_any m.num _).mono ?_
              rintro e w6 ⟨rfl, rfl⟩
              cases hcm : ctlB m.num
              · go_wp2
                go_ret
                exact ⟨ret_bool (NO2.out (by simp [msgB, hcm])).symm, HM.out.2.2.2.1⟩
              by_cases hq : m.body.length ≤ 40
              · have hq' : ¬ (40 : Int) < (m.body.length : Int) := by omega
                go_wp2
                clear HW2 y2 p0 p1 hM1
                go_loopw [7] (fun i wr => ∃ k3 : Nat, i = .int .i64 (k3 : Int) ∧ k3 ≤ m.body.length ∧ (∀ (j : Nat) (s : Seg), j < k3 → m.body[j]? = some s → bodyB s = true) ∧ Below w6.heap.size w6 wr) (fun i _ => m.body.length - (intOf i).toNat)
                case atStart => exact ⟨0, rfl, by omega, fun j g hj => by omega, Below.refl _ _⟩
                case round =>
                  obtain ⟨k3, rfl, hk3, hA3, hb3⟩ := hrel
                  have HA3 : Hid (∀ (j : Nat) (s : Seg), j < k3 → m.body[j]? = some s → bodyB s = true) := hA3
                  have HW3 : Hid (Below w.heap.size w wr ∧ Below w5.heap.size w5 wr ∧ Below w6.heap.size w6 wr) := ⟨HM.out.2.2.2.1.trans (hb3.mono HM.out.2.2.2.1.size), HM.out.2.2.2.2.trans (hb3.mono HM.out.2.2.2.2.size), hb3⟩
                  have z1 := (hb3.cell (cell_lt f1)).trans f1
                  clear hA3
                  by_cases hlt3 : k3 < m.body.length
                  · have hlt3' : (k3 : Int) < (m.body.length : Int) := by omega
                    obtain ⟨b3, o3, cap3, s, u3, e3, hs3, r0, r1, hE, _⟩ := (HM.out.2.1.below hb3).at hlt3
                    simp only [Value.slice.injEq, true_and] at e3
                    obtain ⟨rfl, rfl⟩ := e3
                    obtain ⟨n2, c2', rfl⟩ := hE.val
                    have HE : Hid (m.body[k3]? = some s ∧ RowE wr (.slice n2 s.2.length c2') s.2 ∧ BdE 1048576 s.2) := ⟨hs3, hE, (HM.out.2.2.1.2 k3 s hs3).2⟩
                    clear hs3 hE hb3
                    go_wp2_with fail
                    refine (right_seg_spec s.1 _ s.2 _ HE.out.2.1 HE.out.2.2).mono ?_
                    rintro e w7 ⟨rfl, hb7⟩
                    have z1' := (hb7.cell (cell_lt z1)).trans z1
                    have r0' := (hb7.cell (cell_lt r0)).trans r0
                    have r1' := (hb7.cell (cell_lt r1)).trans r1
                    have H7 : Hid (Below w.heap.size w w7 ∧ Below w6.heap.size w6 w7) := ⟨HW3.out.1.trans (hb7.mono HW3.out.1.size), HW3.out.2.2.trans (hb7.mono HW3.out.2.2.size)⟩
                    clear hb7 z1 r0 r1
                    have no3 : bodyB s = false → ixB ⟨frm, tt, num, buns⟩ = false := fun q => NO2.out (by simp only [msgB, all_no HE.out.1 q]; simp)
                    have NO3 : Hid (bodyB s = false → ixB ⟨frm, tt, num, buns⟩ = false) := no3
                    clear no3
                    cases hrs : rightG s.1 s.2
                    · go_wp2
                      go_ret
                      exact ⟨ret_bool (NO3.out (by simp [bodyB, hrs])).symm, H7.out.1⟩
                    go_wp2_with fail
                    refine (l03Own_any s.1 _).mono ?_
                    rintro e w8 ⟨rfl, rfl⟩
                    cases hos : ownT s.1
                    · go_wp2
                      go_roundw
                      case rel =>
                        refine ⟨k3 + 1, by go_num, by omega, fun j t hj ht => ?_, H7.out.2⟩
                        rcases Nat.lt_or_ge j k3 with q | q
                        · exact HA3.out j t q ht
                        · obtain rfl : j = k3 := by omega
                          rw [HE.out.1] at ht
                          cases ht
                          simp [bodyB, hos, hrs]
                      case measure => simp [intOf]; omega
                    · go_wp2
                      go_ret
                      exact ⟨ret_bool (NO3.out (by simp [bodyB, hos])).symm, H7.out.1⟩
                  · obtain rfl : k3 = m.body.length := by omega
                    clear hb3
                    have hmb : msgB m = true := by
                      have : m.body.all bodyB = true := all_yes fun j x hj => HA3.out j x (List.getElem?_eq_some_iff.1 hj).1 hj
                      simp only [msgB, hcm, this]
                      simp [hq]
                    have HMB : Hid (msgB m = true) := hmb
                    clear hmb
                    go_wp2
                    go_roundw
                    case rel =>
                      refine ⟨k2 + 1, by go_num, by omega, fun j t hj ht => ?_, HW3.out.2.1⟩
                      rcases Nat.lt_or_ge j k2 with q | q
                      · exact HA2.out j t q ht
                      · obtain rfl : j = k2 := by omega
                        rw [HM.out.1] at ht
                        cases ht
                        exact HMB.out
                    case measure => simp [intOf]; omega
              · have hq' : (40 : Int) < (m.body.length : Int) := by omega
                go_wp2
                go_ret
                exact ⟨ret_bool (NO2.out (by simp [msgB, hcm, hq])).symm, HM.out.2.2.2.1⟩
            · obtain rfl : k2 = g.msgs.length := by omega
              clear hb2
              have hgb : bunB g = true := by
                have : g.msgs.all msgB = true := all_yes fun j x hj => HA2.out j x (List.getElem?_eq_some_iff.1 hj).1 hj
                simp only [bunB, hcb, this]
                simp
                omega
              have HGB : Hid (bunB g = true) := hgb
              clear hgb
              go_wp2
              go_roundw
              case rel =>
                refine ⟨k + 1, by go_num, by omega, fun j t hj ht => ?_, HW2.out.2.1⟩
                rcases Nat.lt_or_ge j k with q | q
                · exact HA.out j t q ht
                · obtain rfl : j = k := by omega
                  rw [HS.out.1] at ht
                  cases ht
                  exact HGB.out
              case measure => simp [intOf]; omega
        · have hm1' : (10 : Int) < (g.msgs.length : Int) := by omega
          go_wp2
          go_ret
          exact ⟨ret_bool (NO.out (by simp only [bunB, hcb]; simp; intro _ _ _ q; omega)).symm, HS.out.2.2.2.1⟩
      · obtain rfl : k = buns.length := by omega
        clear hb
        go_wp2
        go_ret
        refine ⟨ret_bool ?_, HW.out.1⟩
        have : buns.all bunB = true := all_yes fun j x hj => HA.out j x (List.getElem?_eq_some_iff.1 hj).1 hj
        rw [HX.out, this]
        simp
        omega
  · have hl' : (5 : Int) < (buns.length : Int) := by omega
    go_wp2
    go_ret
    exact ⟨ret_bool (by rw [HX.out]; simp; intro q; omega), HR.out.2.2⟩
end Go.Proofs.YtjnikogaleofaaaDoor
