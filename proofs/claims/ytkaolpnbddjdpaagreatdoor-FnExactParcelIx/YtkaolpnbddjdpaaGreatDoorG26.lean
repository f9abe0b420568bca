/- Texts of ours put together: IxI. -/
import Derived.Test.YtkaolpnbddjdpaaGreatDoorG25
import Derived.Test.YtkaolpnbddjdpaaGreatDoorG02
import Derived.Deep.RegionHeld3
namespace Go.Proofs.YtkaolpnbddjdpaaGreatDoor
open Go.ChangeShapes Go.WideShapes Go.ChangeAt Go.RowKit
set_option maxHeartbeats 1000000 in
theorem msgAround_any (n : Int) (A : Option Addr) (k C : Nat) (w : World) : Calls Tryz.prog 146 #[.agg #[.int .i64 n, .slice A k C]] w fun e w' => e = .returned (.agg #[.int .i64 n, .slice A k C]) ∧ Below w.heap.size w w' := by
  go_enter Tryz.func146, Tryz.ntmps146
  go_wp2
  exact bodyPost_ret (v := .agg #[.int .i64 n, .slice A k C]) (by simp [results, Tryz.results146, go_sem]) rfl ⟨rfl, ((Below.refl _ _).alloc (Nat.le_refl _) _).alloc (by simp) _⟩
set_option maxHeartbeats 1000000 in
theorem bunAround_any (n k : Int) (A : Option Addr) (l C : Nat) (w : World) : Calls Tryz.prog 110 #[.agg #[.int .i64 k, .int .i64 n, .slice A l C]] w fun e w' => e = .returned (.agg #[.int .i64 n, .int .i64 k, .slice A l C]) ∧ Below w.heap.size w w' := by
  go_enter Tryz.func110, Tryz.ntmps110
  go_wp2
  exact bodyPost_ret (v := .agg #[.int .i64 n, .int .i64 k, .slice A l C]) (by simp [results, Tryz.results110, go_sem]) rfl ⟨rfl, ((Below.refl _ _).alloc (Nat.le_refl _) _).alloc (by simp) _⟩
set_option maxHeartbeats 4000000 in
theorem msgRight_any (m : Msg) (v : Value) (w : World) (h : RM w v m) (hB : BdM 1048576 m) : Calls Tryz.prog 160 #[.agg #[.int .i64 m.num, v]] w fun e w' => e = .returned (.bool (msgB m)) ∧ Below w.heap.size w w' := by
  obtain ⟨num, body⟩ := m
  have hlen := h.ls.len
  obtain ⟨A, C, rfl⟩ := h.ls.val
  dsimp only at h hlen ⊢
  have b0 : Below w.heap.size w (w.alloc (.cells #[.int .i64 num, .slice A body.length C] 182)) := (Below.refl _ _).alloc (Nat.le_refl _) _
  have HR : Hid (RowG (w.alloc (.cells #[.int .i64 num, .slice A body.length C] 182)) (.slice A body.length C) body ∧ BdG 1048576 body) := ⟨h.ls.below b0, hB⟩
  clear h hB
  go_enter Tryz.func160, Tryz.ntmps160
  go_wp2_with fail
  refine (numbered_any num _).mono ?_
  rintro e w1 ⟨rfl, hb1⟩
  have c1 : w1.cell? ⟨w.heap.size, 1, none⟩ = some (.slice A body.length C) := (hb1.cell (p := ⟨w.heap.size, 1, none⟩) (by simp)).trans (by simp [go_sem])
  have H1 : Hid (RowG w1 (.slice A body.length C) body ∧ BdG 1048576 body ∧ Below w.heap.size w w1) := ⟨HR.out.1.below hb1, HR.out.2, b0.trans (hb1.mono (by simp))⟩
  clear hb1 HR b0
  cases hc : ctlB num
  · go_wp2
    go_ret
    exact ⟨ret_bool (by simp [msgB, hc]), H1.out.2.2⟩
  · by_cases hl : body.length ≤ 40
    · have hl' : ¬ (40 : Int) < (body.length : Int) := by omega
      go_wp2
      go_loopw [18] (fun i wr => ∃ k : Nat, i = .int .i64 (k : Int) ∧ k ≤ body.length ∧ (∀ (j : Nat) (g : Seg), j < k → body[j]? = some g → bodyB g = true) ∧ Below w1.heap.size w1 wr) (fun i _ => body.length - (intOf i).toNat)
      case atStart => exact ⟨0, rfl, by omega, fun j g hj => by omega, Below.refl _ _⟩
      case round =>
        obtain ⟨k, rfl, hk, hA, hb⟩ := hrel
        have HA : Hid (∀ (j : Nat) (g : Seg), j < k → body[j]? = some g → bodyB g = true) := hA
        clear hA
        have HW : Hid (Below w.heap.size w wr) := H1.out.2.2.trans (hb.mono H1.out.2.2.size)
        by_cases hlt : k < body.length
        · have hlt' : (k : Int) < (body.length : Int) := by omega
          obtain ⟨b, o, cap', g, u, e, hs, q0, q1, hR, _⟩ := (H1.out.1.below hb).at hlt
          simp only [Value.slice.injEq, true_and] at e
          obtain ⟨rfl, rfl⟩ := e
          obtain ⟨n0, c0, rfl⟩ := hR.val
          have bA : Below wr.heap.size wr (wr.alloc (.cells #[.string g.1, .slice n0 g.2.length c0] 90)) := (Below.refl _ _).alloc (Nat.le_refl _) _
          have HS : Hid (body[k]? = some g ∧ RowE (wr.alloc (.cells #[.string g.1, .slice n0 g.2.length c0] 90)) (.slice n0 g.2.length c0) g.2 ∧ BdE 1048576 g.2 ∧ Below w.heap.size w (wr.alloc (.cells #[.string g.1, .slice n0 g.2.length c0] 90)) ∧ Below w1.heap.size w1 (wr.alloc (.cells #[.string g.1, .slice n0 g.2.length c0] 90))) := ⟨hs, hR.below bA, (H1.out.2.1.2 k g hs).2, HW.out.trans (bA.mono HW.out.size), hb.trans (bA.mono hb.size)⟩
          clear hs hR bA hb
          go_wp2_with fail
          refine (mayStand_any g.1 _ g.2 _ HS.out.2.1 HS.out.2.2.1).mono ?_
          rintro e w2 ⟨rfl, hb2⟩
          have HB : Hid (Below w.heap.size w w2 ∧ Below w1.heap.size w1 w2) := ⟨HS.out.2.2.2.1.trans (hb2.mono HS.out.2.2.2.1.size), HS.out.2.2.2.2.trans (hb2.mono HS.out.2.2.2.2.size)⟩
          clear hb2
          cases hbv : bodyB (g.1, g.2)
          · go_wp2
            go_ret
            exact ⟨ret_bool (by simp only [msgB, all_no HS.out.1 hbv]; simp), HB.out.1⟩
          · go_wp2
            go_roundw
            case rel =>
              refine ⟨k + 1, by go_num, by omega, fun j t hj ht => ?_, HB.out.2⟩
              rcases Nat.lt_or_ge j k with q | q
              · exact HA.out j t q ht
              · obtain rfl : j = k := by omega
                rw [HS.out.1] at ht
                cases ht
                exact hbv
            case measure => simp [intOf]; omega
        · obtain rfl : k = body.length := by omega
          clear hb
          go_wp2
          go_ret
          refine ⟨ret_bool ?_, HW.out⟩
          have : body.all bodyB = true := all_yes fun j x hj => HA.out j x (List.getElem?_eq_some_iff.1 hj).1 hj
          simp only [msgB, hc, this]
          simp [hl]
    · have hl' : (40 : Int) < (body.length : Int) := by omega
      go_wp2
      go_ret
      exact ⟨ret_bool (by simp [msgB, hc, hl]), H1.out.2.2⟩
set_option maxHeartbeats 4000000 in
theorem bunRight_any (m : Bun) (v : Value) (w : World) (h : RB w v m) (hB : BdB 1048576 m) : Calls Tryz.prog 125 #[.agg #[.int .i64 m.num, .int .i64 m.kind, v]] w fun e w' => e = .returned (.bool (bunB m)) ∧ Below w.heap.size w w' := by
  obtain ⟨kind, num, msgs⟩ := m
  have hlen := h.ls.len
  obtain ⟨A, C, rfl⟩ := h.ls.val
  dsimp only at h hlen ⊢
  have b0 : Below w.heap.size w (w.alloc (.cells #[.int .i64 num, .int .i64 kind, .slice A msgs.length C] 151)) := (Below.refl _ _).alloc (Nat.le_refl _) _
  have HR : Hid (RowM (w.alloc (.cells #[.int .i64 num, .int .i64 kind, .slice A msgs.length C] 151)) (.slice A msgs.length C) msgs ∧ BdsM 1048576 msgs) := ⟨h.ls.below b0, hB⟩
  clear h hB
  go_enter Tryz.func125, Tryz.ntmps125
  go_wp2_with fail
  refine (numbered_any num _).mono ?_
  rintro e w1 ⟨rfl, hb1⟩
  have c1 : w1.cell? ⟨w.heap.size, 1, none⟩ = some (.int .i64 kind) := (hb1.cell (p := ⟨w.heap.size, 1, none⟩) (by simp)).trans (by simp [go_sem])
  have c2 : w1.cell? ⟨w.heap.size, 2, none⟩ = some (.slice A msgs.length C) := (hb1.cell (p := ⟨w.heap.size, 2, none⟩) (by simp)).trans (by simp [go_sem])
  have H1 : Hid (RowM w1 (.slice A msgs.length C) msgs ∧ BdsM 1048576 msgs ∧ Below w.heap.size w w1) := ⟨HR.out.1.below hb1, HR.out.2, b0.trans (hb1.mono (by simp))⟩
  clear hb1 HR b0
  cases hc : ctlB num
  · go_wp2
    go_ret
    exact ⟨ret_bool (by simp [bunB, hc]), H1.out.2.2⟩
  by_cases hk1 : kind < 1
  · go_wp2
    go_ret
    exact ⟨ret_bool (by simp only [bunB, hc]; simp; intro q; omega), H1.out.2.2⟩
  by_cases hk2 : 7 < kind
  · go_wp2
    go_ret
    exact ⟨ret_bool (by simp only [bunB, hc]; simp; intro q r; omega), H1.out.2.2⟩
  by_cases hl0 : msgs.length < 1
  · have hl' : (msgs.length : Int) < 1 := by omega
    go_wp2
    go_ret
    exact ⟨ret_bool (by simp only [bunB, hc]; simp; intro q r s; omega), H1.out.2.2⟩
  have hl0' : ¬ (msgs.length : Int) < 1 := by omega
  by_cases hl : msgs.length ≤ 10
  · have hl' : ¬ (10 : Int) < (msgs.length : Int) := by omega
    go_wp2
    go_loopw [34] (fun i wr => ∃ k : Nat, i = .int .i64 (k : Int) ∧ k ≤ msgs.length ∧ (∀ (j : Nat) (g : Msg), j < k → msgs[j]? = some g → msgB g = true) ∧ Below w1.heap.size w1 wr) (fun i _ => msgs.length - (intOf i).toNat)
    case atStart => exact ⟨0, rfl, by omega, fun j g hj => by omega, Below.refl _ _⟩
    case round =>
      obtain ⟨k, rfl, hk, hA, hb⟩ := hrel
      have HA : Hid (∀ (j : Nat) (g : Msg), j < k → msgs[j]? = some g → msgB g = true) := hA
      clear hA
      have HW : Hid (Below w.heap.size w wr) := H1.out.2.2.trans (hb.mono H1.out.2.2.size)
      by_cases hlt : k < msgs.length
      · have hlt' : (k : Int) < (msgs.length : Int) := by omega
        obtain ⟨b, o, cap', g, u, e, hs, ⟨q0, q1⟩, hR⟩ := (H1.out.1.below hb).at hlt
        simp only [Value.slice.injEq, true_and] at e
        obtain ⟨rfl, rfl⟩ := e
        obtain ⟨n0, c0, rfl⟩ := hR.ls.val
        have bA : Below wr.heap.size wr (wr.alloc (.cells #[.int .i64 g.num, (.slice n0 g.body.length c0)] 98)) := (Below.refl _ _).alloc (Nat.le_refl _) _
        have HS : Hid (msgs[k]? = some g ∧ RM (wr.alloc (.cells #[.int .i64 g.num, (.slice n0 g.body.length c0)] 98)) (.slice n0 g.body.length c0) g ∧ BdM 1048576 g ∧ Below w.heap.size w (wr.alloc (.cells #[.int .i64 g.num, (.slice n0 g.body.length c0)] 98)) ∧ Below w1.heap.size w1 (wr.alloc (.cells #[.int .i64 g.num, (.slice n0 g.body.length c0)] 98))) := ⟨hs, hR.below bA, H1.out.2.1.2 k g hs, HW.out.trans (bA.mono HW.out.size), hb.trans (bA.mono hb.size)⟩
        clear hs hR bA hb
        go_wp2_with fail
        refine (msgAround_any _ _ _ _ _).mono ?_
        rintro e w2 ⟨rfl, hb2⟩
        have H2 : Hid (RM w2 (.slice n0 g.body.length c0) g ∧ Below w.heap.size w w2 ∧ Below w1.heap.size w1 w2) := ⟨HS.out.2.1.below hb2, HS.out.2.2.2.1.trans (hb2.mono HS.out.2.2.2.1.size), HS.out.2.2.2.2.trans (hb2.mono HS.out.2.2.2.2.size)⟩
        clear hb2
        go_wp2_with fail
        refine (msgRight_any g _ _ H2.out.1 HS.out.2.2.1).mono ?_
        rintro e w3 ⟨rfl, hb3⟩
        have HB : Hid (Below w.heap.size w w3 ∧ Below w1.heap.size w1 w3) := ⟨H2.out.2.1.trans (hb3.mono H2.out.2.1.size), H2.out.2.2.trans (hb3.mono H2.out.2.2.size)⟩
        clear hb3
        cases hbv : msgB g
        · go_wp2
          go_ret
          exact ⟨ret_bool (by simp only [bunB, all_no HS.out.1 hbv]; simp), HB.out.1⟩
        · go_wp2
          go_roundw
          case rel =>
            refine ⟨k + 1, by go_num, by omega, fun j t hj ht => ?_, HB.out.2⟩
            rcases Nat.lt_or_ge j k with q | q
            · exact HA.out j t q ht
            · obtain rfl : j = k := by omega
              rw [HS.out.1] at ht
              cases ht
              exact hbv
          case measure => simp [intOf]; omega
      · obtain rfl : k = msgs.length := by omega
        clear hb
        go_wp2
        go_ret
        refine ⟨ret_bool ?_, HW.out⟩
        have : msgs.all msgB = true := all_yes fun j x hj => HA.out j x (List.getElem?_eq_some_iff.1 hj).1 hj
        simp only [bunB, hc, this]
        simp
        omega
  · have hl' : (10 : Int) < (msgs.length : Int) := by omega
    go_wp2
    go_ret
    exact ⟨ret_bool (by simp only [bunB, hc]; simp; intro q r s t; omega), H1.out.2.2⟩
set_option maxHeartbeats 4000000 in
theorem ixRight1_any (m : Ixc) (v : Value) (w : World) (h : RI w v m) (hB : BdI 1048576 m) : Calls Tryz.prog 83 #[.agg #[.int .i64 m.num, .string m.frm, .string m.to, v]] w fun e w' => e = .returned (.bool (ixB m)) ∧ Below w.heap.size w w' := by
  obtain ⟨frm, tto, num, buns⟩ := m
  have hlen := h.ls.len
  obtain ⟨A, C, rfl⟩ := h.ls.val
  dsimp only at h hlen ⊢
  have b0 : Below w.heap.size w (w.alloc (.cells #[.int .i64 num, .string frm, .string tto, .slice A buns.length C] 115)) := (Below.refl _ _).alloc (Nat.le_refl _) _
  have HR : Hid (RowB (w.alloc (.cells #[.int .i64 num, .string frm, .string tto, .slice A buns.length C] 115)) (.slice A buns.length C) buns ∧ BdsB 1048576 buns) := ⟨h.ls.below b0, hB.2.2⟩
  clear h hB
  go_enter Tryz.func83, Tryz.ntmps83
  go_wp2_with fail
  refine (headRight_any num frm tto _ _ _ _).mono ?_
  rintro e w1 ⟨rfl, hb1⟩
  have c3 : w1.cell? ⟨w.heap.size, 3, none⟩ = some (.slice A buns.length C) := (hb1.cell (p := ⟨w.heap.size, 3, none⟩) (by simp)).trans (by simp [go_sem])
  have H1 : Hid (RowB w1 (.slice A buns.length C) buns ∧ BdsB 1048576 buns ∧ Below w.heap.size w w1) := ⟨HR.out.1.below hb1, HR.out.2, b0.trans (hb1.mono (by simp))⟩
  clear hb1 HR b0
  obtain ⟨hh, hhd⟩ : ∃ hh, (ctlB num && (nameB frm && nameB tto)) = hh := ⟨_, rfl⟩
  have HD : Hid ((ctlB num && (nameB frm && nameB tto)) = hh) := hhd
  rw [hhd]
  clear hhd
  have ixb : ixB ⟨frm, tto, num, buns⟩ = (hh && (decide (1 ≤ buns.length) && (decide (buns.length ≤ 5) && buns.all bunB))) := by
    rw [← HD.out]
    simp only [ixB, Bool.and_assoc]
  have HX : Hid (ixB ⟨frm, tto, num, buns⟩ = (hh && (decide (1 ≤ buns.length) && (decide (buns.length ≤ 5) && buns.all bunB)))) := ixb
  clear ixb
  cases hh
  · go_wp2
    go_ret
    exact ⟨ret_bool (by rw [HX.out]; simp), H1.out.2.2⟩
  by_cases hl0 : buns.length < 1
  · have hl' : (buns.length : Int) < 1 := by omega
    go_wp2
    go_ret
    exact ⟨ret_bool (by rw [HX.out]; simp; intro q; omega), H1.out.2.2⟩
  have hl0' : ¬ (buns.length : Int) < 1 := by omega
  by_cases hl : buns.length ≤ 5
  · have hl' : ¬ (5 : Int) < (buns.length : Int) := by omega
    go_wp2
    go_loopw [23] (fun i wr => ∃ k : Nat, i = .int .i64 (k : Int) ∧ k ≤ buns.length ∧ (∀ (j : Nat) (g : Bun), j < k → buns[j]? = some g → bunB g = true) ∧ Below w1.heap.size w1 wr) (fun i _ => buns.length - (intOf i).toNat)
    case atStart => exact ⟨0, rfl, by omega, fun j g hj => by omega, Below.refl _ _⟩
    case round =>
      obtain ⟨k, rfl, hk, hA, hb⟩ := hrel
      have HA : Hid (∀ (j : Nat) (g : Bun), j < k → buns[j]? = some g → bunB g = true) := hA
      clear hA
      have HW : Hid (Below w.heap.size w wr) := H1.out.2.2.trans (hb.mono H1.out.2.2.size)
      by_cases hlt : k < buns.length
      · have hlt' : (k : Int) < (buns.length : Int) := by omega
        obtain ⟨b, o, cap', g, u, e, hs, ⟨q0, q1, q2⟩, hR⟩ := (H1.out.1.below hb).at hlt
        simp only [Value.slice.injEq, true_and] at e
        obtain ⟨rfl, rfl⟩ := e
        obtain ⟨n0, c0, rfl⟩ := hR.ls.val
        have bA : Below wr.heap.size wr (wr.alloc (.cells #[.int .i64 g.kind, .int .i64 g.num, (.slice n0 g.msgs.length c0)] 95)) := (Below.refl _ _).alloc (Nat.le_refl _) _
        have HS : Hid (buns[k]? = some g ∧ RB (wr.alloc (.cells #[.int .i64 g.kind, .int .i64 g.num, (.slice n0 g.msgs.length c0)] 95)) (.slice n0 g.msgs.length c0) g ∧ BdB 1048576 g ∧ Below w.heap.size w (wr.alloc (.cells #[.int .i64 g.kind, .int .i64 g.num, (.slice n0 g.msgs.length c0)] 95)) ∧ Below w1.heap.size w1 (wr.alloc (.cells #[.int .i64 g.kind, .int .i64 g.num, (.slice n0 g.msgs.length c0)] 95))) := ⟨hs, hR.below bA, H1.out.2.1.2 k g hs, HW.out.trans (bA.mono HW.out.size), hb.trans (bA.mono hb.size)⟩
        clear hs hR bA hb
        go_wp2_with fail
        refine (bunAround_any _ _ _ _ _ _).mono ?_
        rintro e w2 ⟨rfl, hb2⟩
        have H2 : Hid (RB w2 (.slice n0 g.msgs.length c0) g ∧ Below w.heap.size w w2 ∧ Below w1.heap.size w1 w2) := ⟨HS.out.2.1.below hb2, HS.out.2.2.2.1.trans (hb2.mono HS.out.2.2.2.1.size), HS.out.2.2.2.2.trans (hb2.mono HS.out.2.2.2.2.size)⟩
        clear hb2
        go_wp2_with fail
        refine (bunRight_any g _ _ H2.out.1 HS.out.2.2.1).mono ?_
        rintro e w3 ⟨rfl, hb3⟩
        have HB : Hid (Below w.heap.size w w3 ∧ Below w1.heap.size w1 w3) := ⟨H2.out.2.1.trans (hb3.mono H2.out.2.1.size), H2.out.2.2.trans (hb3.mono H2.out.2.2.size)⟩
        clear hb3
        cases hbv : bunB g
        · go_wp2
          go_ret
          exact ⟨ret_bool (by rw [HX.out, all_no HS.out.1 hbv]; simp), HB.out.1⟩
        · go_wp2
          go_roundw
          case rel =>
            refine ⟨k + 1, by go_num, by omega, fun j t hj ht => ?_, HB.out.2⟩
            rcases Nat.lt_or_ge j k with q | q
            · exact HA.out j t q ht
            · obtain rfl : j = k := by omega
              rw [HS.out.1] at ht
              cases ht
              exact hbv
          case measure => simp [intOf]; omega
      · obtain rfl : k = buns.length := by omega
        clear hb
        go_wp2
        go_ret
        refine ⟨ret_bool ?_, HW.out⟩
        have : buns.all bunB = true := all_yes fun j x hj => HA.out j x (List.getElem?_eq_some_iff.1 hj).1 hj
        rw [HX.out, this]
        simp
        omega
  · have hl' : (5 : Int) < (buns.length : Int) := by omega
    go_wp2
    go_ret
    exact ⟨ret_bool (by rw [HX.out]; simp; intro q; omega), H1.out.2.2⟩
set_option maxHeartbeats 1000000 in
theorem ixRight_impl (m : Ixc) (v : Value) (w : World) (h : RI w v m) (hB : BdI 1048576 m) : Calls Tryz.prog 45 #[.agg #[.string m.frm, .string m.to, .int .i64 m.num, v]] w fun e w' => e = .returned (.bool (ixB m)) ∧ Below w.heap.size w w' := by
  obtain ⟨A, C, rfl⟩ := h.ls.val
  have b0 : Below w.heap.size w (w.alloc (.cells #[.string m.frm, .string m.to, .int .i64 m.num, .slice A m.buns.length C] 44)) := (Below.refl _ _).alloc (Nat.le_refl _) _
  have HR : Hid (RI (w.alloc (.cells #[.string m.frm, .string m.to, .int .i64 m.num, .slice A m.buns.length C] 44)) (.slice A m.buns.length C) m) := h.below b0
  clear h
  go_enter Tryz.func45, Tryz.ntmps45
  go_wp2_with fail
  refine (ixAround_any _ _ _ _ _ _ _).mono ?_
  rintro e w1 ⟨rfl, hb1⟩
  have H1 : Hid (RI w1 (.slice A m.buns.length C) m ∧ Below w.heap.size w w1) := ⟨HR.out.below hb1, b0.trans (hb1.mono (by simp))⟩
  clear hb1 HR b0
  go_wp2_with fail
  refine (ixRight1_any m _ _ H1.out.1 hB).mono ?_
  rintro e w2 ⟨rfl, hb2⟩
  have H2 : Hid (Below w.heap.size w w2) := H1.out.2.trans (hb2.mono H1.out.2.size)
  clear hb2
  go_wp2
  go_ret
  exact ⟨rfl, H2.out⟩
end Go.Proofs.YtkaolpnbddjdpaaGreatDoor
