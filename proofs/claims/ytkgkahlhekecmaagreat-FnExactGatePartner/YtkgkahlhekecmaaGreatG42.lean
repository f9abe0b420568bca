/- Texts of ours put together: OuS. -/
import Derived.Test.YtkgkahlhekecmaaGreatG18
import Derived.Deep.Cut
import Derived.Deep.CutRange
namespace Go.Proofs.YtkgkahlhekecmaaGreat
open Go.ChangeShapes Go.WideShapes Go.ChangeAt Go.RowKit
open Go.Sort
theorem l01Day_any (z : Int) (w : World) : Calls Tryz.prog 50 #[.int .i64 z] w fun e w' => e = .returned (.bool (dayB z)) ∧ w' = w := by
  by_cases h1 : 0 ≤ z
  · by_cases h2 : z ≤ 100000
    · rw [dayB_yes ⟨h1, h2⟩]
      go_enter Tryz.func50, Tryz.ntmps50
      go_wp2
      go_ret
      exact ⟨by first | rfl | exact ret_yesU (p := z ≤ 100000) (by omega), rfl⟩
    · rw [dayB_no (by omega)]
      go_enter Tryz.func50, Tryz.ntmps50
      go_wp2
      go_ret
      exact ⟨by first | rfl | exact ret_noU (p := z ≤ 100000) (by omega), rfl⟩
  · rw [dayB_no (by omega)]
    go_enter Tryz.func50, Tryz.ntmps50
    go_wp2
    go_ret
    exact ⟨by first | rfl | exact ret_noU (p := z ≤ 100000) (by omega), rfl⟩
set_option maxHeartbeats 4000000 in
theorem l12Out_grows (l : OutR) (w : World) (hz : l.text.size ≤ 9223372036854775807) : Calls Tryz.prog 93 #[.agg #[.string l.partner, .int .i64 l.number, .string l.text, .int .i64 l.tries, .int .i64 l.due]] w fun e w' => e = .returned (.bool (ouB l)) ∧ GrwU w w' := by
  obtain ⟨r, hr⟩ : ∃ r, r = ouB l := ⟨_, rfl⟩
  have HR : Hid (r = ouB l) := hr
  rw [← hr]
  clear hr
  obtain ⟨partner, number, text, tries, due⟩ := l
  dsimp only at hz ⊢
  have HB : Hid (∀ o, GrwU w (w.alloc o)) := fun o => .one w o
  have Q0 := l01Name_any partner
  have Q1 := l01Control_any number
  have Q6 := l01Day_any due
  cases h0 : nameB partner
  case false =>
    obtain rfl : r = false := by rw [HR.out]; exact ouB_no fun h => by have := h.p; dsimp only at this; rw [h0] at this; cases this
    rw [h0] at Q0
    go_enter Tryz.func93, Tryz.ntmps93
    go_wp2_with (first | (go_at_call 19; refine (Q0 _).mono ?_; rintro e w' ⟨rfl, rfl⟩) | (go_at_call 95; refine (Q1 _).mono ?_; rintro e w' ⟨rfl, rfl⟩) | (go_at_call 50; refine (Q6 _).mono ?_; rintro e w' ⟨rfl, rfl⟩))
    go_ret
    exact ⟨rfl, HB.out _⟩
  rw [h0] at Q0
  cases h1 : ctlB number
  case false =>
    obtain rfl : r = false := by rw [HR.out]; exact ouB_no fun h => by have := h.n; dsimp only at this; rw [h1] at this; cases this
    rw [h1] at Q1
    go_enter Tryz.func93, Tryz.ntmps93
    go_wp2_with (first | (go_at_call 19; refine (Q0 _).mono ?_; rintro e w' ⟨rfl, rfl⟩) | (go_at_call 95; refine (Q1 _).mono ?_; rintro e w' ⟨rfl, rfl⟩) | (go_at_call 50; refine (Q6 _).mono ?_; rintro e w' ⟨rfl, rfl⟩))
    go_ret
    exact ⟨rfl, HB.out _⟩
  rw [h1] at Q1
  by_cases h2 : 1 ≤ text.size
  case neg =>
    obtain rfl : r = false := by rw [HR.out]; exact ouB_no fun h => h2 h.t1
    have i2 : ¬ (1 : Int) ≤ (text.size : Int) := by omega
    go_enter Tryz.func93, Tryz.ntmps93
    go_wp2_with (first | (go_at_call 19; refine (Q0 _).mono ?_; rintro e w' ⟨rfl, rfl⟩) | (go_at_call 95; refine (Q1 _).mono ?_; rintro e w' ⟨rfl, rfl⟩) | (go_at_call 50; refine (Q6 _).mono ?_; rintro e w' ⟨rfl, rfl⟩))
    go_ret
    exact ⟨rfl, HB.out _⟩
  have i2 : (1 : Int) ≤ (text.size : Int) := by omega
  by_cases h3 : text.size ≤ 20000
  case neg =>
    obtain rfl : r = false := by rw [HR.out]; exact ouB_no fun h => h3 h.t2
    have i3 : ¬ (text.size : Int) ≤ 20000 := by omega
    go_enter Tryz.func93, Tryz.ntmps93
    go_wp2_with (first | (go_at_call 19; refine (Q0 _).mono ?_; rintro e w' ⟨rfl, rfl⟩) | (go_at_call 95; refine (Q1 _).mono ?_; rintro e w' ⟨rfl, rfl⟩) | (go_at_call 50; refine (Q6 _).mono ?_; rintro e w' ⟨rfl, rfl⟩))
    go_ret
    exact ⟨rfl, HB.out _⟩
  have i3 : (text.size : Int) ≤ 20000 := by omega
  by_cases h4 : 0 ≤ tries
  case neg =>
    obtain rfl : r = false := by rw [HR.out]; exact ouB_no fun h => h4 h.r0
    go_enter Tryz.func93, Tryz.ntmps93
    go_wp2_with (first | (go_at_call 19; refine (Q0 _).mono ?_; rintro e w' ⟨rfl, rfl⟩) | (go_at_call 95; refine (Q1 _).mono ?_; rintro e w' ⟨rfl, rfl⟩) | (go_at_call 50; refine (Q6 _).mono ?_; rintro e w' ⟨rfl, rfl⟩))
    go_ret
    exact ⟨rfl, HB.out _⟩
  by_cases h5 : tries ≤ 5
  case neg =>
    obtain rfl : r = false := by rw [HR.out]; exact ouB_no fun h => h5 h.r5
    go_enter Tryz.func93, Tryz.ntmps93
    go_wp2_with (first | (go_at_call 19; refine (Q0 _).mono ?_; rintro e w' ⟨rfl, rfl⟩) | (go_at_call 95; refine (Q1 _).mono ?_; rintro e w' ⟨rfl, rfl⟩) | (go_at_call 50; refine (Q6 _).mono ?_; rintro e w' ⟨rfl, rfl⟩))
    go_ret
    exact ⟨rfl, HB.out _⟩
  by_cases h6 : 0 ≤ due ∧ due ≤ 100000
  case neg =>
    obtain rfl : r = false := by rw [HR.out]; exact ouB_no fun h => h6 h.d
    rw [dayB_no h6] at Q6
    go_enter Tryz.func93, Tryz.ntmps93
    go_wp2_with (first | (go_at_call 19; refine (Q0 _).mono ?_; rintro e w' ⟨rfl, rfl⟩) | (go_at_call 95; refine (Q1 _).mono ?_; rintro e w' ⟨rfl, rfl⟩) | (go_at_call 50; refine (Q6 _).mono ?_; rintro e w' ⟨rfl, rfl⟩))
    go_ret
    exact ⟨rfl, HB.out _⟩
  rw [dayB_yes h6] at Q6
  obtain rfl : r = true := by rw [HR.out]; exact ouB_yes ⟨h0, h1, h2, h3, h4, h5, h6⟩
  clear h6
  go_enter Tryz.func93, Tryz.ntmps93
  go_wp2_with (first | (go_at_call 19; refine (Q0 _).mono ?_; rintro e w' ⟨rfl, rfl⟩) | (go_at_call 95; refine (Q1 _).mono ?_; rintro e w' ⟨rfl, rfl⟩) | (go_at_call 50; refine (Q6 _).mono ?_; rintro e w' ⟨rfl, rfl⟩))
  go_ret
  exact ⟨rfl, HB.out _⟩
set_option maxHeartbeats 2000000 in
theorem before_growsU (a b : OutR) (w : World) : Calls Tryz.prog 94 #[.agg #[.string a.partner, .int .i64 a.number, .string a.text, .int .i64 a.tries, .int .i64 a.due], .agg #[.string b.partner, .int .i64 b.number, .string b.text, .int .i64 b.tries, .int .i64 b.due]] w fun e w' => e = .returned (.bool (befO a b)) ∧ GrwU w w' := by
  obtain ⟨r, hr⟩ : ∃ r, r = befO a b := ⟨_, rfl⟩
  rw [← hr]
  unfold befO at hr
  obtain ⟨a_partner, a_number, a_text, a_tries, a_due⟩ := a
  obtain ⟨b_partner, b_number, b_text, b_tries, b_due⟩ := b
  dsimp only at hr ⊢
  have HB : Hid (GrwU w ((w.alloc (.cells #[.string a_partner, .int .i64 a_number, .string a_text, .int .i64 a_tries, .int .i64 a_due] 112)).alloc (.cells #[.string b_partner, .int .i64 b_number, .string b_text, .int .i64 b_tries, .int .i64 b_due] 112))) := .two _ _ _
  cases h2 : Op.bytesLess a_partner.toList b_partner.toList
  · cases h1 : (a_partner.toList == b_partner.toList)
    · obtain rfl : r = false := by rw [hr, h1, h2]; rfl
      clear hr
      go_enter Tryz.func94, Tryz.ntmps94
      go_wp2
      go_ret
      exact ⟨by first | rfl, HB.out⟩
    · by_cases h5 : a_number < b_number
      · obtain rfl : r = true := by rw [hr, h1, h2, decide_eq_true h5]; rfl
        clear hr
        go_enter Tryz.func94, Tryz.ntmps94
        go_wp2
        go_ret
        exact ⟨by first | rfl | exact ret_yesU (p := a_number < b_number) (by omega), HB.out⟩
      · obtain rfl : r = false := by rw [hr, h1, h2, decide_eq_false h5]; rfl
        clear hr
        go_enter Tryz.func94, Tryz.ntmps94
        go_wp2
        go_ret
        exact ⟨by first | rfl | exact ret_noU (p := a_number < b_number) (by omega), HB.out⟩
  · obtain rfl : r = true := by rw [hr, h2]; rfl
    clear hr
    go_enter Tryz.func94, Tryz.ntmps94
    go_wp2
    go_ret
    exact ⟨by first | rfl, HB.out⟩
set_option maxHeartbeats 8000000 in
theorem outboxRight_spec (v : Value) (rs : List OutR) (w : World) (h : RowOu w v rs) : Calls Tryz.prog 53 #[v] w fun e w' => e = .returned (.bool (ousB rs)) ∧ Below w.heap.size w w' := by
  have hlen := h.len
  obtain ⟨A, Cp, rfl⟩ := h.val
  have H0 : Hid (RowOu w (.slice A rs.length Cp) rs) := h
  clear h
  go_enter Tryz.func53, Tryz.ntmps53
  by_cases hl : 60 < rs.length
  · have hl' : (60 : Int) < (rs.length : Int) := by omega
    have HN : Hid (ousB rs = false) := ousB_no fun h => by have := h.len; omega
    go_wp2
    go_ret
    exact ⟨by rw [HN.out]; rfl, Below.refl _ _⟩
  have hl' : ¬ (60 : Int) < (rs.length : Int) := by omega
  go_wp2_with fail
  go_loopw [3] (fun i wr => ∃ k : Nat, i = .int .i64 (k : Int) ∧ k ≤ rs.length ∧ Below w.heap.size w wr ∧ ∀ i c, i < k → rs[i]? = some c → OkO rs i c) (fun i _ => rs.length - (intOf i).toNat)
  case atStart => exact ⟨0, rfl, by omega, Below.refl _ _, fun i c hi => by omega⟩
  case round =>
    obtain ⟨k, rfl, hk, hb, hok⟩ := hrel
    have HI : Hid (Below w.heap.size w wr ∧ ∀ i c, i < k → rs[i]? = some c → OkO rs i c) := ⟨hb, hok⟩
    clear hok hb
    by_cases hlt : k < rs.length
    · have hlt' : (k : Int) < (rs.length : Int) := by omega
      obtain ⟨b, o, cap', c, e, hs, hat, hz⟩ := (H0.out.below HI.out.1).at hlt
      simp only [Value.slice.injEq, true_and] at e
      obtain ⟨rfl, rfl⟩ := e
      have HS : Hid (rs[k]? = some c) := hs
      have HA : Hid (∀ W, Below wr.heap.size wr W → AtOu W b (o + k * 5) c) := fun W hW => hat.below hW
      obtain ⟨q0, q1, q2, q3, q4⟩ := hat
      clear hs
      obtain ⟨x, hx⟩ : ∃ x, x = ouB c := ⟨_, rfl⟩
      have Q1 := fun w => l12Out_grows c w hz.2
      clear hz
      rw [← hx] at Q1
      have HX : Hid (x = ouB c) := hx
      clear hx
      have l0 := cell_lt q0
      have f0 := cell_grown l0 q0
      have f1 := cell_grown l0 q1
      have f2 := cell_grown l0 q2
      have f3 := cell_grown l0 q3
      have f4 := cell_grown l0 q4
      clear q0 q1 q2 q3 q4 HA
      have mixed : Tryz.prog.follows .mixedOrders = true := by kernel_rfl
      obtain ⟨bad, hbad⟩ : ∃ bad : Bool, bad = !(x && (if k = 0 then true else ((rs[k - 1]?).map fun d => befO d c).getD true)) := ⟨_, rfl⟩
      go_upto_region 6 with fail
      go_cut [35] from 13 to 34 (fun t wx => t = .bool bad ∧ Below w.heap.size w wx)
      case first =>
        cases x with
        | false =>
          obtain rfl : bad = true := by rw [hbad]; rfl
          clear hbad
          refine wp_region_quiet_grown mixed (by kernel_rfl) ?_
          repeat (go_big_quiet_step (first | (go_at_call 93; refine Calls.grown_of (Q1 _)) | (go_at_call 94; refine Calls.grown_of (Q4 _))))
          refine wpQuiet_nil ?_
          intro _ hw'
          obtain ⟨⟨nq, osq⟩, hw''⟩ := hw'
          subst hw''
          go_wp2_with fail
          go_meet
          exact ⟨rfl, HI.out.1.trans ((GrwU.below ⟨nq, osq, rfl⟩).mono HI.out.1.size)⟩
        | true =>
          rcases Nat.eq_zero_or_pos k with k0 | k0
          · obtain rfl : bad = false := by rw [hbad, if_pos k0]; rfl
            have d4 : decide (0 < (k : Int)) = false := by simp; omega
            have d4' : decide (0 < k) = false := by simp; omega
            clear hbad k0
            refine wp_region_quiet_grown mixed (by kernel_rfl) ?_
            repeat (go_big_quiet_step (first | (go_at_call 93; refine Calls.grown_of (Q1 _)) | (go_at_call 94; refine Calls.grown_of (Q4 _))))
            refine wpQuiet_nil ?_
            intro _ hw'
            obtain ⟨⟨nq, osq⟩, hw''⟩ := hw'
            subst hw''
            go_wp2_with fail
            go_meet
            exact ⟨rfl, HI.out.1.trans ((GrwU.below ⟨nq, osq, rfl⟩).mono HI.out.1.size)⟩
          · obtain ⟨j, rfl⟩ : ∃ j, k = j + 1 := ⟨k - 1, by omega⟩
            have d4 : (0 : Int) < ((j + 1 : Nat) : Int) := by omega
            have d5 : (0 : Int) < (j : Int) + 1 := by omega
            have i0 : (0 : Int) ≤ (j : Int) := by omega
            have i2 : (j : Int) < (rs.length : Int) := by omega
            have i3 : IntKind.i64.wrap ((j : Int) + 1 - 1) = (j : Int) := by rw [show (j : Int) + 1 - 1 = (j : Int) by omega]; simp [IntKind.wrap, IntKind.bits, IntKind.signed]; omega
            have i4 : IntKind.i64.wrap (j : Int) = (j : Int) := by simp [IntKind.wrap, IntKind.bits, IntKind.signed]; omega
            obtain ⟨b2, o2, cap2, d, e, hs, ⟨p0, p1, p2, p3, p4⟩, _⟩ := (H0.out.below HI.out.1).at (k := j) (by omega)
            simp only [Value.slice.injEq, Option.some.injEq, Addr.mk.injEq, true_and, and_true] at e
            obtain ⟨⟨rfl, rfl⟩, rfl⟩ := e
            have g0 := cell_grown l0 p0
            have g1 := cell_grown l0 p1
            have g2 := cell_grown l0 p2
            have g3 := cell_grown l0 p3
            have g4 := cell_grown l0 p4
            clear p0 p1 p2 p3 p4
            obtain ⟨bf, hbf⟩ : ∃ bf, bf = befO d c := ⟨_, rfl⟩
            have HBB : Hid (bad = !bf) := by show bad = !bf; rw [hbad, if_neg (by omega), show j + 1 - 1 = j by omega, hs, hbf]; rfl
            have Q4 := before_growsU d c
            rw [← hbf] at Q4
            clear hs hbad hbf
            refine wp_region_quiet_grown mixed (by kernel_rfl) ?_
            repeat (go_big_quiet_step (first | (go_at_call 93; refine Calls.grown_of (Q1 _)) | (go_at_call 94; refine Calls.grown_of (Q4 _))))
            refine wpQuiet_nil ?_
            intro _ hw'
            obtain ⟨⟨nq, osq⟩, hw''⟩ := hw'
            subst hw''
            go_wp2_with fail
            go_meet
            exact ⟨by rw [HBB.out], HI.out.1.trans ((GrwU.below ⟨nq, osq, rfl⟩).mono HI.out.1.size)⟩
      case rest =>
        obtain ⟨rfl, hb5⟩ := hcut
        rename World => w5
        have H5 : Hid (Below w.heap.size w w5) := hb5
        clear hb5
        have HD : Hid (bad = !(ouB c && (if k = 0 then true else ((rs[k - 1]?).map fun d => befO d c).getD true))) := by rw [HX.out] at hbad; exact hbad
        clear hbad
        cases bad with
        | true =>
          have HN : Hid (ousB rs = false) := ousB_no fun h => by
            have h1 := h.at_ k c HS.out
            have h2 := HD.out
            rw [ouB_yes h1.ok] at h2
            by_cases k0 : k = 0
            · rw [if_pos k0] at h2
              cases h2
            · have hk1 : k - 1 < rs.length := by omega
              have hd := List.getElem?_eq_getElem hk1
              rw [if_neg k0, hd, Option.map_some, Option.getD_some, h1.rise _ (by omega) hd] at h2
              cases h2
          go_wp2
          go_ret
          exact ⟨by rw [HN.out]; rfl, H5.out⟩
        | false =>
          have HN : Hid (OkO rs k c) := by
            have h2 := HD.out
            cases hcr : ouB c with
            | false => rw [hcr] at h2; cases h2
            | true =>
              refine ⟨ouB_iff.1 hcr, fun d k0 hd => ?_⟩
              rw [hcr, if_neg (by omega), hd, Option.map_some, Option.getD_some] at h2
              cases hbf : befO d c with
              | true => rfl
              | false => rw [hbf] at h2; cases h2
          go_wp2
          go_roundw
          case rel =>
            refine ⟨k + 1, by go_num, by omega, H5.out, fun i y hi hy => ?_⟩
            rcases Nat.lt_or_ge i k with g | g
            · exact HI.out.2 i y g hy
            · obtain rfl : i = k := by omega
              rw [HS.out] at hy
              cases hy
              exact HN.out
          case measure => simp [intOf]; omega
    · obtain rfl : k = rs.length := by omega
      have HN : Hid (ousB rs = true) := ousB_yes ⟨by omega, fun i c hc => HI.out.2 i c (List.getElem?_eq_some_iff.1 hc).1 hc⟩
      go_wp2
      go_ret
      exact ⟨by rw [HN.out]; rfl, HI.out.1⟩
end Go.Proofs.YtkgkahlhekecmaaGreat
