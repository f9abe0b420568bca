/- Contract of the model's RulesRight. -/
import Derived.Test.YtgmbphgkalhceaaRuI
import Derived.Laws.Cover1
namespace Go.Proofs.Ytgmbphgkalhceaa
open Go.ChangeShapes Go.WideShapes Go.ChangeAt Go.RowKit
open Go.Lib (compareBytes)
open Go.Sort
theorem l01Name_growsR (t : ByteArray) (w : World) : Calls Try.prog 10 #[.string t] w fun e w' => e = .returned (.bool (nameB t)) ∧ GrwR w w' := (l01Name_any t w).mono fun _ _ ⟨h1, h2⟩ => ⟨h1, ⟨0, #[], by rw [h2]; rfl⟩⟩
set_option maxHeartbeats 16000000 in
theorem rulesRight_spec (v : Value) (rs : List RulR) (w : World) (h : RowRu w v rs) : Calls Try.prog 5 #[v] w fun e w' => e = .returned (.bool (rusB rs)) ∧ Below w.heap.size w w' := by
  have hlen := h.len
  obtain ⟨A, Cp, rfl⟩ := h.val
  have H0 : Hid (RowRu w (.slice A rs.length Cp) rs) := h
  clear h
  go_enter Try.func5, Try.ntmps5
  by_cases hl : 20 < rs.length
  · have hl' : (20 : Int) < (rs.length : Int) := by omega
    have HN : Hid (rusB rs = false) := rusB_no fun h => by have := h.len; omega
    go_wp2
    go_ret
    exact ⟨by rw [HN.out]; rfl, Below.refl _ _⟩
  have hl' : ¬ (20 : Int) < (rs.length : Int) := by omega
  go_wp2_with fail
  go_loopw [3] (fun i wr => ∃ k : Nat, i = .int .i64 (k : Int) ∧ k ≤ rs.length ∧ Below w.heap.size w wr ∧ ∀ i c, i < k → rs[i]? = some c → OkR rs i c) (fun i _ => rs.length - (intOf i).toNat)
  case atStart => exact ⟨0, rfl, by omega, Below.refl _ _, fun i c hi => by omega⟩
  case round =>
    obtain ⟨k, rfl, hk, hb, hok⟩ := hrel
    have HI : Hid (Below w.heap.size w wr ∧ ∀ i c, i < k → rs[i]? = some c → OkR rs i c) := ⟨hb, hok⟩
    clear hok hb
    by_cases hlt : k < rs.length
    · have hlt' : (k : Int) < (rs.length : Int) := by omega
      obtain ⟨bb, o, cap', cc, e, hs, hat, hz⟩ := (H0.out.below HI.out.1).at hlt
      simp only [Value.slice.injEq, true_and] at e
      obtain ⟨rfl, rfl⟩ := e
      obtain ⟨item, low, up⟩ := cc
      obtain ⟨q0, q1, q2⟩ := hat
      dsimp only at q0 q1 q2
      have HS : Hid (rs[k]? = some ⟨item, low, up⟩) := hs
      clear hs hz
      obtain ⟨W1, hW1⟩ : ∃ W1, wr.alloc (.cells #[.string item, .int .i64 low, .int .i64 up] 32) = W1 := ⟨_, rfl⟩
      have hbW : Below wr.heap.size wr W1 := by rw [← hW1]; exact (Below.refl _ _).alloc (Nat.le_refl _) _
      have hbs : W1.heap[wr.heap.size]? = some (.cells #[.string item, .int .i64 low, .int .i64 up] 32) := by rw [← hW1]; exact World.alloc_heap_new _ _
      have HI1 : Hid (Below w.heap.size w W1) := HI.out.1.trans (hbW.mono HI.out.1.size)
      have HRW : Hid (RowRu W1 (.slice (some ⟨bb, o, none⟩) rs.length Cp) rs) := H0.out.below HI1.out
      obtain ⟨s0, s1, s2⟩ := box3R hbs
      have l1 := (Array.getElem?_eq_some_iff.1 hbs).1
      obtain ⟨S, hS⟩ : ∃ S, S = wr.heap.size := ⟨_, rfl⟩
      go_upto_region 7 with fail
      try rw [hW1]
      try rw [← hS]
      rw [← hS] at s0 s1 s2 l1
      clear hW1 hbW hbs q0 q1 q2 hS
      have f0 := cell_grown (a := ⟨S, 0, none⟩) l1 s0
      have f1 := cell_grown (a := ⟨S, 1, none⟩) l1 s1
      have f2 := cell_grown (a := ⟨S, 2, none⟩) l1 s2
      clear s0 s1 s2
      obtain ⟨x, hx⟩ : ∃ x, x = nameB item := ⟨_, rfl⟩
      have Q1 := l01Name_growsR item
      rw [← hx] at Q1
      have HXX : Hid (x = nameB item) := hx
      clear hx
      have mixed : Try.prog.follows .mixedOrders = true := by kernel_rfl
      obtain ⟨bad, hbad⟩ : ∃ bad : Bool, (bad = true ↔ ¬ OkR rs k ⟨item, low, up⟩) := by
        by_cases h : OkR rs k ⟨item, low, up⟩
        · exact ⟨false, by simp [h]⟩
        · exact ⟨true, by simp [h]⟩
      have HD : Hid (bad = true ↔ ¬ OkR rs k ⟨item, low, up⟩) := hbad
      have HF : Hid (OkR rs k ⟨item, low, up⟩ → bad = false) := fun h => by
        cases bad with
        | false => rfl
        | true => exact absurd h (hbad.1 rfl)
      clear hbad
      go_cut [53] from 18 to 52 (fun t wx => t = .bool bad ∧ Below w.heap.size w wx)
      case first =>
        cases x with
        | false =>
          obtain rfl : bad = true := HD.out.2 fun h => by have h1 := h.ok.n; dsimp only at h1; have h2 := HXX.out; rw [h1] at h2; cases h2
          refine wp_region_quiet_grown mixed (by kernel_rfl) ?_
          repeat (go_big_quiet_step (first | (go_at_call 10; refine Calls.grown_of (Q1 _))))
          refine wpQuiet_nil ?_
          intro _ hw'
          obtain ⟨⟨nq, osq⟩, hw''⟩ := hw'
          subst hw''
          go_wp2_with fail
          go_meet
          exact ⟨rfl, HI1.out.trans ((GrwR.below ⟨nq, osq, rfl⟩).mono HI1.out.size)⟩
        | true =>
          by_cases h2 : low < 0
          · obtain rfl : bad = true := HD.out.2 fun h => by have h1 := h.ok.l0; dsimp only at h1; omega
            refine wp_region_quiet_grown mixed (by kernel_rfl) ?_
            repeat (go_big_quiet_step (first | (go_at_call 10; refine Calls.grown_of (Q1 _))))
            refine wpQuiet_nil ?_
            intro _ hw'
            obtain ⟨⟨nq, osq⟩, hw''⟩ := hw'
            subst hw''
            go_wp2_with fail
            go_meet
            exact ⟨rfl, HI1.out.trans ((GrwR.below ⟨nq, osq, rfl⟩).mono HI1.out.size)⟩
          have h2' : decide (low < 0) = false := by simp; omega
          by_cases h3 : up < low
          · obtain rfl : bad = true := HD.out.2 fun h => by have h1 := h.ok.lu; dsimp only at h1; omega
            clear h2
            refine wp_region_quiet_grown mixed (by kernel_rfl) ?_
            repeat (go_big_quiet_step (first | (go_at_call 10; refine Calls.grown_of (Q1 _))))
            refine wpQuiet_nil ?_
            intro _ hw'
            obtain ⟨⟨nq, osq⟩, hw''⟩ := hw'
            subst hw''
            go_wp2_with fail
            go_meet
            exact ⟨rfl, HI1.out.trans ((GrwR.below ⟨nq, osq, rfl⟩).mono HI1.out.size)⟩
          have h3' : decide (up < low) = false := by simp; omega
          by_cases h4 : 1000000 < up
          · obtain rfl : bad = true := HD.out.2 fun h => by have h1 := h.ok.u1; dsimp only at h1; omega
            clear h2 h3
            refine wp_region_quiet_grown mixed (by kernel_rfl) ?_
            repeat (go_big_quiet_step (first | (go_at_call 10; refine Calls.grown_of (Q1 _))))
            refine wpQuiet_nil ?_
            intro _ hw'
            obtain ⟨⟨nq, osq⟩, hw''⟩ := hw'
            subst hw''
            go_wp2_with fail
            go_meet
            exact ⟨rfl, HI1.out.trans ((GrwR.below ⟨nq, osq, rfl⟩).mono HI1.out.size)⟩
          have h4' : decide (1000000 < up) = false := by simp; omega
          have HO : Hid (RuOk ⟨item, low, up⟩) := ⟨HXX.out.symm, by dsimp only; omega, by dsimp only; omega, by dsimp only; omega⟩
          clear h2 h3 h4
          rcases Nat.eq_zero_or_pos k with k0 | k0
          · obtain rfl : bad = false := HF.out ⟨HO.out, fun d h => by omega⟩
            have d4 : decide (0 < (k : Int)) = false := by simp; omega
            have d4' : decide (0 < k) = false := by simp; omega
            clear k0
            refine wp_region_quiet_grown mixed (by kernel_rfl) ?_
            repeat (go_big_quiet_step (first | (go_at_call 10; refine Calls.grown_of (Q1 _))))
            refine wpQuiet_nil ?_
            intro _ hw'
            obtain ⟨⟨nq, osq⟩, hw''⟩ := hw'
            subst hw''
            go_wp2_with fail
            go_meet
            exact ⟨rfl, HI1.out.trans ((GrwR.below ⟨nq, osq, rfl⟩).mono HI1.out.size)⟩
          · obtain ⟨j, rfl⟩ : ∃ j, k = j + 1 := ⟨k - 1, by omega⟩
            have d4 : (0 : Int) < ((j + 1 : Nat) : Int) := by omega
            have d5 : (0 : Int) < (j : Int) + 1 := by omega
            have i0 : (0 : Int) ≤ (j : Int) := by omega
            have i2 : (j : Int) < (rs.length : Int) := by omega
            have i3 : IntKind.i64.wrap ((j : Int) + 1 - 1) = (j : Int) := by rw [show (j : Int) + 1 - 1 = (j : Int) by omega]; simp [IntKind.wrap, IntKind.bits, IntKind.signed]; omega
            have i4 : IntKind.i64.wrap (j : Int) = (j : Int) := by simp [IntKind.wrap, IntKind.bits, IntKind.signed]; omega
            obtain ⟨b2, o2, cap2, d, e, hs, ⟨r0, r1, r2⟩, _⟩ := HRW.out.at (k := j) (by omega)
            simp only [Value.slice.injEq, Option.some.injEq, Addr.mk.injEq, true_and, and_true] at e
            obtain ⟨⟨rfl, rfl⟩, rfl⟩ := e
            obtain ⟨item2, low2, up2⟩ := d
            dsimp only at r0 r1 r2
            have g0 := cell_grown (cell_lt r0) r0
            have HJ : Hid (rs[j]? = some ⟨item2, low2, up2⟩) := hs
            clear hs r0 r1 r2
            have HR2 : Hid (OkR rs (j + 1) ⟨item, low, up⟩ → Op.bytesLess item2.toList item.toList = true) := fun h => h.rise ⟨item2, low2, up2⟩ (by omega) (by simpa using HJ.out)
            cases xx : Op.bytesLess item.toList item2.toList with
            | true =>
              obtain rfl : bad = true := HD.out.2 fun h => by have := bl_asymm (HR2.out h); rw [xx] at this; cases this
              refine wp_region_quiet_grown mixed (by kernel_rfl) ?_
              repeat (go_big_quiet_step (first | (go_at_call 10; refine Calls.grown_of (Q1 _))))
              refine wpQuiet_nil ?_
              intro _ hw'
              obtain ⟨⟨nq, osq⟩, hw''⟩ := hw'
              subst hw''
              go_wp2_with fail
              go_meet
              exact ⟨rfl, HI1.out.trans ((GrwR.below ⟨nq, osq, rfl⟩).mono HI1.out.size)⟩
            | false =>
              cases yy : (item.toList == item2.toList) with
              | true =>
                obtain rfl : bad = true := HD.out.2 fun h => by have := bl_neR (HR2.out h); rw [yy] at this; cases this
                refine wp_region_quiet_grown mixed (by kernel_rfl) ?_
                repeat (go_big_quiet_step (first | (go_at_call 10; refine Calls.grown_of (Q1 _))))
                refine wpQuiet_nil ?_
                intro _ hw'
                obtain ⟨⟨nq, osq⟩, hw''⟩ := hw'
                subst hw''
                go_wp2_with fail
                go_meet
                exact ⟨rfl, HI1.out.trans ((GrwR.below ⟨nq, osq, rfl⟩).mono HI1.out.size)⟩
              | false =>
                obtain rfl : bad = false := HF.out (rup_ok HO.out xx yy fun d _ hd => by rw [show j + 1 - 1 = j by omega, HJ.out] at hd; cases hd; rfl)
                refine wp_region_quiet_grown mixed (by kernel_rfl) ?_
                repeat (go_big_quiet_step (first | (go_at_call 10; refine Calls.grown_of (Q1 _))))
                refine wpQuiet_nil ?_
                intro _ hw'
                obtain ⟨⟨nq, osq⟩, hw''⟩ := hw'
                subst hw''
                go_wp2_with fail
                go_meet
                exact ⟨rfl, HI1.out.trans ((GrwR.below ⟨nq, osq, rfl⟩).mono HI1.out.size)⟩
      case rest =>
        obtain ⟨rfl, hb5⟩ := hcut
        rename World => w5
        have H5 : Hid (Below w.heap.size w w5) := hb5
        clear hb5
        cases bad with
        | true =>
          have HN : Hid (rusB rs = false) := rusB_no fun h => HD.out.1 rfl (h.at_ k _ HS.out)
          go_wp2
          go_ret
          exact ⟨by rw [HN.out]; rfl, H5.out⟩
        | false =>
          have HN : Hid (OkR rs k ⟨item, low, up⟩) := by
            by_cases h : OkR rs k ⟨item, low, up⟩
            · exact h
            · have := HD.out.2 h
              cases this
          go_wp2
          go_roundw
          case rel =>
            refine ⟨k + 1, by go_num, by omega, H5.out, fun i y hi hy => ?_⟩
            rcases Nat.lt_or_ge i k with g | g
            · exact HI.out.2 i y g hy
            · obtain rfl : i = k := by omega
              rw [HS.out] at hy
              cases hy
              exact HN.out
          case measure => simp [intOf]; omega
    · obtain rfl : k = rs.length := by omega
      have HN : Hid (rusB rs = true ∧ Below w.heap.size w wr) := ⟨rusB_yes ⟨by omega, fun i c hc => HI.out.2 i c (List.getElem?_eq_some_iff.1 hc).1 hc⟩, HI.out.1⟩
      go_wp2
      go_ret
      exact ⟨by rw [HN.out.1]; rfl, HN.out.2⟩
end Go.Proofs.Ytgmbphgkalhceaa
