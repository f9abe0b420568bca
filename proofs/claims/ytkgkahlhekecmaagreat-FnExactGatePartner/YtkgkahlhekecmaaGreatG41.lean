/- Texts of ours put together: BkS. -/
import Derived.Test.YtkgkahlhekecmaaGreatG35
import Derived.Test.YtkgkahlhekecmaaGreatG40
import Derived.Laws.Cover1
namespace Go.Proofs.YtkgkahlhekecmaaGreat
open Go.ChangeShapes Go.WideShapes Go.ChangeAt Go.RowKit
open Go.Sort
theorem l01Name_grows (t : ByteArray) (w : World) : Calls Tryz.prog 19 #[.string t] w fun e w' => e = .returned (.bool (nameB t)) ∧ Grw w w' := (l01Name_any t w).mono fun _ _ ⟨h1, h2⟩ => ⟨h1, ⟨0, #[], by rw [h2]; rfl⟩⟩
set_option maxHeartbeats 16000000 in
theorem bookRight_spec (b : Bk) (us ul : Value) (w : World) (h : RBk w us ul b) : Calls Tryz.prog 52 #[.agg #[us, ul]] w fun e w' => e = .returned (.bool (bkB b)) ∧ Below w.heap.size w w' := by
  obtain ⟨a, c, a', c', rfl, rfl⟩ := h.val
  have hlen := h.st.len
  obtain ⟨W0, hW0⟩ : ∃ W0, w.alloc (.cells #[.slice a b.stocks.length c, .slice a' b.lines.length c'] 38) = W0 := ⟨_, rfl⟩
  have hb0 : Below w.heap.size w W0 := by rw [← hW0]; exact (Below.refl _ _).alloc (Nat.le_refl _) _
  have hbx : W0.heap[w.heap.size]? = some (.cells #[.slice a b.stocks.length c, .slice a' b.lines.length c'] 38) := by rw [← hW0]; exact World.alloc_heap_new _ _
  have H0 : Hid (Below w.heap.size w W0 ∧ RBk W0 (.slice a b.stocks.length c) (.slice a' b.lines.length c') b) := ⟨hb0, h.below hb0⟩
  clear h hb0
  go_enter Tryz.func52, Tryz.ntmps52
  go_upto_region 1 with fail
  try rw [hW0]
  clear hW0
  obtain ⟨c0, c1⟩ := box2 hbx
  have hltB := (Array.getElem?_eq_some_iff.1 hbx).1
  have HX : Hid (W0.heap[w.heap.size]? = some (.cells #[.slice a b.stocks.length c, .slice a' b.lines.length c'] 38)) := hbx
  clear hbx
  by_cases hl : 100 < b.stocks.length
  · have hl' : (100 : Int) < (b.stocks.length : Int) := by omega
    have HN : Hid (bkB b = false) := by
      cases e : bkB b with
      | false => rfl
      | true =>
        have := (bkB_iff.1 e).1.len
        omega
    go_wp2
    go_ret
    exact ⟨by rw [HN.out]; rfl, H0.out.1⟩
  have hl' : ¬ (100 : Int) < (b.stocks.length : Int) := by omega
  obtain ⟨y, hy⟩ : ∃ y, y = lnsB b.lines := ⟨_, rfl⟩
  have HY : Hid (y = lnsB b.lines) := hy
  have Q2 := fun W h => linesRight_spec (.slice a' b.lines.length c') b.lines W h
  rw [← hy] at Q2
  clear hy
  go_wp2_with fail
  refine (Q2 _ H0.out.2.ln).mono ?_
  rintro e w1 ⟨rfl, hb1⟩
  have H1 : Hid (Below w.heap.size w w1 ∧ RBk w1 (.slice a b.stocks.length c) (.slice a' b.lines.length c') b ∧ w1.heap[w.heap.size]? = some (.cells #[.slice a b.stocks.length c, .slice a' b.lines.length c'] 38)) := ⟨H0.out.1.trans (hb1.mono H0.out.1.size), H0.out.2.below hb1, (hb1.block _ hltB).trans HX.out⟩
  obtain ⟨d0, d1⟩ := box2 H1.out.2.2
  have hlt1 := (Array.getElem?_eq_some_iff.1 H1.out.2.2).1
  clear hb1 c0 c1 Q2 H0 HX
  cases y with
  | false =>
    have HN : Hid (bkB b = false) := by show (stsB b.stocks && lnsB b.lines) = false; rw [← HY.out]; simp
    go_wp2
    go_ret
    exact ⟨by rw [HN.out]; rfl, H1.out.1⟩
  | true =>
  have HZ : Hid (bkB b = stsB b.stocks) := by show (stsB b.stocks && lnsB b.lines) = _; rw [← HY.out]; simp
  clear HY
  obtain ⟨rs, hrs⟩ : ∃ rs, rs = b.stocks := ⟨_, rfl⟩
  rw [← hrs] at hlen hl hl' d0
  have HR : Hid (rs = b.stocks) := hrs
  try rw [← hrs]
  clear hrs
  have HRow : Hid (RowSt w1 (.slice a rs.length c) rs) := by rw [HR.out]; exact H1.out.2.1.st
  clear d1
  go_wp2_with fail
  try rw [← HR.out]
  go_loopw [3] (fun i wr => ∃ k : Nat, i = .int .i64 (k : Int) ∧ k ≤ rs.length ∧ Below w1.heap.size w1 wr ∧ ∀ i c, i < k → rs[i]? = some c → OkS rs i c) (fun i _ => rs.length - (intOf i).toNat)
  case atStart => exact ⟨0, rfl, by omega, Below.refl _ _, fun i c hi => by omega⟩
  case round =>
    obtain ⟨k, rfl, hk, hb, hok⟩ := hrel
    have HI : Hid (Below w1.heap.size w1 wr ∧ ∀ i c, i < k → rs[i]? = some c → OkS rs i c) := ⟨hb, hok⟩
    have hbk := (hb.block _ hlt1).trans H1.out.2.2
    rw [← HR.out] at hbk
    have hltw := (Array.getElem?_eq_some_iff.1 hbk).1
    obtain ⟨e0, e1⟩ := box2 hbk
    clear hok hb d0
    by_cases hlt : k < rs.length
    · have hlt' : (k : Int) < (rs.length : Int) := by omega
      obtain ⟨bb, o, cap', cc, e, hs, hat, hz⟩ := (HRow.out.below HI.out.1).at hlt
      simp only [Value.slice.injEq, true_and] at e
      obtain ⟨rfl, rfl⟩ := e
      obtain ⟨item, hand⟩ := cc
      obtain ⟨q0, q1⟩ := hat
      dsimp only at q0 q1
      have HS : Hid (rs[k]? = some ⟨item, hand⟩) := hs
      clear hs hz
      obtain ⟨W1, hW1⟩ : ∃ W1, wr.alloc (.cells #[.string item, .int .i64 hand] 145) = W1 := ⟨_, rfl⟩
      have hbW : Below wr.heap.size wr W1 := by rw [← hW1]; exact (Below.refl _ _).alloc (Nat.le_refl _) _
      have hbs : W1.heap[wr.heap.size]? = some (.cells #[.string item, .int .i64 hand] 145) := by rw [← hW1]; exact World.alloc_heap_new _ _
      have HI1 : Hid (Below w1.heap.size w1 W1) := HI.out.1.trans (hbW.mono HI.out.1.size)
      have HRW : Hid (RowSt W1 (.slice (some ⟨bb, o, none⟩) rs.length c) rs) := HRow.out.below HI1.out
      obtain ⟨s0, s1⟩ := box2 hbs
      obtain ⟨p0, p1⟩ := box2 ((hbW.block _ hltw).trans hbk)
      have l1 := (Array.getElem?_eq_some_iff.1 hbs).1
      have l2 : w.heap.size < W1.heap.size := by have := hbW.size; omega
      obtain ⟨S, hS⟩ : ∃ S, S = wr.heap.size := ⟨_, rfl⟩
      go_upto_region 7 with fail
      try rw [hW1]
      try rw [← hS]
      rw [← hS] at s0 s1 l1
      clear hW1 hbW hbs hbk e0 e1 q0 q1 hS
      have f0 := cell_grown (a := ⟨S, 0, none⟩) l1 s0
      have f1 := cell_grown (a := ⟨S, 1, none⟩) l1 s1
      have f2 := cell_grown (a := ⟨w.heap.size, 0, none⟩) l2 p0
      clear s0 s1 p0 p1
      obtain ⟨x, hx⟩ : ∃ x, x = nameB item := ⟨_, rfl⟩
      have Q1 := l01Name_grows item
      rw [← hx] at Q1
      have HXX : Hid (x = nameB item) := hx
      clear hx
      have mixed : Tryz.prog.follows .mixedOrders = true := by kernel_rfl
      obtain ⟨bad, hbad⟩ : ∃ bad : Bool, (bad = true ↔ ¬ OkS rs k ⟨item, hand⟩) := by
        by_cases h : OkS rs k ⟨item, hand⟩
        · exact ⟨false, by simp [h]⟩
        · exact ⟨true, by simp [h]⟩
      have HD : Hid (bad = true ↔ ¬ OkS rs k ⟨item, hand⟩) := hbad
      have HF : Hid (OkS rs k ⟨item, hand⟩ → bad = false) := fun h => by
        cases bad with
        | false => rfl
        | true => exact absurd h (hbad.1 rfl)
      clear hbad
      go_cut [56] from 15 to 55 (fun t wx => t = .bool bad ∧ Below w1.heap.size w1 wx)
      case first =>
        cases x with
        | false =>
          obtain rfl : bad = true := HD.out.2 fun h => by have h1 := h.ok.n; dsimp only at h1; have h2 := HXX.out; rw [h1] at h2; cases h2
          refine wp_region_quiet_grown mixed (by kernel_rfl) ?_
          repeat (go_big_quiet_step (first | (go_at_call 19; refine Calls.grown_of (Q1 _))))
          refine wpQuiet_nil ?_
          intro _ hw'
          obtain ⟨⟨nq, osq⟩, hw''⟩ := hw'
          subst hw''
          go_wp2_with fail
          go_meet
          exact ⟨rfl, HI1.out.trans ((Grw.below ⟨nq, osq, rfl⟩).mono HI1.out.size)⟩
        | true =>
          by_cases h2 : hand < 0
          · obtain rfl : bad = true := HD.out.2 fun h => by have h1 := h.ok.h0; dsimp only at h1; omega
            refine wp_region_quiet_grown mixed (by kernel_rfl) ?_
            repeat (go_big_quiet_step (first | (go_at_call 19; refine Calls.grown_of (Q1 _))))
            refine wpQuiet_nil ?_
            intro _ hw'
            obtain ⟨⟨nq, osq⟩, hw''⟩ := hw'
            subst hw''
            go_wp2_with fail
            go_meet
            exact ⟨rfl, HI1.out.trans ((Grw.below ⟨nq, osq, rfl⟩).mono HI1.out.size)⟩
          by_cases h3 : 1000000000 < hand
          · obtain rfl : bad = true := HD.out.2 fun h => by have h1 := h.ok.h1; dsimp only at h1; omega
            have h2' : decide (hand < 0) = false := by simp; omega
            refine wp_region_quiet_grown mixed (by kernel_rfl) ?_
            repeat (go_big_quiet_step (first | (go_at_call 19; refine Calls.grown_of (Q1 _))))
            refine wpQuiet_nil ?_
            intro _ hw'
            obtain ⟨⟨nq, osq⟩, hw''⟩ := hw'
            subst hw''
            go_wp2_with fail
            go_meet
            exact ⟨rfl, HI1.out.trans ((Grw.below ⟨nq, osq, rfl⟩).mono HI1.out.size)⟩
          have h2' : decide (hand < 0) = false := by simp; omega
          have h3' : decide (1000000000 < hand) = false := by simp; omega
          have HO : Hid (StOk ⟨item, hand⟩) := ⟨HXX.out.symm, by dsimp only; omega, by dsimp only; omega⟩
          clear h2 h3
          rcases Nat.eq_zero_or_pos k with k0 | k0
          · obtain rfl : bad = false := HF.out ⟨HO.out, fun d h => by omega⟩
            have d4 : decide (0 < (k : Int)) = false := by simp; omega
            have d4' : decide (0 < k) = false := by simp; omega
            clear k0
            refine wp_region_quiet_grown mixed (by kernel_rfl) ?_
            repeat (go_big_quiet_step (first | (go_at_call 19; refine Calls.grown_of (Q1 _))))
            refine wpQuiet_nil ?_
            intro _ hw'
            obtain ⟨⟨nq, osq⟩, hw''⟩ := hw'
            subst hw''
            go_wp2_with fail
            go_meet
            exact ⟨rfl, HI1.out.trans ((Grw.below ⟨nq, osq, rfl⟩).mono HI1.out.size)⟩
          · obtain ⟨j, rfl⟩ : ∃ j, k = j + 1 := ⟨k - 1, by omega⟩
            have d4 : (0 : Int) < ((j + 1 : Nat) : Int) := by omega
            have d5 : (0 : Int) < (j : Int) + 1 := by omega
            have i0 : (0 : Int) ≤ (j : Int) := by omega
            have i2 : (j : Int) < (rs.length : Int) := by omega
            have i3 : IntKind.i64.wrap ((j : Int) + 1 - 1) = (j : Int) := by rw [show (j : Int) + 1 - 1 = (j : Int) by omega]; simp [IntKind.wrap, IntKind.bits, IntKind.signed]; omega
            have i4 : IntKind.i64.wrap (j : Int) = (j : Int) := by simp [IntKind.wrap, IntKind.bits, IntKind.signed]; omega
            obtain ⟨b2, o2, cap2, d, e, hs, ⟨r0, r1⟩, _⟩ := HRW.out.at (k := j) (by omega)
            simp only [Value.slice.injEq, Option.some.injEq, Addr.mk.injEq, true_and, and_true] at e
            obtain ⟨⟨rfl, rfl⟩, rfl⟩ := e
            obtain ⟨item2, hand2⟩ := d
            dsimp only at r0 r1
            have g0 := cell_grown (cell_lt r0) r0
            have HJ : Hid (rs[j]? = some ⟨item2, hand2⟩) := hs
            clear hs r0 r1
            have HR2 : Hid (OkS rs (j + 1) ⟨item, hand⟩ → Op.bytesLess item2.toList item.toList = true) := fun h => h.rise ⟨item2, hand2⟩ (by omega) (by simpa using HJ.out)
            cases xx : Op.bytesLess item.toList item2.toList with
            | true =>
              obtain rfl : bad = true := HD.out.2 fun h => by have := bl_asymm (HR2.out h); rw [xx] at this; cases this
              refine wp_region_quiet_grown mixed (by kernel_rfl) ?_
              repeat (go_big_quiet_step (first | (go_at_call 19; refine Calls.grown_of (Q1 _))))
              refine wpQuiet_nil ?_
              intro _ hw'
              obtain ⟨⟨nq, osq⟩, hw''⟩ := hw'
              subst hw''
              go_wp2_with fail
              go_meet
              exact ⟨rfl, HI1.out.trans ((Grw.below ⟨nq, osq, rfl⟩).mono HI1.out.size)⟩
            | false =>
              cases yy : (item.toList == item2.toList) with
              | true =>
                obtain rfl : bad = true := HD.out.2 fun h => by have := bl_ne (HR2.out h); rw [yy] at this; cases this
                refine wp_region_quiet_grown mixed (by kernel_rfl) ?_
                repeat (go_big_quiet_step (first | (go_at_call 19; refine Calls.grown_of (Q1 _))))
                refine wpQuiet_nil ?_
                intro _ hw'
                obtain ⟨⟨nq, osq⟩, hw''⟩ := hw'
                subst hw''
                go_wp2_with fail
                go_meet
                exact ⟨rfl, HI1.out.trans ((Grw.below ⟨nq, osq, rfl⟩).mono HI1.out.size)⟩
              | false =>
                obtain rfl : bad = false := HF.out (stp_ok HO.out xx yy fun d _ hd => by rw [show j + 1 - 1 = j by omega, HJ.out] at hd; cases hd; rfl)
                refine wp_region_quiet_grown mixed (by kernel_rfl) ?_
                repeat (go_big_quiet_step (first | (go_at_call 19; refine Calls.grown_of (Q1 _))))
                refine wpQuiet_nil ?_
                intro _ hw'
                obtain ⟨⟨nq, osq⟩, hw''⟩ := hw'
                subst hw''
                go_wp2_with fail
                go_meet
                exact ⟨rfl, HI1.out.trans ((Grw.below ⟨nq, osq, rfl⟩).mono HI1.out.size)⟩
      case rest =>
        obtain ⟨rfl, hb5⟩ := hcut
        rename World => w5
        have H5 : Hid (Below w1.heap.size w1 w5) := hb5
        clear hb5
        cases bad with
        | true =>
          have HN : Hid (bkB b = false) := by rw [HZ.out]; exact stsB_no fun h => HD.out.1 rfl ((HR.out ▸ h).at_ k _ HS.out)
          go_wp2
          go_ret
          exact ⟨by rw [HN.out]; rfl, H1.out.1.trans (H5.out.mono H1.out.1.size)⟩
        | false =>
          have HN : Hid (OkS rs k ⟨item, hand⟩) := by
            by_cases h : OkS rs k ⟨item, hand⟩
            · exact h
            · have := HD.out.2 h
              cases this
          go_wp2
          go_roundw
          case rel =>
            refine ⟨k + 1, by go_num, by omega, H5.out, fun i y hi hy => ?_⟩
            rcases Nat.lt_or_ge i k with g | g
            · exact HI.out.2 i y g hy
            · obtain rfl : i = k := by omega
              rw [HS.out] at hy
              cases hy
              exact HN.out
          case measure => simp [intOf]; omega
    · obtain rfl : k = rs.length := by omega
      have HN : Hid (bkB b = true) := by
        rw [HZ.out, ← HR.out]
        exact stsB_yes ⟨by omega, fun i c hc => HI.out.2 i c (List.getElem?_eq_some_iff.1 hc).1 hc⟩
      go_wp2
      go_ret
      exact ⟨by rw [HN.out]; rfl, H1.out.1.trans (HI.out.1.mono H1.out.1.size)⟩
end Go.Proofs.YtkgkahlhekecmaaGreat
