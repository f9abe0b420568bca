/- Contracts of the model's l09Before and LinesRight. -/
import Derived.Test.YtppfobeencnbdaaLnS0
import Derived.Deep.Cut
import Derived.Deep.CutRange
import Derived.Deep.QuietTactic
import Derived.BigQuiet
import Derived.BigRegion
import Derived.Shelf.SlSortCmp.QuietGrown
namespace Go.Proofs.Ytppfobeencnbdaa
open Go.ChangeShapes Go.WideShapes Go.ChangeAt Go.RowKit
open Go.Sort
set_option maxHeartbeats 2000000 in
theorem before_grows (a b : OLn) (w : World) : Calls Try.prog 19 #[.agg #[.string a.partner, .string a.ref, .int .i64 a.no, .string a.item, .int .i64 a.ordered, .int .i64 a.sent, .int .i64 a.got, .int .i64 a.cut], .agg #[.string b.partner, .string b.ref, .int .i64 b.no, .string b.item, .int .i64 b.ordered, .int .i64 b.sent, .int .i64 b.got, .int .i64 b.cut]] w fun e w' => e = .returned (.bool (befL a b)) ∧ Grw w w' := by
  obtain ⟨r, hr⟩ : ∃ r, r = befL a b := ⟨_, rfl⟩
  rw [← hr]
  unfold befL at hr
  obtain ⟨a_partner, a_ref, a_no, a_item, a_ordered, a_sent, a_got, a_cut⟩ := a
  obtain ⟨b_partner, b_ref, b_no, b_item, b_ordered, b_sent, b_got, b_cut⟩ := b
  dsimp only at hr ⊢
  have HB : Hid (Grw w ((w.alloc (.cells #[.string a_partner, .string a_ref, .int .i64 a_no, .string a_item, .int .i64 a_ordered, .int .i64 a_sent, .int .i64 a_got, .int .i64 a_cut] 31)).alloc (.cells #[.string b_partner, .string b_ref, .int .i64 b_no, .string b_item, .int .i64 b_ordered, .int .i64 b_sent, .int .i64 b_got, .int .i64 b_cut] 31))) := .two _ _ _
  cases h1 : (a_partner.toList == b_partner.toList)
  · cases h2 : Op.bytesLess a_partner.toList b_partner.toList
    · obtain rfl : r = false := by rw [hr, h1, h2]; rfl
      clear hr
      go_enter Try.func19, Try.ntmps19
      go_wp2
      go_ret
      exact ⟨by first | rfl, HB.out⟩
    · obtain rfl : r = true := by rw [hr, h1, h2]; rfl
      clear hr
      go_enter Try.func19, Try.ntmps19
      go_wp2
      go_ret
      exact ⟨by first | rfl, HB.out⟩
  · have h2 : Op.bytesLess a_partner.toList b_partner.toList = false := by
      have e : a_partner.toList = b_partner.toList := by simpa using h1
      rw [e, bl_irrefl]
    cases h3 : (a_ref.toList == b_ref.toList)
    · cases h4 : Op.bytesLess a_ref.toList b_ref.toList
      · obtain rfl : r = false := by rw [hr, h1, h2, h3, h4]; rfl
        clear hr h2
        go_enter Try.func19, Try.ntmps19
        go_wp2
        go_ret
        exact ⟨by first | rfl, HB.out⟩
      · obtain rfl : r = true := by rw [hr, h1, h2, h3, h4]; rfl
        clear hr h2
        go_enter Try.func19, Try.ntmps19
        go_wp2
        go_ret
        exact ⟨by first | rfl, HB.out⟩
    · have h4 : Op.bytesLess a_ref.toList b_ref.toList = false := by
        have e : a_ref.toList = b_ref.toList := by simpa using h3
        rw [e, bl_irrefl]
      by_cases h5 : a_no < b_no
      · obtain rfl : r = true := by rw [hr, h1, h2, h3, h4, decide_eq_true h5]; rfl
        clear hr h2 h4
        go_enter Try.func19, Try.ntmps19
        go_wp2
        go_ret
        exact ⟨by first | rfl | exact ret_yes (p := a_no < b_no) (by omega), HB.out⟩
      · obtain rfl : r = false := by rw [hr, h1, h2, h3, h4, decide_eq_false h5]; rfl
        clear hr h2 h4
        go_enter Try.func19, Try.ntmps19
        go_wp2
        go_ret
        exact ⟨by first | rfl | exact ret_no (p := a_no < b_no) (by omega), HB.out⟩
set_option maxHeartbeats 8000000 in
theorem linesRight_spec (v : Value) (rs : List OLn) (w : World) (h : RowOl w v rs) : Calls Try.prog 7 #[v] w fun e w' => e = .returned (.bool (lnsB rs)) ∧ Below w.heap.size w w' := by
  have hlen := h.len
  obtain ⟨A, Cp, rfl⟩ := h.val
  have H0 : Hid (RowOl w (.slice A rs.length Cp) rs) := h
  clear h
  go_enter Try.func7, Try.ntmps7
  by_cases hl : 200 < rs.length
  · have hl' : (200 : Int) < (rs.length : Int) := by omega
    have HN : Hid (lnsB rs = false) := lnsB_no fun h => by have := h.len; omega
    go_wp2
    go_ret
    exact ⟨by rw [HN.out]; rfl, Below.refl _ _⟩
  have hl' : ¬ (200 : Int) < (rs.length : Int) := by omega
  go_wp2_with fail
  go_loopw [3] (fun i wr => ∃ k : Nat, i = .int .i64 (k : Int) ∧ k ≤ rs.length ∧ Below w.heap.size w wr ∧ ∀ i c, i < k → rs[i]? = some c → OkL rs i c) (fun i _ => rs.length - (intOf i).toNat)
  case atStart => exact ⟨0, rfl, by omega, Below.refl _ _, fun i c hi => by omega⟩
  case round =>
    obtain ⟨k, rfl, hk, hb, hok⟩ := hrel
    have HI : Hid (Below w.heap.size w wr ∧ ∀ i c, i < k → rs[i]? = some c → OkL rs i c) := ⟨hb, hok⟩
    clear hok hb
    by_cases hlt : k < rs.length
    · have hlt' : (k : Int) < (rs.length : Int) := by omega
      obtain ⟨b, o, cap', c, e, hs, hat, hz⟩ := (H0.out.below HI.out.1).at hlt
      simp only [Value.slice.injEq, true_and] at e
      obtain ⟨rfl, rfl⟩ := e
      have HS : Hid (rs[k]? = some c) := hs
      have HA : Hid (∀ W, Below wr.heap.size wr W → AtOl W b (o + k * 8) c) := fun W hW => hat.below hW
      obtain ⟨q0, q1, q2, q3, q4, q5, q6, q7⟩ := hat
      clear hs hz
      obtain ⟨x, hx⟩ : ∃ x, x = lnB c := ⟨_, rfl⟩
      have Q1 := lineRight_grows c
      rw [← hx] at Q1
      have HX : Hid (x = lnB c) := hx
      clear hx
      have l0 := cell_lt q0
      have f0 := cell_grown l0 q0
      have f1 := cell_grown l0 q1
      have f2 := cell_grown l0 q2
      have f3 := cell_grown l0 q3
      have f4 := cell_grown l0 q4
      have f5 := cell_grown l0 q5
      have f6 := cell_grown l0 q6
      have f7 := cell_grown l0 q7
      clear q0 q1 q2 q3 q4 q5 q6 q7 HA
      have mixed : Try.prog.follows .mixedOrders = true := by kernel_rfl
      obtain ⟨bad, hbad⟩ : ∃ bad : Bool, bad = !(x && (if k = 0 then true else ((rs[k - 1]?).map fun d => befL d c).getD true)) := ⟨_, rfl⟩
      go_upto_region 6 with fail
      go_cut [35] from 13 to 34 (fun t wx => t = .bool bad ∧ Below w.heap.size w wx)
      case first =>
        cases x with
        | false =>
          obtain rfl : bad = true := by rw [hbad]; rfl
          clear hbad
          refine wp_region_quiet_grown mixed (by kernel_rfl) ?_
          repeat (go_big_quiet_step (first | (go_at_call 18; refine Calls.grown_of (Q1 _)) | (go_at_call 19; refine Calls.grown_of (Q4 _))))
          refine wpQuiet_nil ?_
          intro _ hw'
          obtain ⟨⟨nq, osq⟩, hw''⟩ := hw'
          subst hw''
          go_wp2_with fail
          go_meet
          exact ⟨rfl, HI.out.1.trans ((Grw.below ⟨nq, osq, rfl⟩).mono HI.out.1.size)⟩
        | true =>
          rcases Nat.eq_zero_or_pos k with k0 | k0
          · obtain rfl : bad = false := by rw [hbad, if_pos k0]; rfl
            have d4 : decide (0 < (k : Int)) = false := by simp; omega
            have d4' : decide (0 < k) = false := by simp; omega
            clear hbad k0
            refine wp_region_quiet_grown mixed (by kernel_rfl) ?_
            repeat (go_big_quiet_step (first | (go_at_call 18; refine Calls.grown_of (Q1 _)) | (go_at_call 19; refine Calls.grown_of (Q4 _))))
            refine wpQuiet_nil ?_
            intro _ hw'
            obtain ⟨⟨nq, osq⟩, hw''⟩ := hw'
            subst hw''
            go_wp2_with fail
            go_meet
            exact ⟨rfl, HI.out.1.trans ((Grw.below ⟨nq, osq, rfl⟩).mono HI.out.1.size)⟩
          · obtain ⟨j, rfl⟩ : ∃ j, k = j + 1 := ⟨k - 1, by omega⟩
            have d4 : (0 : Int) < ((j + 1 : Nat) : Int) := by omega
            have d5 : (0 : Int) < (j : Int) + 1 := by omega
            have i0 : (0 : Int) ≤ (j : Int) := by omega
            have i2 : (j : Int) < (rs.length : Int) := by omega
            have i3 : IntKind.i64.wrap ((j : Int) + 1 - 1) = (j : Int) := by rw [show (j : Int) + 1 - 1 = (j : Int) by omega]; simp [IntKind.wrap, IntKind.bits, IntKind.signed]; omega
            have i4 : IntKind.i64.wrap (j : Int) = (j : Int) := by simp [IntKind.wrap, IntKind.bits, IntKind.signed]; omega
            obtain ⟨b2, o2, cap2, d, e, hs, ⟨p0, p1, p2, p3, p4, p5, p6, p7⟩, _⟩ := (H0.out.below HI.out.1).at (k := j) (by omega)
            simp only [Value.slice.injEq, Option.some.injEq, Addr.mk.injEq, true_and, and_true] at e
            obtain ⟨⟨rfl, rfl⟩, rfl⟩ := e
            have g0 := cell_grown l0 p0
            have g1 := cell_grown l0 p1
            have g2 := cell_grown l0 p2
            have g3 := cell_grown l0 p3
            have g4 := cell_grown l0 p4
            have g5 := cell_grown l0 p5
            have g6 := cell_grown l0 p6
            have g7 := cell_grown l0 p7
            clear p0 p1 p2 p3 p4 p5 p6 p7
            obtain ⟨bf, hbf⟩ : ∃ bf, bf = befL d c := ⟨_, rfl⟩
            have HBB : Hid (bad = !bf) := by show bad = !bf; rw [hbad, if_neg (by omega), show j + 1 - 1 = j by omega, hs, hbf]; rfl
            have Q4 := before_grows d c
            rw [← hbf] at Q4
            clear hs hbad hbf
            refine wp_region_quiet_grown mixed (by kernel_rfl) ?_
            repeat (go_big_quiet_step (first | (go_at_call 18; refine Calls.grown_of (Q1 _)) | (go_at_call 19; refine Calls.grown_of (Q4 _))))
            refine wpQuiet_nil ?_
            intro _ hw'
            obtain ⟨⟨nq, osq⟩, hw''⟩ := hw'
            subst hw''
            go_wp2_with fail
            go_meet
            exact ⟨by rw [HBB.out], HI.out.1.trans ((Grw.below ⟨nq, osq, rfl⟩).mono HI.out.1.size)⟩
      case rest =>
        obtain ⟨rfl, hb5⟩ := hcut
        rename World => w5
        have H5 : Hid (Below w.heap.size w w5) := hb5
        clear hb5
        have HD : Hid (bad = !(lnB c && (if k = 0 then true else ((rs[k - 1]?).map fun d => befL d c).getD true))) := by rw [HX.out] at hbad; exact hbad
        clear hbad
        cases bad with
        | true =>
          have HN : Hid (lnsB rs = false) := lnsB_no fun h => by
            have h1 := h.at_ k c HS.out
            have h2 := HD.out
            rw [lnB_yes h1.ok] at h2
            by_cases k0 : k = 0
            · rw [if_pos k0] at h2
              cases h2
            · have hk1 : k - 1 < rs.length := by omega
              have hd := List.getElem?_eq_getElem hk1
              rw [if_neg k0, hd, Option.map_some, Option.getD_some, h1.rise _ (by omega) hd] at h2
              cases h2
          go_wp2
          go_ret
          exact ⟨by rw [HN.out]; rfl, H5.out⟩
        | false =>
          have HN : Hid (OkL rs k c) := by
            have h2 := HD.out
            cases hcr : lnB c with
            | false => rw [hcr] at h2; cases h2
            | true =>
              refine ⟨lnB_iff.1 hcr, fun d k0 hd => ?_⟩
              rw [hcr, if_neg (by omega), hd, Option.map_some, Option.getD_some] at h2
              cases hbf : befL d c with
              | true => rfl
              | false => rw [hbf] at h2; cases h2
          go_wp2
          go_roundw
          case rel =>
            refine ⟨k + 1, by go_num, by omega, H5.out, fun i y hi hy => ?_⟩
            rcases Nat.lt_or_ge i k with g | g
            · exact HI.out.2 i y g hy
            · obtain rfl : i = k := by omega
              rw [HS.out] at hy
              cases hy
              exact HN.out
          case measure => simp [intOf]; omega
    · obtain rfl : k = rs.length := by omega
      have HN : Hid (lnsB rs = true) := lnsB_yes ⟨by omega, fun i c hc => HI.out.2 i c (List.getElem?_eq_some_iff.1 hc).1 hc⟩
      go_wp2
      go_ret
      exact ⟨by rw [HN.out]; rfl, HI.out.1⟩
end Go.Proofs.Ytppfobeencnbdaa
