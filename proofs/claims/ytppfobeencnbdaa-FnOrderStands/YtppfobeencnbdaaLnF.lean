/- Contract of slices.BinarySearchFunc over order lines by their order. -/
import Derived.Test.YtppfobeencnbdaaLnFp
import Derived.Test.YtppfobeencnbdaaLnR
import Derived.Test.YtppfobeencnbdaaLnS0
import Derived.Deep.Cut
import Derived.Deep.CutRange
import Derived.Deep.QuietTactic
import Derived.BigQuiet
import Derived.BigRegion
import Derived.Shelf.SlSortCmp.QuietGrown
import Derived.Deep.LoopGhost
namespace Go.Proofs.Ytppfobeencnbdaa
open Go.ChangeShapes Go.WideShapes Go.ChangeAt Go.RowKit
open Go.Sort
set_option maxHeartbeats 8000000 in
set_option maxRecDepth 100000 in
theorem search_any (v : Value) (rs : List OLn) (t : OLn) (w : World) (h : RowOl w v rs) (hl : rs.length ≤ 1000) (hs : rs.Pairwise fun a b => befL a b = true) :
    Calls Try.prog 59 #[v, .agg #[.string t.partner, .string t.ref, .int .i64 t.no, .string t.item, .int .i64 t.ordered, .int .i64 t.sent, .int .i64 t.got, .int .i64 t.cut], .func (.func 27) #[] #[]] w fun e w' => e = .returned (.tuple #[.int .i64 (plcL rs t : Nat), .bool ((rs[plcL rs t]?).any fun x => decide (lcmp x t = 0))]) ∧ Below w.heap.size w w' := by
  obtain ⟨A, Cp, rfl⟩ := h.val
  obtain ⟨W0, hW0⟩ : ∃ W0, w.alloc (.cells #[.string t.partner, .string t.ref, .int .i64 t.no, .string t.item, .int .i64 t.ordered, .int .i64 t.sent, .int .i64 t.got, .int .i64 t.cut] 31) = W0 := ⟨_, rfl⟩
  have hb0 : Below w.heap.size w W0 := by rw [← hW0]; exact (Below.refl _ _).alloc (Nat.le_refl _) _
  have hx0 : W0.heap[w.heap.size]? = some (.cells #[.string t.partner, .string t.ref, .int .i64 t.no, .string t.item, .int .i64 t.ordered, .int .i64 t.sent, .int .i64 t.got, .int .i64 t.cut] 31) := by rw [← hW0]; exact World.alloc_heap_new _ _
  obtain ⟨B, hB⟩ : ∃ B, B = w.heap.size := ⟨_, rfl⟩
  rw [← hB] at hx0
  have H0 : Hid (Below w.heap.size w W0 ∧ W0.heap[B]? = some (.cells #[.string t.partner, .string t.ref, .int .i64 t.no, .string t.item, .int .i64 t.ordered, .int .i64 t.sent, .int .i64 t.got, .int .i64 t.cut] 31) ∧ RowOl W0 (.slice A rs.length Cp) rs) := ⟨hb0, hx0, h.below hb0⟩
  have HW : Hid (w.alloc (.cells #[.string t.partner, .string t.ref, .int .i64 t.no, .string t.item, .int .i64 t.ordered, .int .i64 t.sent, .int .i64 t.got, .int .i64 t.cut] 31) = W0 ∧ B = w.heap.size) := ⟨hW0, hB⟩
  have HS : Hid (rs.Pairwise fun a b => befL a b = true) := hs
  have mixed : Try.prog.follows .mixedOrders = true := by kernel_rfl
  clear h hW0 hB hb0 hx0 hs
  go_enter Try.func59, Try.ntmps59
  go_upto_region 1 with fail
  try rw [HW.out.1]
  try rw [← HW.out.2]
  go_wp2_with fail
  go_loopw [9, 10] (fun s9 s10 wr => ∃ lo hi : Nat, s9 = .int .i64 (lo : Int) ∧ s10 = .int .i64 (hi : Int) ∧ lo ≤ hi ∧ hi ≤ rs.length ∧ Below W0.heap.size W0 wr ∧ (∀ i x, i < lo → rs[i]? = some x → lcmp x t < 0) ∧ (∀ i x, hi ≤ i → rs[i]? = some x → 0 ≤ lcmp x t)) (fun s9 s10 _ => (RowKit.intOf s10).toNat - (RowKit.intOf s9).toNat)
  case atStart => exact ⟨0, rs.length, rfl, rfl, by omega, by omega, Below.refl _ _, fun i x hi => by omega, fun i x hi hx => by have := (List.getElem?_eq_some_iff.1 hx).1; omega⟩
  case round =>
    obtain ⟨lo, hi, rfl, rfl, hlh, hin, hb, h1, h2⟩ := hrel
    have HI : Hid (Below W0.heap.size W0 wr ∧ (∀ i x, i < lo → rs[i]? = some x → lcmp x t < 0) ∧ (∀ i x, hi ≤ i → rs[i]? = some x → 0 ≤ lcmp x t) ∧ wr.heap[B]? = some (.cells #[.string t.partner, .string t.ref, .int .i64 t.no, .string t.item, .int .i64 t.ordered, .int .i64 t.sent, .int .i64 t.got, .int .i64 t.cut] 31) ∧ RowOl wr (.slice A rs.length Cp) rs) := ⟨hb, h1, h2, (hb.block _ (Array.getElem?_eq_some_iff.1 H0.out.2.1).1).trans H0.out.2.1, H0.out.2.2.below hb⟩
    clear hb h1 h2
    have lB := (Array.getElem?_eq_some_iff.1 HI.out.2.2.2.1).1
    obtain ⟨t0, t1, t2, t3, t4, t5, t6, t7⟩ := box8 HI.out.2.2.2.1
    have d0 := cell_grown lB t0
    have d1 := cell_grown lB t1
    have d2 := cell_grown lB t2
    have d3 := cell_grown lB t3
    have d4 := cell_grown lB t4
    have d5 := cell_grown lB t5
    have d6 := cell_grown lB t6
    have d7 := cell_grown lB t7
    clear t0 t1 t2 t3 t4 t5 t6 t7
    by_cases hlt : lo < hi
    · have hlt' : (lo : Int) < (hi : Int) := by omega
      obtain ⟨m, hm⟩ : ∃ m, m = (lo + hi) / 2 := ⟨_, rfl⟩
      obtain ⟨b, o, cap', x, e, hs, ⟨q0, q1, q2, q3, q4, q5, q6, q7⟩, _⟩ := HI.out.2.2.2.2.at (k := m) (by omega)
      simp only [Value.slice.injEq, true_and] at e
      obtain ⟨rfl, rfl⟩ := e
      have l0 := cell_lt q0
      have f0 := cell_grown l0 q0
      have f1 := cell_grown l0 q1
      have f2 := cell_grown l0 q2
      have f3 := cell_grown l0 q3
      have f4 := cell_grown l0 q4
      have f5 := cell_grown l0 q5
      have f6 := cell_grown l0 q6
      have f7 := cell_grown l0 q7
      clear q0 q1 q2 q3 q4 q5 q6 q7
      have Q := lcmp_grw x t
      obtain ⟨z, hz⟩ : ∃ z, z = lcmp x t := ⟨_, rfl⟩
      rw [← hz] at Q
      have HX : Hid (rs[m]? = some x ∧ z = lcmp x t) := ⟨hs, hz⟩
      have hm1 : lo ≤ m := by omega
      have hm2 : m < hi := by omega
      have hmI : ((lo : Int) + (hi : Int)) / 2 = (m : Int) := by omega
      have HM : Hid (((lo : Int) + (hi : Int)) / 2 = (m : Int)) := hmI
      have hm3 : (m : Int) < (rs.length : Int) := by omega
      clear hs hz hmI hm
      go_upto_region 5 with fail
      rw [HM.out]
      by_cases hzn : z < 0
      · have dz : decide (z < 0) = true := decide_eq_true hzn
        refine wp_region_quiet_grown mixed (by kernel_rfl) ?_
        repeat (go_big_quiet_step (first | (go_at_call 27; refine Calls.grown_of (Q _))))
        refine wpQuiet_nil ?_
        intro _ hw'
        obtain ⟨⟨nq, osq⟩, hw''⟩ := hw'
        subst hw''
        go_wp2
        go_roundw
        case rel =>
          refine ⟨m + 1, hi, by go_num, rfl, by omega, by omega, HI.out.1.trans ((Grw.below ⟨nq, osq, rfl⟩).mono HI.out.1.size), fun i y hi2 hy => ?_, HI.out.2.2.1⟩
          exact sorted_mono HS.out (show i ≤ m by omega) hy HX.out.1 (by rw [← HX.out.2]; exact hzn)
        case measure => simp [intOf]; omega
      · have dz : decide (z < 0) = false := decide_eq_false hzn
        refine wp_region_quiet_grown mixed (by kernel_rfl) ?_
        repeat (go_big_quiet_step (first | (go_at_call 27; refine Calls.grown_of (Q _))))
        refine wpQuiet_nil ?_
        intro _ hw'
        obtain ⟨⟨nq, osq⟩, hw''⟩ := hw'
        subst hw''
        go_wp2
        go_roundw
        case rel =>
          refine ⟨lo, m, rfl, by go_num, by omega, by omega, HI.out.1.trans ((Grw.below ⟨nq, osq, rfl⟩).mono HI.out.1.size), HI.out.2.1, fun i y hi2 hy => ?_⟩
          refine Int.not_lt.1 fun hneg => hzn ?_
          rw [HX.out.2]
          exact sorted_mono HS.out hi2 HX.out.1 hy hneg
        case measure => simp [intOf]; omega
    · obtain rfl : lo = hi := by omega
      have HP : Hid (plcL rs t = lo) := cnt_at _ rs lo (by omega) (fun j x hj hx => (lcmp_neg x t).1 (HI.out.2.1 j x hj hx)) (fun j x hj hx => by
        have h3 := HI.out.2.2.1 j x hj hx
        cases hb : befL x t with
        | false => rfl
        | true => have := (lcmp_neg x t).2 hb; omega)
      have HF : Hid (Below w.heap.size w W0 ∧ Below W0.heap.size W0 wr) := ⟨H0.out.1, HI.out.1⟩
      by_cases hle : lo < rs.length
      · have hle' : (lo : Int) < (rs.length : Int) := by omega
        obtain ⟨b, o, cap', x, e, hs, ⟨q0, q1, q2, q3, q4, q5, q6, q7⟩, _⟩ := HI.out.2.2.2.2.at (k := lo) (by omega)
        simp only [Value.slice.injEq, true_and] at e
        obtain ⟨rfl, rfl⟩ := e
        have l0 := cell_lt q0
        have f0 := cell_grown l0 q0
        have f1 := cell_grown l0 q1
        have f2 := cell_grown l0 q2
        have f3 := cell_grown l0 q3
        have f4 := cell_grown l0 q4
        have f5 := cell_grown l0 q5
        have f6 := cell_grown l0 q6
        have f7 := cell_grown l0 q7
        clear q0 q1 q2 q3 q4 q5 q6 q7
        have Q := lcmp_grw x t
        obtain ⟨z, hz⟩ : ∃ z, z = lcmp x t := ⟨_, rfl⟩
        rw [← hz] at Q
        have HX : Hid (rs[lo]? = some x ∧ z = lcmp x t) := ⟨hs, hz⟩
        clear hs hz
        go_upto_region 8 with fail
        by_cases hz0 : z = 0
        · subst hz0
          refine wp_region_quiet_grown mixed (by kernel_rfl) ?_
          repeat (go_big_quiet_step (first | (go_at_call 27; refine Calls.grown_of (Q _))))
          refine wpQuiet_nil ?_
          intro _ hw'
          obtain ⟨⟨nq, osq⟩, hw''⟩ := hw'
          subst hw''
          go_wp2
          have hpp := HP.out
          refine bodyPost_ret (v := .tuple #[.int .i64 (lo : Int), .bool true]) (by simp [results, Try.results59, go_sem]) rfl ⟨?_, HF.out.1.trans ((HF.out.2.trans ((Grw.below ⟨nq, osq, rfl⟩).mono HF.out.2.size)).mono HF.out.1.size)⟩
          rw [hpp, HX.out.1, Option.any_some, ← HX.out.2]
          rfl
        · have hz1 : (z == 0) = false := by simpa using hz0
          refine wp_region_quiet_grown mixed (by kernel_rfl) ?_
          repeat (go_big_quiet_step (first | (go_at_call 27; refine Calls.grown_of (Q _))))
          refine wpQuiet_nil ?_
          intro _ hw'
          obtain ⟨⟨nq, osq⟩, hw''⟩ := hw'
          subst hw''
          go_wp2
          have hpp := HP.out
          refine bodyPost_ret (v := .tuple #[.int .i64 (lo : Int), .bool false]) (by simp [results, Try.results59, go_sem]) rfl ⟨?_, HF.out.1.trans ((HF.out.2.trans ((Grw.below ⟨nq, osq, rfl⟩).mono HF.out.2.size)).mono HF.out.1.size)⟩
          rw [hpp, HX.out.1, Option.any_some, ← HX.out.2, decide_eq_false hz0]
      · obtain rfl : lo = rs.length := by omega
        have dl : decide ((rs.length : Int) < (rs.length : Int)) = false := by simp
        go_upto_region 8 with fail
        refine wp_region_quiet_grown mixed (by kernel_rfl) ?_
        repeat (go_big_quiet_step (fail))
        refine wpQuiet_nil ?_
        intro _ hw'
        obtain ⟨⟨nq, osq⟩, hw''⟩ := hw'
        subst hw''
        go_wp2
        have hpp := HP.out
        refine bodyPost_ret (v := .tuple #[.int .i64 (rs.length : Int), .bool false]) (by simp [results, Try.results59, go_sem]) rfl ⟨?_, HF.out.1.trans ((HF.out.2.trans ((Grw.below ⟨nq, osq, rfl⟩).mono HF.out.2.size)).mono HF.out.1.size)⟩
        rw [hpp, List.getElem?_eq_none (Nat.le_refl _)]
        rfl
end Go.Proofs.Ytppfobeencnbdaa
