/- Contract of the model's CloseLines. -/
import Derived.Test.YtnaidbpkllmeoaaClP
import Derived.Test.YtnaidbpkllmeoaaAppZOl
import Derived.Test.YtnaidbpkllmeoaaThS
import Derived.Test.YtnaidbpkllmeoaaLnB
namespace Go.Proofs.Ytnaidbpkllmeoaa
open Go.ChangeShapes Go.WideShapes Go.ChangeAt Go.RowKit
set_option maxRecDepth 20000 in
set_option maxHeartbeats 8000000 in
theorem closeLines_spec (v : Value) (rs : List OLn) (w : World) (h : RowOl w v rs) :
    Calls Try.prog 22 #[v] w fun e w' => ∃ u, e = .returned u ∧ RowOl w' u (closT rs) ∧ Below w.heap.size w w' := by
  obtain ⟨A, C, rfl⟩ := h.val
  have hlen := h.len
  obtain ⟨t, ht⟩ : ∃ t, t = closT rs := ⟨_, rfl⟩
  rw [← ht]
  have HT : Hid (t = closT rs) := ht
  obtain ⟨W0, hW0⟩ : ∃ W0, w.alloc (.cells #[] 26) = W0 := ⟨_, rfl⟩
  have hb0 : Below w.heap.size w W0 := by rw [← hW0]; exact (Below.refl _ _).alloc (Nat.le_refl _) _
  obtain ⟨B0, hB0⟩ : ∃ B0, B0 = w.heap.size := ⟨_, rfl⟩
  have hown : W0.ownsRow B0 26 8 (.slice (some ⟨B0, 0, none⟩) 0 0) 0 [] := by rw [← hW0, hB0]; exact own0Ol w (Nat.le_refl _)
  have HR : Hid (RowOl w (.slice A rs.length C) rs) := h
  have HB0 : Hid (B0 = w.heap.size) := hB0
  have H0 : Hid (Below B0 w W0 ∧ W0.ownsRow B0 26 8 (.slice (some ⟨B0, 0, none⟩) 0 0) 0 [] ∧ B0 ≤ W0.heap.size) := ⟨by rw [hB0]; exact hb0, hown, by rw [hB0]; exact hb0.size⟩
  have HW0 : Hid (w.alloc (.cells #[] 26) = W0) := hW0
  clear h ht hW0 hb0 hown hB0
  go_enter Try.func22, Try.ntmps22
  go_upto_region 2 with fail
  try rw [HW0.out]
  try rw [← HB0.out]
  clear HW0
  by_cases hl : 400 < rs.length
  · have hl' : (400 : Int) < (rs.length : Int) := by omega
    have HS : Hid (t = []) := by show t = []; rw [HT.out, closT, if_neg (by omega)]
    go_wp2
    go_ret
    exact ⟨_, rfl, by rw [HS.out]; exact rowNil, by rw [← HB0.out]; exact H0.out.1⟩
  have hl' : ¬ (400 : Int) < (rs.length : Int) := by omega
  go_wp2_with fail
  refine (linesRight_spec _ rs _ (HR.out.below (HB0.out ▸ H0.out.1))).mono ?_
  rintro e w1 ⟨rfl, hb1⟩
  have H1 : Hid (Below B0 w w1 ∧ w1.ownsRow B0 26 8 (.slice (some ⟨B0, 0, none⟩) 0 0) 0 []) := by
    refine ⟨H0.out.1.trans (hb1.mono H0.out.2.2), ?_⟩
    refine H0.out.2.1.kept (row := none) ⟨hb1.os, hb1.tape, hb1.output, hb1.size, fun j hj _ => hb1.block j hj⟩ ?_
    rcases H0.out.2.1.2 with ⟨e, _⟩ | ⟨g, cap, cur, e, _⟩
    · exact .inl (by rw [e]; rfl)
    · exact .inr (by rw [e]; simp [Value.ownBlock])
  clear hb1
  obtain ⟨r, hr⟩ : ∃ r, r = lnsB rs := ⟨_, rfl⟩
  rw [← hr]
  have HS : Hid (t = clF r rs) := by show t = _; rw [HT.out, closT, if_pos (by omega), hr]
  clear hr
  go_wp2_with fail
  go_loopw [3, 5] (fun lv i wr => ∃ k : Nat, i = .int .i64 (k : Int) ∧ k ≤ rs.length ∧ (∃ A C ts, ts = clF r (rs.take k) ∧ lv = .slice A ts.length C ∧ wr.ownsRow B0 26 8 lv ts.length (clOls ts)) ∧ Hid (Below B0 w wr)) (fun _ i _ => rs.length - (intOf i).toNat)
  case atStart => exact ⟨0, rfl, by omega, ⟨_, _, [], by simp [clF], rfl, by simpa [clOls] using H1.out.2⟩, H1.out.1⟩
  case round =>
    obtain ⟨k, rfl, hk, ⟨A1, C1, ts, hts, rfl, hR⟩, HW⟩ := hrel
    have HTs : Hid (ts = clF r (rs.take k)) := hts
    have htk : ts.length ≤ 1048576 := by rw [hts]; have := clF_len r (rs.take k); rw [List.length_take] at this; omega
    clear hts
    by_cases hlt : k < rs.length
    · have hlt' : (k : Int) < (rs.length : Int) := by omega
      obtain ⟨b, o, cap', c, e, hs, ⟨q0, q1, q2, q3, q4, q5, q6, q7⟩, _⟩ := (HR.out.below (HB0.out ▸ HW.out)).at hlt
      have HQ : Hid (AtOl wr b (o + k * 8) c) := ⟨q0, q1, q2, q3, q4, q5, q6, q7⟩
      simp only [Value.slice.injEq, true_and] at e
      obtain ⟨rfl, rfl⟩ := e
      obtain ⟨z, hzz⟩ : ∃ z, z = stT c := ⟨_, rfl⟩
      have HE : Hid (clF r (rs.take (k + 1)) = if (!r || !decide (z = 4 ∨ z = 5)) = true then ts ++ [c] else ts) := by
        show _ = _
        rw [clF_snoc hs, ← HTs.out, lefB, ← hzz]
        rfl
      have QS := threeOf_spec c
      rw [← hzz] at QS
      clear hzz hs
      go_wp2_with fail
      refine (QS _).mono ?_
      rintro e w2 ⟨rfl, hb2⟩
      have hB0l : B0 ≤ wr.heap.size := Nat.le_trans (Nat.le_of_eq HB0.out) HW.out.size
      have H2 : Hid (Below B0 w w2 ∧ w2.ownsRow B0 26 8 (.slice A1 ts.length C1) ts.length (clOls ts) ∧ B0 ≤ w2.heap.size ∧ AtOl w2 b (o + k * 8) c) := by
        refine ⟨HW.out.trans (hb2.mono hB0l), ?_, Nat.le_trans hB0l hb2.size, HQ.out.below hb2⟩
        refine hR.kept (row := none) ⟨hb2.os, hb2.tape, hb2.output, hb2.size, fun j hj _ => hb2.block j hj⟩ ?_
        rcases hR.2 with ⟨e, _⟩ | ⟨g, cap, cur, e, _⟩
        · exact .inl (by rw [e]; rfl)
        · exact .inr (by rw [e]; simp [Value.ownBlock])
      clear hb2 QS hR q0 q1 q2 q3 q4 q5 q6 q7 hB0l
      have hz3 : z = 4 ∨ z = 5 ∨ (¬ z = 4 ∧ ¬ z = 5) := by omega
      have hrow : (w2.alloc (.cells #[.string c.partner, .string c.ref, .int .i64 c.no, .string c.item, .int .i64 c.ordered, .int .i64 c.sent, .int .i64 c.got, .int .i64 c.cut] 26)).ownsRow B0 26 8 (.slice A1 ts.length C1) ts.length (clOls ts) := H2.out.2.1.alloc _
      have hat : AtOl (w2.alloc (.cells #[.string c.partner, .string c.ref, .int .i64 c.no, .string c.item, .int .i64 c.ordered, .int .i64 c.sent, .int .i64 c.got, .int .i64 c.cut] 26)) w2.heap.size 0 c := by
        obtain ⟨a0, a1, a2, a3, a4, a5, a6, a7⟩ := box8 (World.alloc_heap_new w2 (.cells #[.string c.partner, .string c.ref, .int .i64 c.no, .string c.item, .int .i64 c.ordered, .int .i64 c.sent, .int .i64 c.got, .int .i64 c.cut] 26))
        exact ⟨a0, a1, a2, a3, a4, a5, a6, a7⟩
      have hsz := H2.out.2.2.1
      have HL : Hid ((w2.alloc (.cells #[.string c.partner, .string c.ref, .int .i64 c.no, .string c.item, .int .i64 c.ordered, .int .i64 c.sent, .int .i64 c.got, .int .i64 c.cut] 26)).ownsRow B0 26 8 (.slice A1 ts.length C1) ts.length (clOls ts) ∧ AtOl (w2.alloc (.cells #[.string c.partner, .string c.ref, .int .i64 c.no, .string c.item, .int .i64 c.ordered, .int .i64 c.sent, .int .i64 c.got, .int .i64 c.cut] 26)) w2.heap.size 0 c) := ⟨hrow, hat⟩
      clear hrow hat
      obtain ⟨q0, q1, q2, q3, q4, q5, q6, q7⟩ := H2.out.2.2.2
      rcases hz3 with rfl | rfl | ⟨h4, h5⟩ <;> cases r
      · have HE2 : Hid (clF false (rs.take (k + 1)) = ts ++ [c]) := by show _ = _; rw [HE.out]; simp
        go_wp2_with (first | (at_builtin; refine wpList_appOl rfl _ _ rfl rfl rfl HL.out.1 HL.out.2 (by omega) (by simp; omega) ?_; rintro v4 w4 hown4 hgrow4 ⟨A4, C4, rfl⟩))
        have H4 : Hid (w4.ownsRow B0 26 8 (.slice A4 (ts ++ [c]).length C4) (ts ++ [c]).length (clOls (ts ++ [c])) ∧ Below B0 w w4) := by
          refine ⟨hown4, (H2.out.1.alloc hsz _).trans ⟨hgrow4.os, hgrow4.tape, hgrow4.output, hgrow4.size, fun q hq => hgrow4.block q (by simp; omega) (fun e => ?_)⟩⟩
          have := (HL.out.1.lt q e.symm).1
          omega
        clear hown4 hgrow4
        go_wp2
        go_roundw
        case rel => exact ⟨k + 1, by go_num, by omega, ⟨A4, C4, ts ++ [c], HE2.out.symm, by simp, by simpa using H4.out.1⟩, H4.out.2⟩
        case measure => simp [intOf]; omega
      · have HE2 : Hid (clF true (rs.take (k + 1)) = ts) := by show _ = _; rw [HE.out]; simp
        go_wp2
        go_roundw
        case rel => exact ⟨k + 1, by go_num, by omega, ⟨A1, C1, ts, HE2.out.symm, rfl, H2.out.2.1⟩, H2.out.1⟩
        case measure => simp [intOf]; omega
      · have HE2 : Hid (clF false (rs.take (k + 1)) = ts ++ [c]) := by show _ = _; rw [HE.out]; simp
        go_wp2_with (first | (at_builtin; refine wpList_appOl rfl _ _ rfl rfl rfl HL.out.1 HL.out.2 (by omega) (by simp; omega) ?_; rintro v4 w4 hown4 hgrow4 ⟨A4, C4, rfl⟩))
        have H4 : Hid (w4.ownsRow B0 26 8 (.slice A4 (ts ++ [c]).length C4) (ts ++ [c]).length (clOls (ts ++ [c])) ∧ Below B0 w w4) := by
          refine ⟨hown4, (H2.out.1.alloc hsz _).trans ⟨hgrow4.os, hgrow4.tape, hgrow4.output, hgrow4.size, fun q hq => hgrow4.block q (by simp; omega) (fun e => ?_)⟩⟩
          have := (HL.out.1.lt q e.symm).1
          omega
        clear hown4 hgrow4
        go_wp2
        go_roundw
        case rel => exact ⟨k + 1, by go_num, by omega, ⟨A4, C4, ts ++ [c], HE2.out.symm, by simp, by simpa using H4.out.1⟩, H4.out.2⟩
        case measure => simp [intOf]; omega
      · have HE2 : Hid (clF true (rs.take (k + 1)) = ts) := by show _ = _; rw [HE.out]; simp
        go_wp2
        go_roundw
        case rel => exact ⟨k + 1, by go_num, by omega, ⟨A1, C1, ts, HE2.out.symm, rfl, H2.out.2.1⟩, H2.out.1⟩
        case measure => simp [intOf]; omega
      · have HE2 : Hid (clF false (rs.take (k + 1)) = ts ++ [c]) := by show _ = _; rw [HE.out]; simp
        go_wp2_with (first | (at_builtin; refine wpList_appOl rfl _ _ rfl rfl rfl HL.out.1 HL.out.2 (by omega) (by simp; omega) ?_; rintro v4 w4 hown4 hgrow4 ⟨A4, C4, rfl⟩))
        have H4 : Hid (w4.ownsRow B0 26 8 (.slice A4 (ts ++ [c]).length C4) (ts ++ [c]).length (clOls (ts ++ [c])) ∧ Below B0 w w4) := by
          refine ⟨hown4, (H2.out.1.alloc hsz _).trans ⟨hgrow4.os, hgrow4.tape, hgrow4.output, hgrow4.size, fun q hq => hgrow4.block q (by simp; omega) (fun e => ?_)⟩⟩
          have := (HL.out.1.lt q e.symm).1
          omega
        clear hown4 hgrow4
        go_wp2
        go_roundw
        case rel => exact ⟨k + 1, by go_num, by omega, ⟨A4, C4, ts ++ [c], HE2.out.symm, by simp, by simpa using H4.out.1⟩, H4.out.2⟩
        case measure => simp [intOf]; omega
      · have g4 : (z != 4) = true := bne_iff_ne.2 h4
        have g5 : (z != 5) = true := bne_iff_ne.2 h5
        have HE2 : Hid (clF true (rs.take (k + 1)) = ts ++ [c]) := by show _ = _; rw [HE.out]; simp [h4, h5]
        go_wp2_with (first | (at_builtin; refine wpList_appOl rfl _ _ rfl rfl rfl HL.out.1 HL.out.2 (by omega) (by simp; omega) ?_; rintro v4 w4 hown4 hgrow4 ⟨A4, C4, rfl⟩))
        have H4 : Hid (w4.ownsRow B0 26 8 (.slice A4 (ts ++ [c]).length C4) (ts ++ [c]).length (clOls (ts ++ [c])) ∧ Below B0 w w4) := by
          refine ⟨hown4, (H2.out.1.alloc hsz _).trans ⟨hgrow4.os, hgrow4.tape, hgrow4.output, hgrow4.size, fun q hq => hgrow4.block q (by simp; omega) (fun e => ?_)⟩⟩
          have := (HL.out.1.lt q e.symm).1
          omega
        clear hown4 hgrow4
        go_wp2
        go_roundw
        case rel => exact ⟨k + 1, by go_num, by omega, ⟨A4, C4, ts ++ [c], HE2.out.symm, by simp, by simpa using H4.out.1⟩, H4.out.2⟩
        case measure => simp [intOf]; omega
    · obtain rfl : k = rs.length := by omega
      have HF : Hid (wr.ownsRow B0 26 8 (.slice A1 ts.length C1) ts.length (clOls ts) ∧ ts = t) := by
        refine ⟨hR, ?_⟩
        rw [HTs.out, List.take_length, HS.out]
      clear hR
      go_wp2
      go_ret
      obtain ⟨b, hb1, hL⟩ := LOl.of_owns HF.out.1 (by omega) (fun i g hi => by
        have hm := List.mem_of_getElem? hi
        rw [HF.out.2, HS.out] at hm
        obtain ⟨j, hj⟩ := List.mem_iff_getElem?.1 (clF_mem hm)
        exact HR.out.sizes j g hj)
      exact ⟨_, rfl, by rw [← HF.out.2]; exact hL.row, by rw [← HB0.out]; exact HW.out⟩
end Go.Proofs.Ytnaidbpkllmeoaa
