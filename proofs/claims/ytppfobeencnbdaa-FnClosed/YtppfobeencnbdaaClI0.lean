/- Contract of the program's CloseLines. -/
import Derived.Test.YtppfobeencnbdaaClP
import Derived.Test.YtppfobeencnbdaaInsD
import Derived.Test.YtppfobeencnbdaaThL
import Derived.Test.YtppfobeencnbdaaLnR
namespace Go.Proofs.Ytppfobeencnbdaa
open Go.ChangeShapes Go.WideShapes Go.ChangeAt Go.RowKit
set_option maxRecDepth 20000 in
set_option maxHeartbeats 8000000 in
theorem closeLines_impl (v : Value) (rs : List OLn) (w : World) (h : RowOl w v rs) (hz : ∀ c ∈ rs, c.partner.size ≤ 1048576 ∧ c.ref.size ≤ 1048576 ∧ c.item.size ≤ 1048576) :
    Calls Try.prog 11 #[v] w fun e w' => ∃ u b, e = .returned u ∧ w.heap.size ≤ b ∧ LOl b w' u (closT rs) ∧ Below w.heap.size w w' := by
  obtain ⟨A, C, rfl⟩ := h.val
  have hlen := h.len
  obtain ⟨t, ht⟩ : ∃ t, t = closT rs := ⟨_, rfl⟩
  rw [← ht]
  have HT : Hid (t = closT rs) := ht
  have HR : Hid (RowOl w (.slice A rs.length C) rs ∧ ∀ c ∈ rs, c.partner.size ≤ 1048576 ∧ c.ref.size ≤ 1048576 ∧ c.item.size ≤ 1048576) := ⟨h, hz⟩
  clear h hz ht
  go_enter Try.func11, Try.ntmps11
  by_cases hl : 400 < rs.length
  · have hl' : (400 : Int) < (rs.length : Int) := by omega
    have HS : Hid (t = []) := by show t = []; rw [HT.out, closT, if_neg (by omega)]
    go_wp2
    go_ret
    exact ⟨_, w.heap.size, rfl, Nat.le_refl _, by rw [HS.out]; exact LOl.nil _ _, Below.refl _ _⟩
  have hl' : ¬ (400 : Int) < (rs.length : Int) := by omega
  go_wp2_with fail
  refine (linesRight_impl _ rs _ HR.out.1).mono ?_
  rintro e w1 ⟨rfl, hb1⟩
  have H1 : Hid (Below w.heap.size w w1) := hb1
  clear hb1
  cases hx : lnsB rs with
  | false =>
    have HS : Hid (t = rs) := by show t = rs; rw [HT.out, closT, if_pos (by omega), hx, clF_false]
    clear hx
    go_wp2_with fail
    refine (copyOls_any _ rs _ (HR.out.1.below H1.out) (by omega) HR.out.2).mono ?_
    rintro e w2 ⟨u, b, rfl, hb, hL, hb2⟩
    have H2 : Hid (w.heap.size ≤ b ∧ LOl b w2 u rs ∧ Below w.heap.size w w2) := ⟨Nat.le_trans H1.out.size hb, hL, H1.out.trans (hb2.mono H1.out.size)⟩
    clear hb hL hb2
    go_wp2
    go_ret
    exact ⟨_, b, rfl, H2.out.1, by rw [HS.out]; exact H2.out.2.1, H2.out.2.2⟩
  | true =>
    have HS : Hid (t = clF true rs) := by show t = _; rw [HT.out, closT, if_pos (by omega), hx]
    clear hx
    obtain ⟨B0, hB0⟩ : ∃ B0, B0 = w.heap.size := ⟨_, rfl⟩
    have HB0 : Hid (B0 = w.heap.size) := hB0
    clear hB0
    go_wp2_with fail
    go_loopw [3, 16] (fun lv i wr => ∃ k : Nat, i = .int .i64 (k : Int) ∧ k ≤ rs.length ∧ (∃ A C ts, ts = clF true (rs.take k) ∧ lv = .slice A ts.length C ∧ wr.ownsRow B0 31 8 lv ts.length (clOls ts)) ∧ Hid (Below B0 w wr)) (fun _ i _ => rs.length - (intOf i).toNat)
    case atStart => exact ⟨0, rfl, by omega, ⟨none, 0, [], by simp [clF], rfl, by simpa [clOls] using World.ownsRow_nil w1 B0 31 8⟩, by rw [HB0.out]; exact H1.out⟩
    case round =>
      obtain ⟨k, rfl, hk, ⟨A1, C1, ts, hts, rfl, hR⟩, HW⟩ := hrel
      have HTs : Hid (ts = clF true (rs.take k)) := hts
      have htk : ts.length ≤ 1048576 := by rw [hts]; have := clF_len true (rs.take k); rw [List.length_take] at this; omega
      clear hts
      by_cases hlt : k < rs.length
      · have hlt' : (k : Int) < (rs.length : Int) := by omega
        obtain ⟨b, o, cap', c, e, hs, ⟨q0, q1, q2, q3, q4, q5, q6, q7⟩, _⟩ := (HR.out.1.below (HB0.out ▸ HW.out)).at hlt
        simp only [Value.slice.injEq, true_and] at e
        obtain ⟨rfl, rfl⟩ := e
        have hz := HR.out.2 c (List.mem_of_getElem? hs)
        obtain ⟨z, hzz⟩ : ∃ z, z = stT c := ⟨_, rfl⟩
        have HE : Hid (clF true (rs.take (k + 1)) = if clZ z = false then ts ++ [c] else ts) := by
          show _ = _
          rw [clF_snoc hs, ← HTs.out, lefB, ← hzz]
          cases clZ z <;> rfl
        have QS := standOf_any c
        rw [← hzz] at QS
        have QC := isClosed_any z
        obtain ⟨y, hy⟩ : ∃ y, y = clZ z := ⟨_, rfl⟩
        rw [← hy] at QC HE
        clear hzz hy hs
        obtain ⟨W1, hW1⟩ : ∃ W1, wr.alloc (.cells #[.string c.partner, .string c.ref, .int .i64 c.no, .string c.item, .int .i64 c.ordered, .int .i64 c.sent, .int .i64 c.got, .int .i64 c.cut] 31) = W1 := ⟨_, rfl⟩
        have ha : Below B0 w W1 := by rw [← hW1]; exact HW.out.alloc (Nat.le_trans (Nat.le_of_eq HB0.out) HW.out.size) _
        have hbx : W1.heap[wr.heap.size]? = some (.cells #[.string c.partner, .string c.ref, .int .i64 c.no, .string c.item, .int .i64 c.ordered, .int .i64 c.sent, .int .i64 c.got, .int .i64 c.cut] 31) := by rw [← hW1]; exact World.alloc_heap_new _ _
        have hR1 : W1.ownsRow B0 31 8 (.slice A1 ts.length C1) ts.length (clOls ts) := by rw [← hW1]; exact hR.alloc _
        obtain ⟨B, hB⟩ : ∃ B, B = wr.heap.size := ⟨_, rfl⟩
        rw [← hB] at hbx
        have HG : Hid (Below B0 w W1 ∧ W1.heap[B]? = some (.cells #[.string c.partner, .string c.ref, .int .i64 c.no, .string c.item, .int .i64 c.ordered, .int .i64 c.sent, .int .i64 c.got, .int .i64 c.cut] 31) ∧ W1.ownsRow B0 31 8 (.slice A1 ts.length C1) ts.length (clOls ts) ∧ B0 ≤ W1.heap.size) := ⟨ha, hbx, hR1, Nat.le_trans (Nat.le_of_eq HB0.out) ha.size⟩
        have HK : Hid (∀ W, Below W1.heap.size W1 W → (W.cell? ⟨B, 0, none⟩ = some (.string c.partner) ∧ W.cell? ⟨B, 1, none⟩ = some (.string c.ref) ∧ W.cell? ⟨B, 2, none⟩ = some (.int .i64 c.no) ∧ W.cell? ⟨B, 3, none⟩ = some (.string c.item) ∧ W.cell? ⟨B, 4, none⟩ = some (.int .i64 c.ordered) ∧ W.cell? ⟨B, 5, none⟩ = some (.int .i64 c.sent) ∧ W.cell? ⟨B, 6, none⟩ = some (.int .i64 c.got) ∧ W.cell? ⟨B, 7, none⟩ = some (.int .i64 c.cut)) ∧ W.ownsRow B0 31 8 (.slice A1 ts.length C1) ts.length (clOls ts) ∧ Below B0 w W ∧ B0 ≤ W.heap.size) := fun W hW => by
          refine ⟨box8 ((hW.block B (Array.getElem?_eq_some_iff.1 hbx).1).trans hbx), ?_, ha.trans (hW.mono HG.out.2.2.2), Nat.le_trans HG.out.2.2.2 hW.size⟩
          refine hR1.kept (row := none) ⟨hW.os, hW.tape, hW.output, hW.size, fun j hj _ => hW.block j hj⟩ ?_
          rcases hR1.2 with ⟨e, _⟩ | ⟨g, cap, cur, e, _⟩
          · exact .inl (by rw [e]; rfl)
          · exact .inr (by rw [e]; simp [Value.ownBlock])
        have HW1 : Hid (wr.alloc (.cells #[.string c.partner, .string c.ref, .int .i64 c.no, .string c.item, .int .i64 c.ordered, .int .i64 c.sent, .int .i64 c.got, .int .i64 c.cut] 31) = W1 ∧ B = wr.heap.size) := ⟨hW1, hB⟩
        clear hW1 ha hbx hR1 hR hB
        go_upto_region 9 with fail
        try rw [HW1.out.1]
        try rw [← HW1.out.2]
        clear HW1 q0 q1 q2 q3 q4 q5 q6 q7
        obtain ⟨⟨c0, c1, c2, c3, c4, c5, c6, c7⟩, _⟩ := HK.out W1 (Below.refl _ _)
        go_wp2_with fail
        refine (QS _).mono ?_
        rintro e w2 ⟨⟨f, rfl⟩, hb2⟩
        have H2 : Hid (Below W1.heap.size W1 w2) := hb2
        have fx := fldTh1 f z (wdT z)
        clear hb2 QS c0 c1 c2 c3 c4 c5 c6 c7
        go_wp2_with fail
        refine (QC _).mono ?_
        rintro e w2' ⟨rfl, rfl⟩
        clear fx QC
        cases y with
        | true =>
          have HE2 : Hid (clF true (rs.take (k + 1)) = ts) := by show _ = _; rw [HE.out]; rfl
          go_wp2
          go_roundw
          case rel => exact ⟨k + 1, by go_num, by omega, ⟨A1, C1, ts, HE2.out.symm, rfl, (HK.out _ H2.out).2.1⟩, (HK.out _ H2.out).2.2.1⟩
          case measure => simp [intOf]; omega
        | false =>
          have HE2 : Hid (clF true (rs.take (k + 1)) = ts ++ [c]) := by show _ = _; rw [HE.out]; rfl
          obtain ⟨⟨c0, c1, c2, c3, c4, c5, c6, c7⟩, _⟩ := HK.out _ H2.out
          go_wp2_with fail
          refine (copyOl_any c _ (by omega)).mono ?_
          rintro e w3 ⟨rfl, hb3⟩
          have H3 : Hid (Below W1.heap.size W1 w3) := H2.out.trans (hb3.mono H2.out.size)
          clear hb3 c0 c1 c2 c3 c4 c5 c6 c7
          have hrow : (w3.alloc (.cells #[.string c.partner, .string c.ref, .int .i64 c.no, .string c.item, .int .i64 c.ordered, .int .i64 c.sent, .int .i64 c.got, .int .i64 c.cut] 31)).ownsRow B0 31 8 (.slice A1 ts.length C1) ts.length (clOls ts) := (HK.out _ H3.out).2.1.alloc _
          have hat : AtOl (w3.alloc (.cells #[.string c.partner, .string c.ref, .int .i64 c.no, .string c.item, .int .i64 c.ordered, .int .i64 c.sent, .int .i64 c.got, .int .i64 c.cut] 31)) w3.heap.size 0 c := by
            obtain ⟨a0, a1, a2, a3, a4, a5, a6, a7⟩ := box8 (World.alloc_heap_new w3 (.cells #[.string c.partner, .string c.ref, .int .i64 c.no, .string c.item, .int .i64 c.ordered, .int .i64 c.sent, .int .i64 c.got, .int .i64 c.cut] 31))
            exact ⟨a0, a1, a2, a3, a4, a5, a6, a7⟩
          have hsz := (HK.out _ H3.out).2.2.2
          go_wp2_with (first | (at_builtin; refine wpList_appOl rfl _ _ rfl rfl rfl hrow hat (by omega) (by simp; omega) ?_; rintro v4 w4 hown4 hgrow4 ⟨A4, C4, rfl⟩))
          have H4 : Hid (w4.ownsRow B0 31 8 (.slice A4 (ts ++ [c]).length C4) (ts ++ [c]).length (clOls (ts ++ [c])) ∧ Below B0 w w4) := by
            refine ⟨hown4, ((HK.out _ H3.out).2.2.1.alloc hsz _).trans ⟨hgrow4.os, hgrow4.tape, hgrow4.output, hgrow4.size, fun q hq => hgrow4.block q (by simp; omega) (fun e => ?_)⟩⟩
            have := (hrow.lt q e.symm).1
            omega
          clear hown4 hgrow4
          go_wp2
          go_roundw
          case rel => exact ⟨k + 1, by go_num, by omega, ⟨A4, C4, ts ++ [c], HE2.out.symm, by simp, by simpa using H4.out.1⟩, H4.out.2⟩
          case measure => simp [intOf]; omega
      · obtain rfl : k = rs.length := by omega
        have HF : Hid (wr.ownsRow B0 31 8 (.slice A1 ts.length C1) ts.length (clOls ts) ∧ ts = t) := by
          refine ⟨hR, ?_⟩
          rw [HTs.out, List.take_length, HS.out]
        clear hR
        go_wp2
        go_ret
        obtain ⟨b, hb1, hL⟩ := LOl.of_owns HF.out.1 (by omega) (fun i g hi => by
          have hm := List.mem_of_getElem? hi
          rw [HF.out.2, HS.out] at hm
          have := HR.out.2 g (clF_mem hm)
          omega)
        exact ⟨_, b, rfl, by rw [← HB0.out]; exact hb1, by rw [← HF.out.2]; exact hL, by rw [← HB0.out]; exact HW.out⟩
end Go.Proofs.Ytppfobeencnbdaa
