/- Texts of ours put together: BoS. -/
import Derived.Test.YtjmkdpnoihpfoaaGreatDoorG39
import Derived.Test.YtjmkdpnoihpfoaaGreatDoorG44
import Derived.Test.YtjmkdpnoihpfoaaGreatDoorG49
namespace Go.Proofs.YtjmkdpnoihpfoaaGreatDoor
open Go.ChangeShapes Go.WideShapes Go.ChangeAt Go.RowKit
theorem sumT_no {f : OLn → Int} {p : Bk} {q i : ByteArray} (h : bkB p = false) : sumT f p q i = 0 := by simp [sumT, h]
theorem sumT_yes {f : OLn → Int} {p : Bk} {q i : ByteArray} (h : bkB p = true) : sumT f p q i = sumL f (p.lines.filter (ofB q i)) := by simp [sumT, h]
theorem sumT_none {f : OLn → Int} {p : Bk} {q i : ByteArray} (h : ∀ l ∈ p.lines, bkB p = true → ofB q i l = false) : sumT f p q i = 0 := by
  cases hb : bkB p with
  | false => exact sumT_no hb
  | true =>
    rw [sumT_yes hb]
    have : p.lines.filter (ofB q i) = [] := List.filter_eq_nil_iff.2 fun l hl => by rw [h l hl hb]; simp
    rw [this]
    rfl
theorem sumT_long1 {f : OLn → Int} {p : Bk} {q i : ByteArray} (h : 20000 < q.size) : sumT f p q i = 0 := sumT_none fun l hl hb => by
  have h1 := (nameB_sizes ((bkB_iff.1 hb).2.ok l hl).p).2
  have e : (l.partner.toList == q.toList) = false := by
    cases e : l.partner.toList == q.toList with
    | false => rfl
    | true =>
      rw [beq_iff_eq] at e
      have := ba_list e
      rw [this] at h1
      omega
  have e2 : q.toList.isEmpty = false := by
    cases hq : q.toList with
    | nil =>
      have : q.data.toList.length = 0 := by rw [← ByteArray.toList_eq, hq]; rfl
      have e : q.size = q.data.toList.length := by simp
      omega
    | cons => rfl
  simp [ofB, e, e2]
theorem sumT_long2 {f : OLn → Int} {p : Bk} {q i : ByteArray} (h : 20000 < i.size) : sumT f p q i = 0 := sumT_none fun l hl hb => by
  have h1 := (nameB_sizes ((bkB_iff.1 hb).2.ok l hl).i).2
  have e : (l.item.toList == i.toList) = false := by
    cases e : l.item.toList == i.toList with
    | false => rfl
    | true =>
      rw [beq_iff_eq] at e
      have := ba_list e
      rw [this] at h1
      omega
  simp [ofB, e]
set_option maxHeartbeats 8000000 in
theorem bookOrdered_spec (p : Bk) (us ul : Value) (q i : ByteArray) (w : World) (h : RBk w us ul p) (hq : q.size ≤ 1048576) (hi : i.size ≤ 1048576) : Calls Tryz.prog 15 #[.agg #[us, ul], .string q, .string i] w fun e w' => e = .returned (.int .i64 (sumT opnT p q i)) ∧ Below w.heap.size w w' := by
  have hlen := h.ln.len
  obtain ⟨a, c, a', c', rfl, rfl⟩ := h.val
  obtain ⟨W0, hW0⟩ : ∃ W0, w.alloc (.cells #[.slice a p.stocks.length c, .slice a' p.lines.length c'] 31) = W0 := ⟨_, rfl⟩
  have hb0 : Below w.heap.size w W0 := by rw [← hW0]; exact (Below.refl _ _).alloc (Nat.le_refl _) _
  have hbx : W0.heap[w.heap.size]? = some (.cells #[.slice a p.stocks.length c, .slice a' p.lines.length c'] 31) := by rw [← hW0]; exact World.alloc_heap_new _ _
  have H0 : Hid (Below w.heap.size w W0 ∧ RBk W0 (.slice a p.stocks.length c) (.slice a' p.lines.length c') p ∧ W0.heap[w.heap.size]? = some (.cells #[.slice a p.stocks.length c, .slice a' p.lines.length c'] 31)) := ⟨hb0, h.below hb0, hbx⟩
  obtain ⟨c0, c1⟩ := box2 hbx
  have hlt0 := (Array.getElem?_eq_some_iff.1 hbx).1
  clear h hb0 hbx
  go_enter Tryz.func15, Tryz.ntmps15
  go_upto_region 1 with fail
  try rw [hW0]
  clear hW0
  by_cases l1 : 20000 < q.size
  · have l1' : (20000 : Int) < (q.size : Int) := by omega
    have HN : Hid (sumT opnT p q i = 0) := sumT_long1 l1
    go_wp2
    go_ret
    exact ⟨by rw [HN.out]; rfl, H0.out.1⟩
  have l1' : ¬ (20000 : Int) < (q.size : Int) := by omega
  by_cases l2 : 20000 < i.size
  · have l2' : (20000 : Int) < (i.size : Int) := by omega
    have HN : Hid (sumT opnT p q i = 0) := sumT_long2 l2
    go_wp2
    go_ret
    exact ⟨by rw [HN.out]; rfl, H0.out.1⟩
  have l2' : ¬ (20000 : Int) < (i.size : Int) := by omega
  obtain ⟨x, hx⟩ : ∃ x, x = bkB p := ⟨_, rfl⟩
  have HX : Hid (x = bkB p) := hx
  have Q1 := fun W h => bookRight_spec p (.slice a p.stocks.length c) (.slice a' p.lines.length c') W h
  rw [← hx] at Q1
  clear hx
  go_wp2_with fail
  refine (Q1 _ H0.out.2.1).mono ?_
  rintro e w1 ⟨rfl, hb1⟩
  have H1 : Hid (Below w.heap.size w w1 ∧ RowOl w1 (.slice a' p.lines.length c') p.lines ∧ w1.heap[w.heap.size]? = some (.cells #[.slice a p.stocks.length c, .slice a' p.lines.length c'] 31)) := ⟨H0.out.1.trans (hb1.mono H0.out.1.size), (H0.out.2.1.below hb1).ln, (hb1.block _ hlt0).trans H0.out.2.2⟩
  have hlt1 := (Array.getElem?_eq_some_iff.1 H1.out.2.2).1
  clear hb1 c0 c1 Q1
  cases x with
  | false =>
    have HN : Hid (sumT opnT p q i = 0) := sumT_no HX.out.symm
    go_wp2
    go_ret
    exact ⟨by rw [HN.out]; rfl, H1.out.1⟩
  | true =>
    have hl := (bkB_iff.1 HX.out.symm).2.len
    have HN : Hid (sumT opnT p q i = sumL opnT (p.lines.filter (ofB q i))) := sumT_yes HX.out.symm
    obtain ⟨rs, hrs⟩ : ∃ rs, rs = p.lines := ⟨_, rfl⟩
    rw [← hrs] at hl hlen
    have HR : Hid (rs = p.lines) := hrs
    have HRow : Hid (RowOl w1 (.slice a' rs.length c') rs) := by rw [hrs]; exact H1.out.2.1
    have HB1 : Hid (∀ W, Below w1.heap.size w1 W → W.cell? ⟨w.heap.size, 1, none⟩ = some (.slice a' rs.length c')) := fun W hW => by
      have := (hW.block _ hlt1).trans H1.out.2.2
      rw [← HR.out] at this
      exact (box2 this).2
    clear hrs
    go_wp2_with fail
    go_loopw [7, 8] (fun z ix wr => ∃ (k : Nat) (s : Int), ix = .int .i64 (k : Int) ∧ z = .int .i64 s ∧ k ≤ rs.length ∧ 0 ≤ s ∧ s ≤ 1000000 * (k : Int) ∧ s = sumL opnT (ofK q i rs k) ∧ Below w1.heap.size w1 wr) (fun _ ix _ => rs.length - (intOf ix).toNat)
    case atStart => exact ⟨0, 0, rfl, rfl, by omega, by omega, by omega, by simp [ofK, sumL], Below.refl _ _⟩
    case round =>
      obtain ⟨k, s, rfl, rfl, hk, hs0, hs1, hse, hb⟩ := hrel
      have HE : Hid (s = sumL opnT (ofK q i rs k) ∧ Below w1.heap.size w1 wr) := ⟨hse, hb⟩
      have d1 := HB1.out wr hb
      clear hse
      by_cases hlt : k < rs.length
      · have hlt' : (k : Int) < (rs.length : Int) := by omega
        obtain ⟨b, o, cap', l, e, hs, hat, hz⟩ := (HRow.out.below hb).at hlt
        simp only [Value.slice.injEq, true_and] at e
        obtain ⟨rfl, rfl⟩ := e
        have HS : Hid (rs[k]? = some l) := hs
        obtain ⟨q0, q1, q2, q3, q4, q5, q6, q7⟩ := hat
        have Q2 := lineOpen_spec l
        obtain ⟨f, hf⟩ : ∃ f, f = opnT l := ⟨_, rfl⟩
        have hfb := opnT_bound l
        rw [← hf] at Q2 hfb
        obtain ⟨hf0, hf1⟩ := hfb
        have HF : Hid (f = opnT l) := hf
        clear hs hz hf hb
        cases e1 : (l.item.toList == i.toList) with
        | false =>
          cases e2 : q.toList.isEmpty with
          | true =>
            go_wp2
            go_roundw
            case rel =>
              refine ⟨k + 1, s, by go_num, rfl, by omega, by omega, by omega, ?_, HE.out.2⟩
              rw [ofK_next HS.out, if_neg (by simp [ofB, *]), HE.out.1]
            case measure => simp [intOf]; omega
          | false =>
            cases e3 : (l.partner.toList == q.toList) with
            | true =>
              go_wp2
              go_roundw
              case rel =>
                refine ⟨k + 1, s, by go_num, rfl, by omega, by omega, by omega, ?_, HE.out.2⟩
                rw [ofK_next HS.out, if_neg (by simp [ofB, *]), HE.out.1]
              case measure => simp [intOf]; omega
            | false =>
              go_wp2
              go_roundw
              case rel =>
                refine ⟨k + 1, s, by go_num, rfl, by omega, by omega, by omega, ?_, HE.out.2⟩
                rw [ofK_next HS.out, if_neg (by simp [ofB, *]), HE.out.1]
              case measure => simp [intOf]; omega
        | true =>
          cases e2 : q.toList.isEmpty with
          | true =>
            have HZ : Hid (sumL opnT (ofK q i rs (k + 1)) = s + f) := by
              show _ = _
              rw [ofK_next HS.out, if_pos (by simp [ofB, *]), sumL_app, HE.out.1, HF.out]
              simp [sumL]
            go_wp2_with fail
            refine (Q2 _).mono ?_
            rintro e w2 ⟨rfl, hb2⟩
            have H2 : Hid (Below w1.heap.size w1 w2) := HE.out.2.trans (hb2.mono HE.out.2.size)
            clear hb2
            go_wp2
            go_roundw
            case rel => exact ⟨k + 1, s + f, by go_num, by go_num, by omega, by omega, by omega, HZ.out.symm, H2.out⟩
            case measure => simp [intOf]; omega
          | false =>
            cases e3 : (l.partner.toList == q.toList) with
            | true =>
              have HZ : Hid (sumL opnT (ofK q i rs (k + 1)) = s + f) := by
                show _ = _
                rw [ofK_next HS.out, if_pos (by simp [ofB, *]), sumL_app, HE.out.1, HF.out]
                simp [sumL]
              go_wp2_with fail
              refine (Q2 _).mono ?_
              rintro e w2 ⟨rfl, hb2⟩
              have H2 : Hid (Below w1.heap.size w1 w2) := HE.out.2.trans (hb2.mono HE.out.2.size)
              clear hb2
              go_wp2
              go_roundw
              case rel => exact ⟨k + 1, s + f, by go_num, by go_num, by omega, by omega, by omega, HZ.out.symm, H2.out⟩
              case measure => simp [intOf]; omega
            | false =>
              go_wp2
              go_roundw
              case rel =>
                refine ⟨k + 1, s, by go_num, rfl, by omega, by omega, by omega, ?_, HE.out.2⟩
                rw [ofK_next HS.out, if_neg (by simp [ofB, *]), HE.out.1]
              case measure => simp [intOf]; omega
      · obtain rfl : k = rs.length := by omega
        have HT : Hid (sumT opnT p q i = s) := by show _ = _; rw [HN.out, HE.out.1, ofK_all, HR.out]
        clear hb
        go_wp2
        go_ret
        exact ⟨by rw [HT.out]; rfl, H1.out.1.trans (HE.out.2.mono H1.out.1.size)⟩
set_option maxHeartbeats 8000000 in
theorem bookTransit_spec (p : Bk) (us ul : Value) (q i : ByteArray) (w : World) (h : RBk w us ul p) (hq : q.size ≤ 1048576) (hi : i.size ≤ 1048576) : Calls Tryz.prog 16 #[.agg #[us, ul], .string q, .string i] w fun e w' => e = .returned (.int .i64 (sumT trnT p q i)) ∧ Below w.heap.size w w' := by
  have hlen := h.ln.len
  obtain ⟨a, c, a', c', rfl, rfl⟩ := h.val
  obtain ⟨W0, hW0⟩ : ∃ W0, w.alloc (.cells #[.slice a p.stocks.length c, .slice a' p.lines.length c'] 31) = W0 := ⟨_, rfl⟩
  have hb0 : Below w.heap.size w W0 := by rw [← hW0]; exact (Below.refl _ _).alloc (Nat.le_refl _) _
  have hbx : W0.heap[w.heap.size]? = some (.cells #[.slice a p.stocks.length c, .slice a' p.lines.length c'] 31) := by rw [← hW0]; exact World.alloc_heap_new _ _
  have H0 : Hid (Below w.heap.size w W0 ∧ RBk W0 (.slice a p.stocks.length c) (.slice a' p.lines.length c') p ∧ W0.heap[w.heap.size]? = some (.cells #[.slice a p.stocks.length c, .slice a' p.lines.length c'] 31)) := ⟨hb0, h.below hb0, hbx⟩
  obtain ⟨c0, c1⟩ := box2 hbx
  have hlt0 := (Array.getElem?_eq_some_iff.1 hbx).1
  clear h hb0 hbx
  go_enter Tryz.func16, Tryz.ntmps16
  go_upto_region 1 with fail
  try rw [hW0]
  clear hW0
  by_cases l1 : 20000 < q.size
  · have l1' : (20000 : Int) < (q.size : Int) := by omega
    have HN : Hid (sumT trnT p q i = 0) := sumT_long1 l1
    go_wp2
    go_ret
    exact ⟨by rw [HN.out]; rfl, H0.out.1⟩
  have l1' : ¬ (20000 : Int) < (q.size : Int) := by omega
  by_cases l2 : 20000 < i.size
  · have l2' : (20000 : Int) < (i.size : Int) := by omega
    have HN : Hid (sumT trnT p q i = 0) := sumT_long2 l2
    go_wp2
    go_ret
    exact ⟨by rw [HN.out]; rfl, H0.out.1⟩
  have l2' : ¬ (20000 : Int) < (i.size : Int) := by omega
  obtain ⟨x, hx⟩ : ∃ x, x = bkB p := ⟨_, rfl⟩
  have HX : Hid (x = bkB p) := hx
  have Q1 := fun W h => bookRight_spec p (.slice a p.stocks.length c) (.slice a' p.lines.length c') W h
  rw [← hx] at Q1
  clear hx
  go_wp2_with fail
  refine (Q1 _ H0.out.2.1).mono ?_
  rintro e w1 ⟨rfl, hb1⟩
  have H1 : Hid (Below w.heap.size w w1 ∧ RowOl w1 (.slice a' p.lines.length c') p.lines ∧ w1.heap[w.heap.size]? = some (.cells #[.slice a p.stocks.length c, .slice a' p.lines.length c'] 31)) := ⟨H0.out.1.trans (hb1.mono H0.out.1.size), (H0.out.2.1.below hb1).ln, (hb1.block _ hlt0).trans H0.out.2.2⟩
  have hlt1 := (Array.getElem?_eq_some_iff.1 H1.out.2.2).1
  clear hb1 c0 c1 Q1
  cases x with
  | false =>
    have HN : Hid (sumT trnT p q i = 0) := sumT_no HX.out.symm
    go_wp2
    go_ret
    exact ⟨by rw [HN.out]; rfl, H1.out.1⟩
  | true =>
    have hl := (bkB_iff.1 HX.out.symm).2.len
    have HN : Hid (sumT trnT p q i = sumL trnT (p.lines.filter (ofB q i))) := sumT_yes HX.out.symm
    obtain ⟨rs, hrs⟩ : ∃ rs, rs = p.lines := ⟨_, rfl⟩
    rw [← hrs] at hl hlen
    have HR : Hid (rs = p.lines) := hrs
    have HRow : Hid (RowOl w1 (.slice a' rs.length c') rs) := by rw [hrs]; exact H1.out.2.1
    have HB1 : Hid (∀ W, Below w1.heap.size w1 W → W.cell? ⟨w.heap.size, 1, none⟩ = some (.slice a' rs.length c')) := fun W hW => by
      have := (hW.block _ hlt1).trans H1.out.2.2
      rw [← HR.out] at this
      exact (box2 this).2
    clear hrs
    go_wp2_with fail
    go_loopw [7, 8] (fun z ix wr => ∃ (k : Nat) (s : Int), ix = .int .i64 (k : Int) ∧ z = .int .i64 s ∧ k ≤ rs.length ∧ 0 ≤ s ∧ s ≤ 1000000 * (k : Int) ∧ s = sumL trnT (ofK q i rs k) ∧ Below w1.heap.size w1 wr) (fun _ ix _ => rs.length - (intOf ix).toNat)
    case atStart => exact ⟨0, 0, rfl, rfl, by omega, by omega, by omega, by simp [ofK, sumL], Below.refl _ _⟩
    case round =>
      obtain ⟨k, s, rfl, rfl, hk, hs0, hs1, hse, hb⟩ := hrel
      have HE : Hid (s = sumL trnT (ofK q i rs k) ∧ Below w1.heap.size w1 wr) := ⟨hse, hb⟩
      have d1 := HB1.out wr hb
      clear hse
      by_cases hlt : k < rs.length
      · have hlt' : (k : Int) < (rs.length : Int) := by omega
        obtain ⟨b, o, cap', l, e, hs, hat, hz⟩ := (HRow.out.below hb).at hlt
        simp only [Value.slice.injEq, true_and] at e
        obtain ⟨rfl, rfl⟩ := e
        have HS : Hid (rs[k]? = some l) := hs
        obtain ⟨q0, q1, q2, q3, q4, q5, q6, q7⟩ := hat
        have Q2 := lineTransit_spec l
        obtain ⟨f, hf⟩ : ∃ f, f = trnT l := ⟨_, rfl⟩
        have hfb := trnT_bound l
        rw [← hf] at Q2 hfb
        obtain ⟨hf0, hf1⟩ := hfb
        have HF : Hid (f = trnT l) := hf
        clear hs hz hf hb
        cases e1 : (l.item.toList == i.toList) with
        | false =>
          cases e2 : q.toList.isEmpty with
          | true =>
            go_wp2
            go_roundw
            case rel =>
              refine ⟨k + 1, s, by go_num, rfl, by omega, by omega, by omega, ?_, HE.out.2⟩
              rw [ofK_next HS.out, if_neg (by simp [ofB, *]), HE.out.1]
            case measure => simp [intOf]; omega
          | false =>
            cases e3 : (l.partner.toList == q.toList) with
            | true =>
              go_wp2
              go_roundw
              case rel =>
                refine ⟨k + 1, s, by go_num, rfl, by omega, by omega, by omega, ?_, HE.out.2⟩
                rw [ofK_next HS.out, if_neg (by simp [ofB, *]), HE.out.1]
              case measure => simp [intOf]; omega
            | false =>
              go_wp2
              go_roundw
              case rel =>
                refine ⟨k + 1, s, by go_num, rfl, by omega, by omega, by omega, ?_, HE.out.2⟩
                rw [ofK_next HS.out, if_neg (by simp [ofB, *]), HE.out.1]
              case measure => simp [intOf]; omega
        | true =>
          cases e2 : q.toList.isEmpty with
          | true =>
            have HZ : Hid (sumL trnT (ofK q i rs (k + 1)) = s + f) := by
              show _ = _
              rw [ofK_next HS.out, if_pos (by simp [ofB, *]), sumL_app, HE.out.1, HF.out]
              simp [sumL]
            go_wp2_with fail
            refine (Q2 _).mono ?_
            rintro e w2 ⟨rfl, hb2⟩
            have H2 : Hid (Below w1.heap.size w1 w2) := HE.out.2.trans (hb2.mono HE.out.2.size)
            clear hb2
            go_wp2
            go_roundw
            case rel => exact ⟨k + 1, s + f, by go_num, by go_num, by omega, by omega, by omega, HZ.out.symm, H2.out⟩
            case measure => simp [intOf]; omega
          | false =>
            cases e3 : (l.partner.toList == q.toList) with
            | true =>
              have HZ : Hid (sumL trnT (ofK q i rs (k + 1)) = s + f) := by
                show _ = _
                rw [ofK_next HS.out, if_pos (by simp [ofB, *]), sumL_app, HE.out.1, HF.out]
                simp [sumL]
              go_wp2_with fail
              refine (Q2 _).mono ?_
              rintro e w2 ⟨rfl, hb2⟩
              have H2 : Hid (Below w1.heap.size w1 w2) := HE.out.2.trans (hb2.mono HE.out.2.size)
              clear hb2
              go_wp2
              go_roundw
              case rel => exact ⟨k + 1, s + f, by go_num, by go_num, by omega, by omega, by omega, HZ.out.symm, H2.out⟩
              case measure => simp [intOf]; omega
            | false =>
              go_wp2
              go_roundw
              case rel =>
                refine ⟨k + 1, s, by go_num, rfl, by omega, by omega, by omega, ?_, HE.out.2⟩
                rw [ofK_next HS.out, if_neg (by simp [ofB, *]), HE.out.1]
              case measure => simp [intOf]; omega
      · obtain rfl : k = rs.length := by omega
        have HT : Hid (sumT trnT p q i = s) := by show _ = _; rw [HN.out, HE.out.1, ofK_all, HR.out]
        clear hb
        go_wp2
        go_ret
        exact ⟨by rw [HT.out]; rfl, H1.out.1.trans (HE.out.2.mono H1.out.1.size)⟩
end Go.Proofs.YtjmkdpnoihpfoaaGreatDoor
