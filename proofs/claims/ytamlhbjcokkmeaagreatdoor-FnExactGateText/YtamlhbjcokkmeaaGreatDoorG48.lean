/- Texts of ours put together: BoS, StxS, LnW. -/
import Derived.Test.YtamlhbjcokkmeaaGreatDoorG39
import Derived.Test.YtamlhbjcokkmeaaGreatDoorG44
import Derived.Test.YtamlhbjcokkmeaaGreatDoorG47
import Derived.Test.YtamlhbjcokkmeaaGreatDoorG23
import Derived.Test.YtamlhbjcokkmeaaGreatDoorG46
import Derived.Deep.RegionHeld3
import Derived.Deep.Cut
import Derived.Deep.CutRange
import Derived.Laws.Concat
import Derived.BigQuiet
import Derived.Laws.OwnMore
namespace Go.Proofs.YtamlhbjcokkmeaaGreatDoor
open Go.ChangeShapes Go.WideShapes Go.ChangeAt Go.RowKit
theorem sumT_no {f : OLn → Int} {p : Bk} {q i : ByteArray} (h : bkB p = false) : sumT f p q i = 0 := by simp [sumT, h]
theorem sumT_yes {f : OLn → Int} {p : Bk} {q i : ByteArray} (h : bkB p = true) : sumT f p q i = sumL f (p.lines.filter (ofB q i)) := by simp [sumT, h]
theorem sumT_none {f : OLn → Int} {p : Bk} {q i : ByteArray} (h : ∀ l ∈ p.lines, bkB p = true → ofB q i l = false) : sumT f p q i = 0 := by
  cases hb : bkB p with
  | false => exact sumT_no hb
  | true =>
    rw [sumT_yes hb]
    have : p.lines.filter (ofB q i) = [] := List.filter_eq_nil_iff.2 fun l hl => by rw [h l hl hb]; simp
    rw [this]
    rfl
theorem sumT_long1 {f : OLn → Int} {p : Bk} {q i : ByteArray} (h : 20000 < q.size) : sumT f p q i = 0 := sumT_none fun l hl hb => by
  have h1 := (nameB_sizes ((bkB_iff.1 hb).2.ok l hl).p).2
  have e : (l.partner.toList == q.toList) = false := by
    cases e : l.partner.toList == q.toList with
    | false => rfl
    | true =>
      rw [beq_iff_eq] at e
      have := ba_list e
      rw [this] at h1
      omega
  have e2 : q.toList.isEmpty = false := by
    cases hq : q.toList with
    | nil =>
      have : q.data.toList.length = 0 := by rw [← ByteArray.toList_eq, hq]; rfl
      have e : q.size = q.data.toList.length := by simp
      omega
    | cons => rfl
  simp [ofB, e, e2]
theorem sumT_long2 {f : OLn → Int} {p : Bk} {q i : ByteArray} (h : 20000 < i.size) : sumT f p q i = 0 := sumT_none fun l hl hb => by
  have h1 := (nameB_sizes ((bkB_iff.1 hb).2.ok l hl).i).2
  have e : (l.item.toList == i.toList) = false := by
    cases e : l.item.toList == i.toList with
    | false => rfl
    | true =>
      rw [beq_iff_eq] at e
      have := ba_list e
      rw [this] at h1
      omega
  simp [ofB, e]
set_option maxHeartbeats 8000000 in
theorem bookOrdered_spec (p : Bk) (us ul : Value) (q i : ByteArray) (w : World) (h : RBk w us ul p) (hq : q.size ≤ 1048576) (hi : i.size ≤ 1048576) : Calls Tryz.prog 52 #[.agg #[us, ul], .string q, .string i] w fun e w' => e = .returned (.int .i64 (sumT opnT p q i)) ∧ Below w.heap.size w w' := by
  have hlen := h.ln.len
  obtain ⟨a, c, a', c', rfl, rfl⟩ := h.val
  obtain ⟨W0, hW0⟩ : ∃ W0, w.alloc (.cells #[.slice a p.stocks.length c, .slice a' p.lines.length c'] 39) = W0 := ⟨_, rfl⟩
  have hb0 : Below w.heap.size w W0 := by rw [← hW0]; exact (Below.refl _ _).alloc (Nat.le_refl _) _
  have hbx : W0.heap[w.heap.size]? = some (.cells #[.slice a p.stocks.length c, .slice a' p.lines.length c'] 39) := by rw [← hW0]; exact World.alloc_heap_new _ _
  have H0 : Hid (Below w.heap.size w W0 ∧ RBk W0 (.slice a p.stocks.length c) (.slice a' p.lines.length c') p ∧ W0.heap[w.heap.size]? = some (.cells #[.slice a p.stocks.length c, .slice a' p.lines.length c'] 39)) := ⟨hb0, h.below hb0, hbx⟩
  obtain ⟨c0, c1⟩ := box2 hbx
  have hlt0 := (Array.getElem?_eq_some_iff.1 hbx).1
  clear h hb0 hbx
  go_enter Tryz.func52, Tryz.ntmps52
  go_upto_region 1 with fail
  try rw [hW0]
  clear hW0
  by_cases l1 : 20000 < q.size
  · have l1' : (20000 : Int) < (q.size : Int) := by omega
    have HN : Hid (sumT opnT p q i = 0) := sumT_long1 l1
    go_wp2
    go_ret
    exact ⟨by rw [HN.out]; rfl, H0.out.1⟩
  have l1' : ¬ (20000 : Int) < (q.size : Int) := by omega
  by_cases l2 : 20000 < i.size
  · have l2' : (20000 : Int) < (i.size : Int) := by omega
    have HN : Hid (sumT opnT p q i = 0) := sumT_long2 l2
    go_wp2
    go_ret
    exact ⟨by rw [HN.out]; rfl, H0.out.1⟩
  have l2' : ¬ (20000 : Int) < (i.size : Int) := by omega
  obtain ⟨x, hx⟩ : ∃ x, x = bkB p := ⟨_, rfl⟩
  have HX : Hid (x = bkB p) := hx
  have Q1 := fun W h => bookRight_spec p (.slice a p.stocks.length c) (.slice a' p.lines.length c') W h
  rw [← hx] at Q1
  clear hx
  go_wp2_with fail
  refine (Q1 _ H0.out.2.1).mono ?_
  rintro e w1 ⟨rfl, hb1⟩
  have H1 : Hid (Below w.heap.size w w1 ∧ RowOl w1 (.slice a' p.lines.length c') p.lines ∧ w1.heap[w.heap.size]? = some (.cells #[.slice a p.stocks.length c, .slice a' p.lines.length c'] 39)) := ⟨H0.out.1.trans (hb1.mono H0.out.1.size), (H0.out.2.1.below hb1).ln, (hb1.block _ hlt0).trans H0.out.2.2⟩
  have hlt1 := (Array.getElem?_eq_some_iff.1 H1.out.2.2).1
  clear hb1 c0 c1 Q1
  cases x with
  | false =>
    have HN : Hid (sumT opnT p q i = 0) := sumT_no HX.out.symm
    go_wp2
    go_ret
    exact ⟨by rw [HN.out]; rfl, H1.out.1⟩
  | true =>
    have hl := (bkB_iff.1 HX.out.symm).2.len
    have HN : Hid (sumT opnT p q i = sumL opnT (p.lines.filter (ofB q i))) := sumT_yes HX.out.symm
    obtain ⟨rs, hrs⟩ : ∃ rs, rs = p.lines := ⟨_, rfl⟩
    rw [← hrs] at hl hlen
    have HR : Hid (rs = p.lines) := hrs
    have HRow : Hid (RowOl w1 (.slice a' rs.length c') rs) := by rw [hrs]; exact H1.out.2.1
    have HB1 : Hid (∀ W, Below w1.heap.size w1 W → W.cell? ⟨w.heap.size, 1, none⟩ = some (.slice a' rs.length c')) := fun W hW => by
      have := (hW.block _ hlt1).trans H1.out.2.2
      rw [← HR.out] at this
      exact (box2 this).2
    clear hrs
    go_wp2_with fail
    go_loopw [7, 8] (fun z ix wr => ∃ (k : Nat) (s : Int), ix = .int .i64 (k : Int) ∧ z = .int .i64 s ∧ k ≤ rs.length ∧ 0 ≤ s ∧ s ≤ 1000000 * (k : Int) ∧ s = sumL opnT (ofK q i rs k) ∧ Below w1.heap.size w1 wr) (fun _ ix _ => rs.length - (intOf ix).toNat)
    case atStart => exact ⟨0, 0, rfl, rfl, by omega, by omega, by omega, by simp [ofK, sumL], Below.refl _ _⟩
    case round =>
      obtain ⟨k, s, rfl, rfl, hk, hs0, hs1, hse, hb⟩ := hrel
      have HE : Hid (s = sumL opnT (ofK q i rs k) ∧ Below w1.heap.size w1 wr) := ⟨hse, hb⟩
      have d1 := HB1.out wr hb
      clear hse
      by_cases hlt : k < rs.length
      · have hlt' : (k : Int) < (rs.length : Int) := by omega
        obtain ⟨b, o, cap', l, e, hs, hat, hz⟩ := (HRow.out.below hb).at hlt
        simp only [Value.slice.injEq, true_and] at e
        obtain ⟨rfl, rfl⟩ := e
        have HS : Hid (rs[k]? = some l) := hs
        obtain ⟨q0, q1, q2, q3, q4, q5, q6, q7⟩ := hat
        have Q2 := lineOpen_spec l
        obtain ⟨f, hf⟩ : ∃ f, f = opnT l := ⟨_, rfl⟩
        have hfb := opnT_bound l
        rw [← hf] at Q2 hfb
        obtain ⟨hf0, hf1⟩ := hfb
        have HF : Hid (f = opnT l) := hf
        clear hs hz hf hb
        cases e1 : (l.item.toList == i.toList) with
        | false =>
          cases e2 : q.toList.isEmpty with
          | true =>
            go_wp2
            go_roundw
            case rel =>
              refine ⟨k + 1, s, by go_num, rfl, by omega, by omega, by omega, ?_, HE.out.2⟩
              rw [ofK_next HS.out, if_neg (by simp [ofB, *]), HE.out.1]
            case measure => simp [intOf]; omega
          | false =>
            cases e3 : (l.partner.toList == q.toList) with
            | true =>
              go_wp2
              go_roundw
              case rel =>
                refine ⟨k + 1, s, by go_num, rfl, by omega, by omega, by omega, ?_, HE.out.2⟩
                rw [ofK_next HS.out, if_neg (by simp [ofB, *]), HE.out.1]
              case measure => simp [intOf]; omega
            | false =>
              go_wp2
              go_roundw
              case rel =>
                refine ⟨k + 1, s, by go_num, rfl, by omega, by omega, by omega, ?_, HE.out.2⟩
                rw [ofK_next HS.out, if_neg (by simp [ofB, *]), HE.out.1]
              case measure => simp [intOf]; omega
        | true =>
          cases e2 : q.toList.isEmpty with
          | true =>
            have HZ : Hid (sumL opnT (ofK q i rs (k + 1)) = s + f) := by
              show _ = _
              rw [ofK_next HS.out, if_pos (by simp [ofB, *]), sumL_app, HE.out.1, HF.out]
              simp [sumL]
            go_wp2_with fail
            refine (Q2 _).mono ?_
            rintro e w2 ⟨rfl, hb2⟩
            have H2 : Hid (Below w1.heap.size w1 w2) := HE.out.2.trans (hb2.mono HE.out.2.size)
            clear hb2
            go_wp2
            go_roundw
            case rel => exact ⟨k + 1, s + f, by go_num, by go_num, by omega, by omega, by omega, HZ.out.symm, H2.out⟩
            case measure => simp [intOf]; omega
          | false =>
            cases e3 : (l.partner.toList == q.toList) with
            | true =>
              have HZ : Hid (sumL opnT (ofK q i rs (k + 1)) = s + f) := by
                show _ = _
                rw [ofK_next HS.out, if_pos (by simp [ofB, *]), sumL_app, HE.out.1, HF.out]
                simp [sumL]
              go_wp2_with fail
              refine (Q2 _).mono ?_
              rintro e w2 ⟨rfl, hb2⟩
              have H2 : Hid (Below w1.heap.size w1 w2) := HE.out.2.trans (hb2.mono HE.out.2.size)
              clear hb2
              go_wp2
              go_roundw
              case rel => exact ⟨k + 1, s + f, by go_num, by go_num, by omega, by omega, by omega, HZ.out.symm, H2.out⟩
              case measure => simp [intOf]; omega
            | false =>
              go_wp2
              go_roundw
              case rel =>
                refine ⟨k + 1, s, by go_num, rfl, by omega, by omega, by omega, ?_, HE.out.2⟩
                rw [ofK_next HS.out, if_neg (by simp [ofB, *]), HE.out.1]
              case measure => simp [intOf]; omega
      · obtain rfl : k = rs.length := by omega
        have HT : Hid (sumT opnT p q i = s) := by show _ = _; rw [HN.out, HE.out.1, ofK_all, HR.out]
        clear hb
        go_wp2
        go_ret
        exact ⟨by rw [HT.out]; rfl, H1.out.1.trans (HE.out.2.mono H1.out.1.size)⟩
set_option maxHeartbeats 8000000 in
theorem bookTransit_spec (p : Bk) (us ul : Value) (q i : ByteArray) (w : World) (h : RBk w us ul p) (hq : q.size ≤ 1048576) (hi : i.size ≤ 1048576) : Calls Tryz.prog 53 #[.agg #[us, ul], .string q, .string i] w fun e w' => e = .returned (.int .i64 (sumT trnT p q i)) ∧ Below w.heap.size w w' := by
  have hlen := h.ln.len
  obtain ⟨a, c, a', c', rfl, rfl⟩ := h.val
  obtain ⟨W0, hW0⟩ : ∃ W0, w.alloc (.cells #[.slice a p.stocks.length c, .slice a' p.lines.length c'] 39) = W0 := ⟨_, rfl⟩
  have hb0 : Below w.heap.size w W0 := by rw [← hW0]; exact (Below.refl _ _).alloc (Nat.le_refl _) _
  have hbx : W0.heap[w.heap.size]? = some (.cells #[.slice a p.stocks.length c, .slice a' p.lines.length c'] 39) := by rw [← hW0]; exact World.alloc_heap_new _ _
  have H0 : Hid (Below w.heap.size w W0 ∧ RBk W0 (.slice a p.stocks.length c) (.slice a' p.lines.length c') p ∧ W0.heap[w.heap.size]? = some (.cells #[.slice a p.stocks.length c, .slice a' p.lines.length c'] 39)) := ⟨hb0, h.below hb0, hbx⟩
  obtain ⟨c0, c1⟩ := box2 hbx
  have hlt0 := (Array.getElem?_eq_some_iff.1 hbx).1
  clear h hb0 hbx
  go_enter Tryz.func53, Tryz.ntmps53
  go_upto_region 1 with fail
  try rw [hW0]
  clear hW0
  by_cases l1 : 20000 < q.size
  · have l1' : (20000 : Int) < (q.size : Int) := by omega
    have HN : Hid (sumT trnT p q i = 0) := sumT_long1 l1
    go_wp2
    go_ret
    exact ⟨by rw [HN.out]; rfl, H0.out.1⟩
  have l1' : ¬ (20000 : Int) < (q.size : Int) := by omega
  by_cases l2 : 20000 < i.size
  · have l2' : (20000 : Int) < (i.size : Int) := by omega
    have HN : Hid (sumT trnT p q i = 0) := sumT_long2 l2
    go_wp2
    go_ret
    exact ⟨by rw [HN.out]; rfl, H0.out.1⟩
  have l2' : ¬ (20000 : Int) < (i.size : Int) := by omega
  obtain ⟨x, hx⟩ : ∃ x, x = bkB p := ⟨_, rfl⟩
  have HX : Hid (x = bkB p) := hx
  have Q1 := fun W h => bookRight_spec p (.slice a p.stocks.length c) (.slice a' p.lines.length c') W h
  rw [← hx] at Q1
  clear hx
  go_wp2_with fail
  refine (Q1 _ H0.out.2.1).mono ?_
  rintro e w1 ⟨rfl, hb1⟩
  have H1 : Hid (Below w.heap.size w w1 ∧ RowOl w1 (.slice a' p.lines.length c') p.lines ∧ w1.heap[w.heap.size]? = some (.cells #[.slice a p.stocks.length c, .slice a' p.lines.length c'] 39)) := ⟨H0.out.1.trans (hb1.mono H0.out.1.size), (H0.out.2.1.below hb1).ln, (hb1.block _ hlt0).trans H0.out.2.2⟩
  have hlt1 := (Array.getElem?_eq_some_iff.1 H1.out.2.2).1
  clear hb1 c0 c1 Q1
  cases x with
  | false =>
    have HN : Hid (sumT trnT p q i = 0) := sumT_no HX.out.symm
    go_wp2
    go_ret
    exact ⟨by rw [HN.out]; rfl, H1.out.1⟩
  | true =>
    have hl := (bkB_iff.1 HX.out.symm).2.len
    have HN : Hid (sumT trnT p q i = sumL trnT (p.lines.filter (ofB q i))) := sumT_yes HX.out.symm
    obtain ⟨rs, hrs⟩ : ∃ rs, rs = p.lines := ⟨_, rfl⟩
    rw [← hrs] at hl hlen
    have HR : Hid (rs = p.lines) := hrs
    have HRow : Hid (RowOl w1 (.slice a' rs.length c') rs) := by rw [hrs]; exact H1.out.2.1
    have HB1 : Hid (∀ W, Below w1.heap.size w1 W → W.cell? ⟨w.heap.size, 1, none⟩ = some (.slice a' rs.length c')) := fun W hW => by
      have := (hW.block _ hlt1).trans H1.out.2.2
      rw [← HR.out] at this
      exact (box2 this).2
    clear hrs
    go_wp2_with fail
    go_loopw [7, 8] (fun z ix wr => ∃ (k : Nat) (s : Int), ix = .int .i64 (k : Int) ∧ z = .int .i64 s ∧ k ≤ rs.length ∧ 0 ≤ s ∧ s ≤ 1000000 * (k : Int) ∧ s = sumL trnT (ofK q i rs k) ∧ Below w1.heap.size w1 wr) (fun _ ix _ => rs.length - (intOf ix).toNat)
    case atStart => exact ⟨0, 0, rfl, rfl, by omega, by omega, by omega, by simp [ofK, sumL], Below.refl _ _⟩
    case round =>
      obtain ⟨k, s, rfl, rfl, hk, hs0, hs1, hse, hb⟩ := hrel
      have HE : Hid (s = sumL trnT (ofK q i rs k) ∧ Below w1.heap.size w1 wr) := ⟨hse, hb⟩
      have d1 := HB1.out wr hb
      clear hse
      by_cases hlt : k < rs.length
      · have hlt' : (k : Int) < (rs.length : Int) := by omega
        obtain ⟨b, o, cap', l, e, hs, hat, hz⟩ := (HRow.out.below hb).at hlt
        simp only [Value.slice.injEq, true_and] at e
        obtain ⟨rfl, rfl⟩ := e
        have HS : Hid (rs[k]? = some l) := hs
        obtain ⟨q0, q1, q2, q3, q4, q5, q6, q7⟩ := hat
        have Q2 := lineTransit_spec l
        obtain ⟨f, hf⟩ : ∃ f, f = trnT l := ⟨_, rfl⟩
        have hfb := trnT_bound l
        rw [← hf] at Q2 hfb
        obtain ⟨hf0, hf1⟩ := hfb
        have HF : Hid (f = trnT l) := hf
        clear hs hz hf hb
        cases e1 : (l.item.toList == i.toList) with
        | false =>
          cases e2 : q.toList.isEmpty with
          | true =>
            go_wp2
            go_roundw
            case rel =>
              refine ⟨k + 1, s, by go_num, rfl, by omega, by omega, by omega, ?_, HE.out.2⟩
              rw [ofK_next HS.out, if_neg (by simp [ofB, *]), HE.out.1]
            case measure => simp [intOf]; omega
          | false =>
            cases e3 : (l.partner.toList == q.toList) with
            | true =>
              go_wp2
              go_roundw
              case rel =>
                refine ⟨k + 1, s, by go_num, rfl, by omega, by omega, by omega, ?_, HE.out.2⟩
                rw [ofK_next HS.out, if_neg (by simp [ofB, *]), HE.out.1]
              case measure => simp [intOf]; omega
            | false =>
              go_wp2
              go_roundw
              case rel =>
                refine ⟨k + 1, s, by go_num, rfl, by omega, by omega, by omega, ?_, HE.out.2⟩
                rw [ofK_next HS.out, if_neg (by simp [ofB, *]), HE.out.1]
              case measure => simp [intOf]; omega
        | true =>
          cases e2 : q.toList.isEmpty with
          | true =>
            have HZ : Hid (sumL trnT (ofK q i rs (k + 1)) = s + f) := by
              show _ = _
              rw [ofK_next HS.out, if_pos (by simp [ofB, *]), sumL_app, HE.out.1, HF.out]
              simp [sumL]
            go_wp2_with fail
            refine (Q2 _).mono ?_
            rintro e w2 ⟨rfl, hb2⟩
            have H2 : Hid (Below w1.heap.size w1 w2) := HE.out.2.trans (hb2.mono HE.out.2.size)
            clear hb2
            go_wp2
            go_roundw
            case rel => exact ⟨k + 1, s + f, by go_num, by go_num, by omega, by omega, by omega, HZ.out.symm, H2.out⟩
            case measure => simp [intOf]; omega
          | false =>
            cases e3 : (l.partner.toList == q.toList) with
            | true =>
              have HZ : Hid (sumL trnT (ofK q i rs (k + 1)) = s + f) := by
                show _ = _
                rw [ofK_next HS.out, if_pos (by simp [ofB, *]), sumL_app, HE.out.1, HF.out]
                simp [sumL]
              go_wp2_with fail
              refine (Q2 _).mono ?_
              rintro e w2 ⟨rfl, hb2⟩
              have H2 : Hid (Below w1.heap.size w1 w2) := HE.out.2.trans (hb2.mono HE.out.2.size)
              clear hb2
              go_wp2
              go_roundw
              case rel => exact ⟨k + 1, s + f, by go_num, by go_num, by omega, by omega, by omega, HZ.out.symm, H2.out⟩
              case measure => simp [intOf]; omega
            | false =>
              go_wp2
              go_roundw
              case rel =>
                refine ⟨k + 1, s, by go_num, rfl, by omega, by omega, by omega, ?_, HE.out.2⟩
                rw [ofK_next HS.out, if_neg (by simp [ofB, *]), HE.out.1]
              case measure => simp [intOf]; omega
      · obtain rfl : k = rs.length := by omega
        have HT : Hid (sumT trnT p q i = s) := by show _ = _; rw [HN.out, HE.out.1, ofK_all, HR.out]
        clear hb
        go_wp2
        go_ret
        exact ⟨by rw [HT.out]; rfl, H1.out.1.trans (HE.out.2.mono H1.out.1.size)⟩
end Go.Proofs.YtamlhbjcokkmeaaGreatDoor
namespace Go.Proofs.YtamlhbjcokkmeaaGreatDoor
open Go.ChangeShapes Go.WideShapes Go.ChangeAt Go.RowKit Go.Sort
theorem row_cell1 {W : World} {base : Nat} {iv : Value} {items : List ByteArray} {k : Nat} {i : ByteArray} (h : W.ownsRow base 9 1 iv items.length (items.map Value.string)) (hk : items[k]? = some i) : ∃ g C, iv = .slice (some ⟨g, 0, none⟩) items.length C ∧ W.cell? ⟨g, k, none⟩ = some (.string i) := by
  have hl := (List.getElem?_eq_some_iff.1 hk).1
  rcases h.2 with ⟨_, e2⟩ | ⟨g, cap, cur, e1, _⟩
  · omega
  · refine ⟨g, cap, e1, ?_⟩
    rw [e1] at h
    rw [h.cellAt k (by omega), List.getElem?_map, hk]
    rfl
theorem own1_belowS {W W' : World} {base e : Nat} {v : Value} {k : Nat} {xs : List Value} (h : W.ownsRow base e 1 v k xs) (hb : Below W.heap.size W W') : W'.ownsRow base e 1 v k xs := by
  refine h.kept (row := none) ⟨hb.os, hb.tape, hb.output, hb.size, fun j hj _ => hb.block j hj⟩ ?_
  rcases h.2 with ⟨e, _⟩ | ⟨g, cap, cur, e, _⟩
  · exact .inl (by rw [e]; rfl)
  · exact .inr (by rw [e]; simp [Value.ownBlock])
theorem own_form1 {W : World} {base e n : Nat} {v : Value} {xs : List Value} (h : W.ownsRow base e 1 v n xs) : ∃ A C, v = .slice A n C := by
  rcases h.2 with ⟨rfl, rfl⟩ | ⟨g, cap, cur, rfl, _⟩
  · exact ⟨_, _, rfl⟩
  · exact ⟨_, _, rfl⟩
set_option maxRecDepth 20000 in
set_option maxHeartbeats 16000000 in
theorem stockText_spec (p : Bk) (us ul : Value) (w : World) (h : RBk w us ul p) : Calls Tryz.prog 16 #[.agg #[us, ul]] w fun e w' => e = .returned (.string (stkT p)) ∧ Below w.heap.size w w' := by
  obtain ⟨a, c, a', c', rfl, rfl⟩ := h.val
  obtain ⟨W0, hW0⟩ : ∃ W0, w.alloc (.cells #[.slice a p.stocks.length c, .slice a' p.lines.length c'] 39) = W0 := ⟨_, rfl⟩
  have hb0 : Below w.heap.size w W0 := by rw [← hW0]; exact (Below.refl _ _).alloc (Nat.le_refl _) _
  have hbx : W0.heap[w.heap.size]? = some (.cells #[.slice a p.stocks.length c, .slice a' p.lines.length c'] 39) := by rw [← hW0]; exact World.alloc_heap_new _ _
  have H0 : Hid (Below w.heap.size w W0 ∧ RBk W0 (.slice a p.stocks.length c) (.slice a' p.lines.length c') p ∧ W0.heap[w.heap.size]? = some (.cells #[.slice a p.stocks.length c, .slice a' p.lines.length c'] 39)) := ⟨hb0, h.below hb0, hbx⟩
  obtain ⟨c0, c1⟩ := box2 hbx
  have hlt0 := (Array.getElem?_eq_some_iff.1 hbx).1
  clear h hb0 hbx
  go_enter Tryz.func16, Tryz.ntmps16
  go_upto_region 1 with fail
  try rw [hW0]
  clear hW0
  obtain ⟨x, hx⟩ : ∃ x, x = bkB p := ⟨_, rfl⟩
  have HX : Hid (x = bkB p) := hx
  have Q1 := fun W h => bookRight_spec p (.slice a p.stocks.length c) (.slice a' p.lines.length c') W h
  rw [← hx] at Q1
  clear hx
  go_wp2_with fail
  refine (Q1 _ H0.out.2.1).mono ?_
  rintro e w1 ⟨rfl, hb1⟩
  have H1 : Hid (Below w.heap.size w w1 ∧ RBk w1 (.slice a p.stocks.length c) (.slice a' p.lines.length c') p ∧ w1.heap[w.heap.size]? = some (.cells #[.slice a p.stocks.length c, .slice a' p.lines.length c'] 39)) := ⟨H0.out.1.trans (hb1.mono H0.out.1.size), H0.out.2.1.below hb1, (hb1.block _ hlt0).trans H0.out.2.2⟩
  have hlt1 := (Array.getElem?_eq_some_iff.1 H1.out.2.2).1
  obtain ⟨d0, d1⟩ := box2 H1.out.2.2
  clear hb1 c0 c1 Q1
  cases x with
  | false =>
    have HN : Hid (stkT p = ⟨#[]⟩) := stkT_no HX.out.symm
    go_wp2
    go_ret
    exact ⟨by rw [HN.out]; rfl, H1.out.1⟩
  | true =>
    have HK : Hid (bkB p = true) := HX.out.symm
    go_wp2_with fail
    refine (bookItems_spec p _ _ _ H1.out.2.1).mono ?_
    rintro e w3 ⟨iv, rfl, hi, hb3⟩
    obtain ⟨items, hit⟩ : ∃ items, items = itemsT p := ⟨_, rfl⟩
    rw [← hit] at hi
    have hil : items.length ≤ 300 := by rw [hit]; exact itemsT_len
    have HI : Hid (items = itemsT p) := hit
    have HSm : Hid (∀ x ∈ items, x.size ≤ 12) := by rw [hit]; exact items_name HK.out
    obtain ⟨Ai, Ci, rfl⟩ := own_form1 hi
    obtain ⟨n2, hn2⟩ : ∃ n2, n2 = w1.heap.size := ⟨_, rfl⟩
    rw [← hn2] at hi
    have H3 : Hid (Below w.heap.size w w3 ∧ w3.ownsRow n2 9 1 (.slice Ai items.length Ci) items.length (items.map Value.string) ∧ RBk w3 (.slice a p.stocks.length c) (.slice a' p.lines.length c') p ∧ w3.heap[w.heap.size]? = some (.cells #[.slice a p.stocks.length c, .slice a' p.lines.length c'] 39)) := ⟨H1.out.1.trans (hb3.mono H1.out.1.size), hi, H1.out.2.1.below hb3, (hb3.block _ hlt1).trans H1.out.2.2⟩
    clear hi hb3 hit d0 d1 hn2
    go_wp2_with fail
    go_loopw [3, 5] (fun tv ix wr => ∃ k : Nat, ix = .int .i64 (k : Int) ∧ k ≤ items.length ∧ tv = .string (txB ((items.take k).map (stW p))) ∧ Below w3.heap.size w3 wr) (fun _ ix _ => items.length - (intOf ix).toNat)
    case atStart => exact ⟨0, rfl, by omega, rfl, Below.refl _ _⟩
    case round =>
      obtain ⟨k, rfl, hk, rfl, hb⟩ := hrel
      by_cases hlt : k < items.length
      · have hlt' : (k : Int) < (items.length : Int) := by omega
        obtain ⟨i, hs⟩ : ∃ i, items[k]? = some i := ⟨_, List.getElem?_eq_getElem hlt⟩
        obtain ⟨g, C, e, hcell⟩ := row_cell1 (own1_belowS H3.out.2.1 hb) hs
        simp only [Value.slice.injEq, true_and] at e
        obtain ⟨rfl, rfl⟩ := e
        have hi12 := HSm.out i (List.mem_of_getElem? hs)
        have HS : Hid (items[k]? = some i) := hs
        have hgl := cell_lt hcell
        have hbB := (hb.block _ (Array.getElem?_eq_some_iff.1 H3.out.2.2.2).1).trans H3.out.2.2.2
        have HC : Hid (∀ W, Below wr.heap.size wr W → (W.cell? ⟨w.heap.size, 0, none⟩ = some (.slice a p.stocks.length c) ∧ W.cell? ⟨w.heap.size, 1, none⟩ = some (.slice a' p.lines.length c') ∧ W.cell? ⟨g, k, none⟩ = some (.string i)) ∧ RBk W (.slice a p.stocks.length c) (.slice a' p.lines.length c') p) := fun W hW => by
          obtain ⟨q0, q1⟩ := box2 ((hW.block _ (Array.getElem?_eq_some_iff.1 hbB).1).trans hbB)
          exact ⟨⟨q0, q1, (hW.cell hgl).trans hcell⟩, (H3.out.2.2.1.below hb).below hW⟩
        have HW : Hid (Below w3.heap.size w3 wr) := hb
        have hsb := stB p i
        obtain ⟨zh, hzh⟩ : ∃ zh, zh = handT p i := ⟨_, rfl⟩
        obtain ⟨zo, hzo⟩ : ∃ zo, zo = sumT opnT p ⟨#[]⟩ i := ⟨_, rfl⟩
        obtain ⟨zt, hzt⟩ : ∃ zt, zt = sumT trnT p ⟨#[]⟩ i := ⟨_, rfl⟩
        have bdh : -9223372036854775808 ≤ zh ∧ zh ≤ 9223372036854775807 := by rw [hzh]; exact ⟨hsb.h0, hsb.h1⟩
        have bdo : -9223372036854775808 ≤ zo ∧ zo ≤ 9223372036854775807 := by rw [hzo]; exact ⟨hsb.o0, hsb.o1⟩
        have bdt : -9223372036854775808 ≤ zt ∧ zt ≤ 9223372036854775807 := by rw [hzt]; exact ⟨hsb.t0, hsb.t1⟩
        have QH := fun W h => bookHand_spec p (.slice a p.stocks.length c) (.slice a' p.lines.length c') i W h (by omega)
        have QO := fun W h => bookOrdered_spec p (.slice a p.stocks.length c) (.slice a' p.lines.length c') ⟨#[]⟩ i W h (by decide) (by omega)
        have QT := fun W h => bookTransit_spec p (.slice a p.stocks.length c) (.slice a' p.lines.length c') ⟨#[]⟩ i W h (by decide) (by omega)
        rw [← hzh] at QH
        rw [← hzo] at QO
        rw [← hzt] at QT
        have z1 := (decS_long zh bdh.1 bdh.2).2
        have z2 := (decS_long zo bdo.1 bdo.2).2
        have z3 := (decS_long zt bdt.1 bdt.2).2
        have ht2 : (txR ((items.take k).map (stW p))).length ≤ 200 * (items.take k).length := st_len fun x hx => HSm.out x (List.mem_of_mem_take hx)
        rw [← txB_size, List.length_take] at ht2
        obtain ⟨t, htt⟩ : ∃ t, t = txB ((items.take k).map (stW p)) := ⟨_, rfl⟩
        rw [← htt] at ht2
        try rw [← htt]
        have ht3 : t.size ≤ 60000 := by omega
        have HT : Hid (txB ((items.take (k + 1)).map (stW p)) = ((((((((t ++ i) ++ (⟨#[32, 104, 97, 110, 100, 32]⟩ : ByteArray)) ++ decS zh) ++ (⟨#[32, 111, 114, 100, 101, 114, 101, 100, 32]⟩ : ByteArray)) ++ decS zo) ++ (⟨#[32, 116, 114, 97, 110, 115, 105, 116, 32]⟩ : ByteArray)) ++ decS zt) ++ (⟨#[10]⟩ : ByteArray))) := by
          show _ = _
          rw [hzh, hzo, hzt, st_app, List.take_add_one, HS.out, htt]
          unfold txB
          rw [List.map_append, txR_app]
          apply ByteArray.ext
          apply Array.toList_inj.1
          simp [ByteArray.data_append, txR]
        have e0 : (⟨#[32, 104, 97, 110, 100, 32]⟩ : ByteArray).size = 6 := rfl
        have e1 : (⟨#[32, 111, 114, 100, 101, 114, 101, 100, 32]⟩ : ByteArray).size = 9 := rfl
        have e2 : (⟨#[32, 116, 114, 97, 110, 115, 105, 116, 32]⟩ : ByteArray).size = 9 := rfl
        have e3 : (⟨#[10]⟩ : ByteArray).size = 1 := rfl
        have y0 : ∀ W, (Op.stringOp .add (t) (i)).run Tryz.prog W = .ok (.string (t ++ i)) W := fun W => run_string_add_sum _ _ _ (by omega)
        have y1 : ∀ W, (Op.stringOp .add ((t ++ i)) ((⟨#[32, 104, 97, 110, 100, 32]⟩ : ByteArray))).run Tryz.prog W = .ok (.string ((t ++ i) ++ (⟨#[32, 104, 97, 110, 100, 32]⟩ : ByteArray))) W := fun W => run_string_add_sum _ _ _ (by simp only [ByteArray.size_append, e0]; omega)
        have y2 : ∀ W, (Op.stringOp .add (((t ++ i) ++ (⟨#[32, 104, 97, 110, 100, 32]⟩ : ByteArray))) (decS zh)).run Tryz.prog W = .ok (.string (((t ++ i) ++ (⟨#[32, 104, 97, 110, 100, 32]⟩ : ByteArray)) ++ decS zh)) W := fun W => run_string_add_sum _ _ _ (by simp only [ByteArray.size_append, e0]; omega)
        have y3 : ∀ W, (Op.stringOp .add ((((t ++ i) ++ (⟨#[32, 104, 97, 110, 100, 32]⟩ : ByteArray)) ++ decS zh)) ((⟨#[32, 111, 114, 100, 101, 114, 101, 100, 32]⟩ : ByteArray))).run Tryz.prog W = .ok (.string ((((t ++ i) ++ (⟨#[32, 104, 97, 110, 100, 32]⟩ : ByteArray)) ++ decS zh) ++ (⟨#[32, 111, 114, 100, 101, 114, 101, 100, 32]⟩ : ByteArray))) W := fun W => run_string_add_sum _ _ _ (by simp only [ByteArray.size_append, e0, e1]; omega)
        have y4 : ∀ W, (Op.stringOp .add (((((t ++ i) ++ (⟨#[32, 104, 97, 110, 100, 32]⟩ : ByteArray)) ++ decS zh) ++ (⟨#[32, 111, 114, 100, 101, 114, 101, 100, 32]⟩ : ByteArray))) (decS zo)).run Tryz.prog W = .ok (.string (((((t ++ i) ++ (⟨#[32, 104, 97, 110, 100, 32]⟩ : ByteArray)) ++ decS zh) ++ (⟨#[32, 111, 114, 100, 101, 114, 101, 100, 32]⟩ : ByteArray)) ++ decS zo)) W := fun W => run_string_add_sum _ _ _ (by simp only [ByteArray.size_append, e0, e1]; omega)
        have y5 : ∀ W, (Op.stringOp .add ((((((t ++ i) ++ (⟨#[32, 104, 97, 110, 100, 32]⟩ : ByteArray)) ++ decS zh) ++ (⟨#[32, 111, 114, 100, 101, 114, 101, 100, 32]⟩ : ByteArray)) ++ decS zo)) ((⟨#[32, 116, 114, 97, 110, 115, 105, 116, 32]⟩ : ByteArray))).run Tryz.prog W = .ok (.string ((((((t ++ i) ++ (⟨#[32, 104, 97, 110, 100, 32]⟩ : ByteArray)) ++ decS zh) ++ (⟨#[32, 111, 114, 100, 101, 114, 101, 100, 32]⟩ : ByteArray)) ++ decS zo) ++ (⟨#[32, 116, 114, 97, 110, 115, 105, 116, 32]⟩ : ByteArray))) W := fun W => run_string_add_sum _ _ _ (by simp only [ByteArray.size_append, e0, e1, e2]; omega)
        have y6 : ∀ W, (Op.stringOp .add (((((((t ++ i) ++ (⟨#[32, 104, 97, 110, 100, 32]⟩ : ByteArray)) ++ decS zh) ++ (⟨#[32, 111, 114, 100, 101, 114, 101, 100, 32]⟩ : ByteArray)) ++ decS zo) ++ (⟨#[32, 116, 114, 97, 110, 115, 105, 116, 32]⟩ : ByteArray))) (decS zt)).run Tryz.prog W = .ok (.string (((((((t ++ i) ++ (⟨#[32, 104, 97, 110, 100, 32]⟩ : ByteArray)) ++ decS zh) ++ (⟨#[32, 111, 114, 100, 101, 114, 101, 100, 32]⟩ : ByteArray)) ++ decS zo) ++ (⟨#[32, 116, 114, 97, 110, 115, 105, 116, 32]⟩ : ByteArray)) ++ decS zt)) W := fun W => run_string_add_sum _ _ _ (by simp only [ByteArray.size_append, e0, e1, e2]; omega)
        have y7 : ∀ W, (Op.stringOp .add ((((((((t ++ i) ++ (⟨#[32, 104, 97, 110, 100, 32]⟩ : ByteArray)) ++ decS zh) ++ (⟨#[32, 111, 114, 100, 101, 114, 101, 100, 32]⟩ : ByteArray)) ++ decS zo) ++ (⟨#[32, 116, 114, 97, 110, 115, 105, 116, 32]⟩ : ByteArray)) ++ decS zt)) ((⟨#[10]⟩ : ByteArray))).run Tryz.prog W = .ok (.string ((((((((t ++ i) ++ (⟨#[32, 104, 97, 110, 100, 32]⟩ : ByteArray)) ++ decS zh) ++ (⟨#[32, 111, 114, 100, 101, 114, 101, 100, 32]⟩ : ByteArray)) ++ decS zo) ++ (⟨#[32, 116, 114, 97, 110, 115, 105, 116, 32]⟩ : ByteArray)) ++ decS zt) ++ (⟨#[10]⟩ : ByteArray))) W := fun W => run_string_add_sum _ _ _ (by simp only [ByteArray.size_append, e0, e1, e2, e3]; omega)
        obtain ⟨⟨c0, c1, c2⟩, _⟩ := HC.out wr (Below.refl _ _)
        clear hs hb hcell hgl hbB hsb hzh hzo hzt htt ht2 ht3 z1 z2 z3 e0 e1 e2 e3
        go_upto_region 8 with fail
        go_region_held3 (fun W => W.cell? ⟨w.heap.size, 0, none⟩ = some (.slice a p.stocks.length c) ∧ W.cell? ⟨w.heap.size, 1, none⟩ = some (.slice a' p.lines.length c') ∧ W.cell? ⟨g, k, none⟩ = some (.string i)) (go_keep) (first | (go_at_call_of 15 (Value.int IntKind.i64 zt); refine (decG_any zt _ bdt.1 bdt.2).mono ?_; rintro e wf ⟨rfl, hbf⟩; have bf : Below wr.heap.size wr wf := bu.trans ((by first | exact hbf | exact undrewD hbf : Below wu.heap.size wu wf).mono bu.size); obtain ⟨f0, f1, f2⟩ := (HC.out wf bf).1; clear hbf; try dsimp only) | (go_at_call 53; refine (QT _ (by first | exact (HC.out ws bs).2 | exact (HC.out ws bs).2.below (Below.refl _ _).drew)).mono ?_; rintro e wu ⟨rfl, hbu⟩; have bu : Below wr.heap.size wr wu := bs.trans ((by first | exact hbu | exact undrewD hbu : Below ws.heap.size ws wu).mono bs.size); obtain ⟨u0, u1, u2⟩ := (HC.out wu bu).1; clear hbu; try dsimp only) | (go_at_call_of 15 (Value.int IntKind.i64 zo); refine (decG_any zo _ bdo.1 bdo.2).mono ?_; rintro e ws ⟨rfl, hbs⟩; have bs : Below wr.heap.size wr ws := bq.trans ((by first | exact hbs | exact undrewD hbs : Below wq.heap.size wq ws).mono bq.size); obtain ⟨s0, s1, s2⟩ := (HC.out ws bs).1; clear hbs; try dsimp only) | (go_at_call 52; refine (QO _ (by first | exact (HC.out wx bx).2 | exact (HC.out wx bx).2.below (Below.refl _ _).drew)).mono ?_; rintro e wq ⟨rfl, hbq⟩; have bq : Below wr.heap.size wr wq := bx.trans ((by first | exact hbq | exact undrewD hbq : Below wx.heap.size wx wq).mono bx.size); obtain ⟨q0, q1, q2⟩ := (HC.out wq bq).1; clear hbq; try dsimp only) | (go_at_call_of 15 (Value.int IntKind.i64 zh); refine (decG_any zh _ bdh.1 bdh.2).mono ?_; rintro e wx ⟨rfl, hbx⟩; have bx : Below wr.heap.size wr wx := bh.trans ((by first | exact hbx | exact undrewD hbx : Below wh.heap.size wh wx).mono bh.size); obtain ⟨x0, x1, x2⟩ := (HC.out wx bx).1; clear hbx; try dsimp only) | (go_at_call 51; refine (QH _ (by first | exact (HC.out wr (Below.refl _ _)).2 | exact (HC.out wr (Below.refl _ _)).2.below (Below.refl _ _).drew)).mono ?_; rintro e wh ⟨rfl, hbh⟩; have bh : Below wr.heap.size wr wh := (by first | exact hbh | exact undrewD hbh); obtain ⟨h0, h1, h2⟩ := (HC.out wh bh).1; clear hbh; try dsimp only))
        rename_i hHeld
        clear hHeld
        have HE : Hid (Below w3.heap.size w3 wf) := HW.out.trans (bf.mono HW.out.size)
        clear bf bh bx bq bs bu
        go_wp2
        go_roundw
        case rel => exact ⟨k + 1, by go_num, by omega, by rw [HT.out], HE.out⟩
        case measure => simp [intOf]; omega
      · obtain rfl : k = items.length := by omega
        have HE : Hid (Below w.heap.size w wr ∧ txB ((items.take items.length).map (stW p)) = stkT p) := ⟨H3.out.1.trans (hb.mono H3.out.1.size), by rw [List.take_length, HI.out]; rfl⟩
        clear hb
        go_wp2
        go_ret
        exact ⟨by rw [← HE.out.2]; rfl, HE.out.1⟩
end Go.Proofs.YtamlhbjcokkmeaaGreatDoor
namespace Go.Proofs.YtamlhbjcokkmeaaGreatDoor
open Go.ChangeShapes Go.WideShapes Go.ChangeAt Go.RowKit Go.Sort
theorem Grw.unallocW {w w' : World} {o : Obj} (h : Grw (w.alloc o) w') : Grw w w' := by
  obtain ⟨q, os, rfl⟩ := h
  refine ⟨q, #[o] ++ os, ?_⟩
  have e : (w.heap.push o) ++ os = w.heap ++ (#[o] ++ os) := by rw [← Array.append_assoc]; rfl
  show ({ w.drewN q with heap := (w.heap.push o) ++ os } : World) = { w.drewN q with heap := w.heap ++ (#[o] ++ os) }
  rw [e]
set_option maxHeartbeats 2000000 in
theorem lineOpen_grows (l : OLn) (w : World) : Calls Tryz.prog 54 #[.agg #[.string l.partner, .string l.ref, .int .i64 l.no, .string l.item, .int .i64 l.ordered, .int .i64 l.sent, .int .i64 l.got, .int .i64 l.cut]] w fun e w' => e = .returned (.int .i64 (opnT l)) ∧ Grw w w' := by
  obtain ⟨z, hz⟩ : ∃ z, z = opnT l := ⟨_, rfl⟩
  obtain ⟨b, hb⟩ : ∃ b, b = lnB l := ⟨_, rfl⟩
  have Q1 := lineRight_grows l
  rw [← hb] at Q1
  rw [← hz]
  obtain ⟨W0, hW0⟩ : ∃ W0, w.alloc (.cells #[.string l.partner, .string l.ref, .int .i64 l.no, .string l.item, .int .i64 l.ordered, .int .i64 l.sent, .int .i64 l.got, .int .i64 l.cut] 107) = W0 := ⟨_, rfl⟩
  have hb0 : ∀ W, Grw W0 W → Grw w W := fun W h => by rw [← hW0] at h; exact Grw.unallocW h
  have hbx : W0.heap[w.heap.size]? = some (.cells #[.string l.partner, .string l.ref, .int .i64 l.no, .string l.item, .int .i64 l.ordered, .int .i64 l.sent, .int .i64 l.got, .int .i64 l.cut] 107) := by rw [← hW0]; exact World.alloc_heap_new _ _
  go_enter Tryz.func54, Tryz.ntmps54
  go_upto_region 1 with fail
  try rw [hW0]
  clear hW0
  have HC : Hid (∀ W, Below W0.heap.size W0 W → W.cell? ⟨w.heap.size, 0, none⟩ = some (.string l.partner) ∧ W.cell? ⟨w.heap.size, 1, none⟩ = some (.string l.ref) ∧ W.cell? ⟨w.heap.size, 2, none⟩ = some (.int .i64 l.no) ∧ W.cell? ⟨w.heap.size, 3, none⟩ = some (.string l.item) ∧ W.cell? ⟨w.heap.size, 4, none⟩ = some (.int .i64 l.ordered) ∧ W.cell? ⟨w.heap.size, 5, none⟩ = some (.int .i64 l.sent) ∧ W.cell? ⟨w.heap.size, 6, none⟩ = some (.int .i64 l.got) ∧ W.cell? ⟨w.heap.size, 7, none⟩ = some (.int .i64 l.cut)) := fun W hW => box8 ((hW.block _ (Array.getElem?_eq_some_iff.1 hbx).1).trans hbx)
  have HB : Hid (∀ W, Grw W0 W → Grw w W) := hb0
  clear hbx hb0
  obtain ⟨c0, c1, c2, c3, c4, c5, c6, c7⟩ := HC.out W0 (Below.refl _ _)
  go_wp2_with fail
  refine (Q1 _).mono ?_
  rintro e w1 ⟨rfl, hb1⟩
  obtain ⟨d0, d1, d2, d3, d4, d5, d6, d7⟩ := HC.out w1 hb1.below
  have H1 : Hid (Grw w w1) := HB.out _ hb1
  clear hb1 c0 c1 c2 c3 c4 c5 c6 c7
  cases b
  · have HZ : Hid (z = 0) := by show z = 0; rw [hz, opnT_no (lnB_iff'.1 hb.symm)]
    clear hz hb
    go_wp2
    go_ret
    exact ⟨by rw [HZ.out]; rfl, H1.out⟩
  · have hok := lnB_iff.1 hb.symm
    have HZ : Hid (z = l.ordered - l.sent - l.cut) := by show z = _; rw [hz, opnT_yes hok]
    have k0 := hok.o1
    have k1 := hok.o2
    have k2 := hok.s0
    have k3 := hok.g0
    have k4 := hok.c0
    have k5 := hok.gs
    have k6 := hok.so
    have k7 := hok.co
    clear hz hb hok
    go_wp2
    go_ret
    exact ⟨by rw [HZ.out]; rfl, H1.out⟩
set_option maxHeartbeats 2000000 in
theorem lineTransit_grows (l : OLn) (w : World) : Calls Tryz.prog 55 #[.agg #[.string l.partner, .string l.ref, .int .i64 l.no, .string l.item, .int .i64 l.ordered, .int .i64 l.sent, .int .i64 l.got, .int .i64 l.cut]] w fun e w' => e = .returned (.int .i64 (trnT l)) ∧ Grw w w' := by
  obtain ⟨z, hz⟩ : ∃ z, z = trnT l := ⟨_, rfl⟩
  obtain ⟨b, hb⟩ : ∃ b, b = lnB l := ⟨_, rfl⟩
  have Q1 := lineRight_grows l
  rw [← hb] at Q1
  rw [← hz]
  obtain ⟨W0, hW0⟩ : ∃ W0, w.alloc (.cells #[.string l.partner, .string l.ref, .int .i64 l.no, .string l.item, .int .i64 l.ordered, .int .i64 l.sent, .int .i64 l.got, .int .i64 l.cut] 107) = W0 := ⟨_, rfl⟩
  have hb0 : ∀ W, Grw W0 W → Grw w W := fun W h => by rw [← hW0] at h; exact Grw.unallocW h
  have hbx : W0.heap[w.heap.size]? = some (.cells #[.string l.partner, .string l.ref, .int .i64 l.no, .string l.item, .int .i64 l.ordered, .int .i64 l.sent, .int .i64 l.got, .int .i64 l.cut] 107) := by rw [← hW0]; exact World.alloc_heap_new _ _
  go_enter Tryz.func55, Tryz.ntmps55
  go_upto_region 1 with fail
  try rw [hW0]
  clear hW0
  have HC : Hid (∀ W, Below W0.heap.size W0 W → W.cell? ⟨w.heap.size, 0, none⟩ = some (.string l.partner) ∧ W.cell? ⟨w.heap.size, 1, none⟩ = some (.string l.ref) ∧ W.cell? ⟨w.heap.size, 2, none⟩ = some (.int .i64 l.no) ∧ W.cell? ⟨w.heap.size, 3, none⟩ = some (.string l.item) ∧ W.cell? ⟨w.heap.size, 4, none⟩ = some (.int .i64 l.ordered) ∧ W.cell? ⟨w.heap.size, 5, none⟩ = some (.int .i64 l.sent) ∧ W.cell? ⟨w.heap.size, 6, none⟩ = some (.int .i64 l.got) ∧ W.cell? ⟨w.heap.size, 7, none⟩ = some (.int .i64 l.cut)) := fun W hW => box8 ((hW.block _ (Array.getElem?_eq_some_iff.1 hbx).1).trans hbx)
  have HB : Hid (∀ W, Grw W0 W → Grw w W) := hb0
  clear hbx hb0
  obtain ⟨c0, c1, c2, c3, c4, c5, c6, c7⟩ := HC.out W0 (Below.refl _ _)
  go_wp2_with fail
  refine (Q1 _).mono ?_
  rintro e w1 ⟨rfl, hb1⟩
  obtain ⟨d0, d1, d2, d3, d4, d5, d6, d7⟩ := HC.out w1 hb1.below
  have H1 : Hid (Grw w w1) := HB.out _ hb1
  clear hb1 c0 c1 c2 c3 c4 c5 c6 c7
  cases b
  · have HZ : Hid (z = 0) := by show z = 0; rw [hz, trnT_no (lnB_iff'.1 hb.symm)]
    clear hz hb
    go_wp2
    go_ret
    exact ⟨by rw [HZ.out]; rfl, H1.out⟩
  · have hok := lnB_iff.1 hb.symm
    have HZ : Hid (z = l.sent - l.got) := by show z = _; rw [hz, trnT_yes hok]
    have k0 := hok.o1
    have k1 := hok.o2
    have k2 := hok.s0
    have k3 := hok.g0
    have k4 := hok.c0
    have k5 := hok.gs
    have k6 := hok.so
    have k7 := hok.co
    clear hz hb hok
    go_wp2
    go_ret
    exact ⟨by rw [HZ.out]; rfl, H1.out⟩
end Go.Proofs.YtamlhbjcokkmeaaGreatDoor
