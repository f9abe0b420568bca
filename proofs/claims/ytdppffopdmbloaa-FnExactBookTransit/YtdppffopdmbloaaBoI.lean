/- Contracts of the program's linesOf, sumOf, BookOrdered and BookTransit. -/
import Derived.Test.YtdppffopdmbloaaBoL
namespace Go.Proofs.Ytdppffopdmbloaa
open Go.ChangeShapes Go.WideShapes Go.ChangeAt Go.RowKit
theorem right_all {rs : List OLn} (h : RightL rs) (k : Nat) (l : OLn) (hk : rs[k]? = some l) : LnOk l := (h.at_ k l hk).ok
/-- What linesOf tells. -/
noncomputable def linesT (p : Bk) (q i : ByteArray) : List OLn := if bkB p = true then p.lines.filter (ofB q i) else []
theorem linesT_no {p : Bk} {q i : ByteArray} (h : bkB p = false) : linesT p q i = [] := by simp [linesT, h]
theorem linesT_yes {p : Bk} {q i : ByteArray} (h : bkB p = true) : linesT p q i = p.lines.filter (ofB q i) := by simp [linesT, h]
set_option maxHeartbeats 8000000 in
theorem linesOf_any (p : Bk) (us ul : Value) (q i : ByteArray) (w : World) (h : RBk w us ul p) : Calls Try.prog 30 #[.agg #[us, ul], .string q, .string i] w fun e w' => ∃ v, e = .returned v ∧ RowOl w' v (linesT p q i) ∧ Below w.heap.size w w' := by
  have hlen := h.ln.len
  obtain ⟨a, c, a', c', rfl, rfl⟩ := h.val
  obtain ⟨W0, hW0⟩ : ∃ W0, w.alloc (.cells #[.slice a p.stocks.length c, .slice a' p.lines.length c'] 26) = W0 := ⟨_, rfl⟩
  have hb0 : Below w.heap.size w W0 := by rw [← hW0]; exact (Below.refl _ _).alloc (Nat.le_refl _) _
  have hbx : W0.heap[w.heap.size]? = some (.cells #[.slice a p.stocks.length c, .slice a' p.lines.length c'] 26) := by rw [← hW0]; exact World.alloc_heap_new _ _
  have H0 : Hid (Below w.heap.size w W0 ∧ RBk W0 (.slice a p.stocks.length c) (.slice a' p.lines.length c') p ∧ W0.heap[w.heap.size]? = some (.cells #[.slice a p.stocks.length c, .slice a' p.lines.length c'] 26)) := ⟨hb0, h.below hb0, hbx⟩
  obtain ⟨c0, c1⟩ := box2 hbx
  have hlt0 := (Array.getElem?_eq_some_iff.1 hbx).1
  clear h hb0 hbx
  go_enter Try.func30, Try.ntmps30
  go_upto_region 1 with fail
  try rw [hW0]
  clear hW0
  obtain ⟨x, hx⟩ : ∃ x, x = bkB p := ⟨_, rfl⟩
  have HX : Hid (x = bkB p) := hx
  have Q1 := fun W h => bookRight_impl p (.slice a p.stocks.length c) (.slice a' p.lines.length c') W h
  rw [← hx] at Q1
  clear hx
  go_wp2_with fail
  refine (Q1 _ H0.out.2.1).mono ?_
  rintro e w1 ⟨rfl, hb1⟩
  have H1 : Hid (Below w.heap.size w w1 ∧ RowOl w1 (.slice a' p.lines.length c') p.lines) := ⟨H0.out.1.trans (hb1.mono H0.out.1.size), (H0.out.2.1.below hb1).ln⟩
  obtain ⟨d0, d1⟩ := box2 ((hb1.block _ hlt0).trans H0.out.2.2)
  clear hb1 c0 c1 Q1
  cases x with
  | false =>
    have HN : Hid (linesT p q i = []) := linesT_no HX.out.symm
    go_wp2
    go_ret
    exact ⟨_, rfl, by rw [HN.out]; exact RowOl.nil _, H1.out.1⟩
  | true =>
    have hR := (bkB_iff.1 HX.out.symm).2
    have hl := hR.len
    have HN : Hid (linesT p q i = p.lines.filter (ofB q i)) := linesT_yes HX.out.symm
    have HK : Hid (∀ l ∈ p.lines, LnOk l) := hR.ok
    clear hR
    obtain ⟨rs, hrs⟩ : ∃ rs, rs = p.lines := ⟨_, rfl⟩
    rw [← hrs] at hl hlen d1
    have HR : Hid (rs = p.lines) := hrs
    have HRow : Hid (RowOl w1 (.slice a' rs.length c') rs) := by rw [hrs]; exact H1.out.2
    have HK2 : Hid (∀ l ∈ rs, LnOk l) := by rw [hrs]; exact HK.out
    clear hrs d0
    go_wp2_with fail
    refine (linesAmong_any _ rs q i _ HRow.out hl HK2.out).mono ?_
    rintro e w2 ⟨v, rfl, hr2, hb2⟩
    have H2 : Hid (RowOl w2 v (linesT p q i) ∧ Below w.heap.size w w2) := ⟨by rw [HN.out, ← HR.out]; exact hr2, H1.out.1.trans (hb2.mono H1.out.1.size)⟩
    clear hr2 hb2
    go_wp2
    go_ret
    exact ⟨_, rfl, H2.out.1, H2.out.2⟩
set_option maxHeartbeats 4000000 in
theorem sumOpen_any (v : Value) (rs : List OLn) (w : World) (h : RowOl w v rs) (hl : rs.length ≤ 200) (hok : ∀ l ∈ rs, LnOk l) : Calls Try.prog 29 #[v, .func (.func 31) #[] #[]] w fun e w' => e = .returned (.int .i64 (sumL opnT rs)) ∧ Below w.heap.size w w' := by
  have hlen := h.len
  obtain ⟨A, C, rfl⟩ := h.val
  have H0 : Hid (RowOl w (.slice A rs.length C) rs ∧ ∀ l ∈ rs, LnOk l) := ⟨h, hok⟩
  clear h hok
  go_enter Try.func29, Try.ntmps29
  go_wp2_with fail
  go_loopw [5, 10] (fun z ix wr => ∃ (k : Nat) (s : Int), ix = .int .i64 (k : Int) ∧ z = .int .i64 s ∧ k ≤ rs.length ∧ 0 ≤ s ∧ s ≤ 1000000 * (k : Int) ∧ s = sumL opnT (rs.take k) ∧ Below w.heap.size w wr) (fun _ ix _ => rs.length - (intOf ix).toNat)
  case atStart => exact ⟨0, 0, rfl, rfl, by omega, by omega, by omega, by simp [sumL], Below.refl _ _⟩
  case round =>
    obtain ⟨k, s, rfl, rfl, hk, hs0, hs1, hse, hb⟩ := hrel
    have HE : Hid (s = sumL opnT (rs.take k) ∧ Below w.heap.size w wr) := ⟨hse, hb⟩
    clear hse
    by_cases hlt : k < rs.length
    · have hlt' : (k : Int) < (rs.length : Int) := by omega
      obtain ⟨b, o, cap', l, e, hs, hat, hz⟩ := (H0.out.1.below hb).at hlt
      simp only [Value.slice.injEq, true_and] at e
      obtain ⟨rfl, rfl⟩ := e
      have HS : Hid (rs[k]? = some l) := hs
      have hok := H0.out.2 l (List.mem_of_getElem? hs)
      obtain ⟨q0, q1, q2, q3, q4, q5, q6, q7⟩ := hat
      have Q1 := open_any l hok
      rw [← opnT_yes hok] at Q1
      obtain ⟨f, hf⟩ : ∃ f, f = opnT l := ⟨_, rfl⟩
      have hfb := opnT_bound l
      rw [← hf] at Q1 hfb
      obtain ⟨hf0, hf1⟩ := hfb
      have HF : Hid (f = opnT l) := hf
      clear hs hz hok hf hb
      have hbx : Below w.heap.size w (wr.alloc (.cells #[.string l.partner, .string l.ref, .int .i64 l.no, .string l.item, .int .i64 l.ordered, .int .i64 l.sent, .int .i64 l.got, .int .i64 l.cut] 32)) := HE.out.2.alloc HE.out.2.size _
      have HB : Hid (Below w.heap.size w (wr.alloc (.cells #[.string l.partner, .string l.ref, .int .i64 l.no, .string l.item, .int .i64 l.ordered, .int .i64 l.sent, .int .i64 l.got, .int .i64 l.cut] 32))) := hbx
      clear hbx
      go_wp2_with fail
      refine (Q1 _).mono ?_
      rintro e w2 ⟨rfl, hb2⟩
      have H2 : Hid (Below w.heap.size w w2) := HB.out.trans (hb2.mono HB.out.size)
      clear hb2 Q1
      go_wp2
      go_roundw
      case rel =>
        refine ⟨k + 1, s + f, by go_num, by go_num, by omega, by omega, by omega, ?_, H2.out⟩
        rw [List.take_add_one, HS.out, sumL_app, HE.out.1, HF.out]
        simp [sumL]
      case measure => simp [intOf]; omega
    · obtain rfl : k = rs.length := by omega
      have HS : Hid (s = sumL opnT rs) := by have := HE.out.1; rw [List.take_length] at this; exact this
      clear hb
      go_wp2
      go_ret
      exact ⟨by rw [← HS.out]; rfl, HE.out.2⟩
set_option maxHeartbeats 4000000 in
theorem sumTransit_any (v : Value) (rs : List OLn) (w : World) (h : RowOl w v rs) (hl : rs.length ≤ 200) (hok : ∀ l ∈ rs, LnOk l) : Calls Try.prog 29 #[v, .func (.func 35) #[] #[]] w fun e w' => e = .returned (.int .i64 (sumL trnT rs)) ∧ Below w.heap.size w w' := by
  have hlen := h.len
  obtain ⟨A, C, rfl⟩ := h.val
  have H0 : Hid (RowOl w (.slice A rs.length C) rs ∧ ∀ l ∈ rs, LnOk l) := ⟨h, hok⟩
  clear h hok
  go_enter Try.func29, Try.ntmps29
  go_wp2_with fail
  go_loopw [5, 10] (fun z ix wr => ∃ (k : Nat) (s : Int), ix = .int .i64 (k : Int) ∧ z = .int .i64 s ∧ k ≤ rs.length ∧ 0 ≤ s ∧ s ≤ 1000000 * (k : Int) ∧ s = sumL trnT (rs.take k) ∧ Below w.heap.size w wr) (fun _ ix _ => rs.length - (intOf ix).toNat)
  case atStart => exact ⟨0, 0, rfl, rfl, by omega, by omega, by omega, by simp [sumL], Below.refl _ _⟩
  case round =>
    obtain ⟨k, s, rfl, rfl, hk, hs0, hs1, hse, hb⟩ := hrel
    have HE : Hid (s = sumL trnT (rs.take k) ∧ Below w.heap.size w wr) := ⟨hse, hb⟩
    clear hse
    by_cases hlt : k < rs.length
    · have hlt' : (k : Int) < (rs.length : Int) := by omega
      obtain ⟨b, o, cap', l, e, hs, hat, hz⟩ := (H0.out.1.below hb).at hlt
      simp only [Value.slice.injEq, true_and] at e
      obtain ⟨rfl, rfl⟩ := e
      have HS : Hid (rs[k]? = some l) := hs
      have hok := H0.out.2 l (List.mem_of_getElem? hs)
      obtain ⟨q0, q1, q2, q3, q4, q5, q6, q7⟩ := hat
      have Q1 := transit_any l hok
      rw [← trnT_yes hok] at Q1
      obtain ⟨f, hf⟩ : ∃ f, f = trnT l := ⟨_, rfl⟩
      have hfb := trnT_bound l
      rw [← hf] at Q1 hfb
      obtain ⟨hf0, hf1⟩ := hfb
      have HF : Hid (f = trnT l) := hf
      clear hs hz hok hf hb
      have hbx : Below w.heap.size w (wr.alloc (.cells #[.string l.partner, .string l.ref, .int .i64 l.no, .string l.item, .int .i64 l.ordered, .int .i64 l.sent, .int .i64 l.got, .int .i64 l.cut] 32)) := HE.out.2.alloc HE.out.2.size _
      have HB : Hid (Below w.heap.size w (wr.alloc (.cells #[.string l.partner, .string l.ref, .int .i64 l.no, .string l.item, .int .i64 l.ordered, .int .i64 l.sent, .int .i64 l.got, .int .i64 l.cut] 32))) := hbx
      clear hbx
      go_wp2_with fail
      refine (Q1 _).mono ?_
      rintro e w2 ⟨rfl, hb2⟩
      have H2 : Hid (Below w.heap.size w w2) := HB.out.trans (hb2.mono HB.out.size)
      clear hb2 Q1
      go_wp2
      go_roundw
      case rel =>
        refine ⟨k + 1, s + f, by go_num, by go_num, by omega, by omega, by omega, ?_, H2.out⟩
        rw [List.take_add_one, HS.out, sumL_app, HE.out.1, HF.out]
        simp [sumL]
      case measure => simp [intOf]; omega
    · obtain rfl : k = rs.length := by omega
      have HS : Hid (s = sumL trnT rs) := by have := HE.out.1; rw [List.take_length] at this; exact this
      clear hb
      go_wp2
      go_ret
      exact ⟨by rw [← HS.out]; rfl, HE.out.2⟩
set_option maxHeartbeats 4000000 in
theorem bookOrdered_impl (p : Bk) (us ul : Value) (q i : ByteArray) (w : World) (h : RBk w us ul p) (_hq : q.size ≤ 1048576) (_hi : i.size ≤ 1048576) : Calls Try.prog 13 #[.agg #[us, ul], .string q, .string i] w fun e w' => e = .returned (.int .i64 (sumT opnT p q i)) ∧ Below w.heap.size w w' := by
  obtain ⟨a, c, a', c', rfl, rfl⟩ := h.val
  obtain ⟨W0, hW0⟩ : ∃ W0, w.alloc (.cells #[.slice a p.stocks.length c, .slice a' p.lines.length c'] 26) = W0 := ⟨_, rfl⟩
  have hb0 : Below w.heap.size w W0 := by rw [← hW0]; exact (Below.refl _ _).alloc (Nat.le_refl _) _
  have hbx : W0.heap[w.heap.size]? = some (.cells #[.slice a p.stocks.length c, .slice a' p.lines.length c'] 26) := by rw [← hW0]; exact World.alloc_heap_new _ _
  have H0 : Hid (Below w.heap.size w W0 ∧ RBk W0 (.slice a p.stocks.length c) (.slice a' p.lines.length c') p ∧ W0.heap[w.heap.size]? = some (.cells #[.slice a p.stocks.length c, .slice a' p.lines.length c'] 26)) := ⟨hb0, h.below hb0, hbx⟩
  obtain ⟨c0, c1⟩ := box2 hbx
  have hlt0 := (Array.getElem?_eq_some_iff.1 hbx).1
  clear h hb0 hbx
  go_enter Try.func13, Try.ntmps13
  go_upto_region 1 with fail
  try rw [hW0]
  clear hW0
  have Q1 := linesOf_any p (.slice a p.stocks.length c) (.slice a' p.lines.length c') q i W0 H0.out.2.1
  obtain ⟨rs, hrs⟩ : ∃ rs, rs = linesT p q i := ⟨_, rfl⟩
  have HT : Hid (sumT opnT p q i = sumL opnT rs) := by
    show _ = _
    rw [hrs]
    unfold sumT linesT
    split <;> rfl
  have hlr : rs.length ≤ 200 ∧ ∀ l ∈ rs, LnOk l := by
    rw [hrs]
    unfold linesT
    split
    · rename_i hb
      have hR := (bkB_iff.1 hb).2
      exact ⟨Nat.le_trans (List.length_filter_le _ _) hR.len, fun l hl => hR.ok l (List.mem_filter.1 hl).1⟩
    · exact ⟨by simp, fun l hl => by cases hl⟩
  rw [← hrs] at Q1
  have HL : Hid (rs.length ≤ 200 ∧ ∀ l ∈ rs, LnOk l) := hlr
  clear hlr hrs
  go_wp2_with fail
  refine Q1.mono ?_
  rintro e w1 ⟨v, rfl, hr1, hb1⟩
  obtain ⟨A2, C2, rfl⟩ := hr1.val
  have H1 : Hid (Below w.heap.size w w1 ∧ RowOl w1 (.slice A2 rs.length C2) rs) := ⟨H0.out.1.trans (hb1.mono H0.out.1.size), hr1⟩
  clear hr1 hb1 Q1
  go_wp2_with fail
  refine (sumOpen_any _ rs _ H1.out.2 HL.out.1 HL.out.2).mono ?_
  rintro e w2 ⟨rfl, hb2⟩
  have H2 : Hid (Below w.heap.size w w2) := H1.out.1.trans (hb2.mono H1.out.1.size)
  clear hb2
  go_wp2
  go_ret
  exact ⟨by rw [HT.out]; rfl, H2.out⟩
set_option maxHeartbeats 4000000 in
theorem bookTransit_impl (p : Bk) (us ul : Value) (q i : ByteArray) (w : World) (h : RBk w us ul p) (_hq : q.size ≤ 1048576) (_hi : i.size ≤ 1048576) : Calls Try.prog 16 #[.agg #[us, ul], .string q, .string i] w fun e w' => e = .returned (.int .i64 (sumT trnT p q i)) ∧ Below w.heap.size w w' := by
  obtain ⟨a, c, a', c', rfl, rfl⟩ := h.val
  obtain ⟨W0, hW0⟩ : ∃ W0, w.alloc (.cells #[.slice a p.stocks.length c, .slice a' p.lines.length c'] 26) = W0 := ⟨_, rfl⟩
  have hb0 : Below w.heap.size w W0 := by rw [← hW0]; exact (Below.refl _ _).alloc (Nat.le_refl _) _
  have hbx : W0.heap[w.heap.size]? = some (.cells #[.slice a p.stocks.length c, .slice a' p.lines.length c'] 26) := by rw [← hW0]; exact World.alloc_heap_new _ _
  have H0 : Hid (Below w.heap.size w W0 ∧ RBk W0 (.slice a p.stocks.length c) (.slice a' p.lines.length c') p ∧ W0.heap[w.heap.size]? = some (.cells #[.slice a p.stocks.length c, .slice a' p.lines.length c'] 26)) := ⟨hb0, h.below hb0, hbx⟩
  obtain ⟨c0, c1⟩ := box2 hbx
  have hlt0 := (Array.getElem?_eq_some_iff.1 hbx).1
  clear h hb0 hbx
  go_enter Try.func16, Try.ntmps16
  go_upto_region 1 with fail
  try rw [hW0]
  clear hW0
  have Q1 := linesOf_any p (.slice a p.stocks.length c) (.slice a' p.lines.length c') q i W0 H0.out.2.1
  obtain ⟨rs, hrs⟩ : ∃ rs, rs = linesT p q i := ⟨_, rfl⟩
  have HT : Hid (sumT trnT p q i = sumL trnT rs) := by
    show _ = _
    rw [hrs]
    unfold sumT linesT
    split <;> rfl
  have hlr : rs.length ≤ 200 ∧ ∀ l ∈ rs, LnOk l := by
    rw [hrs]
    unfold linesT
    split
    · rename_i hb
      have hR := (bkB_iff.1 hb).2
      exact ⟨Nat.le_trans (List.length_filter_le _ _) hR.len, fun l hl => hR.ok l (List.mem_filter.1 hl).1⟩
    · exact ⟨by simp, fun l hl => by cases hl⟩
  rw [← hrs] at Q1
  have HL : Hid (rs.length ≤ 200 ∧ ∀ l ∈ rs, LnOk l) := hlr
  clear hlr hrs
  go_wp2_with fail
  refine Q1.mono ?_
  rintro e w1 ⟨v, rfl, hr1, hb1⟩
  obtain ⟨A2, C2, rfl⟩ := hr1.val
  have H1 : Hid (Below w.heap.size w w1 ∧ RowOl w1 (.slice A2 rs.length C2) rs) := ⟨H0.out.1.trans (hb1.mono H0.out.1.size), hr1⟩
  clear hr1 hb1 Q1
  go_wp2_with fail
  refine (sumTransit_any _ rs _ H1.out.2 HL.out.1 HL.out.2).mono ?_
  rintro e w2 ⟨rfl, hb2⟩
  have H2 : Hid (Below w.heap.size w w2) := H1.out.1.trans (hb2.mono H1.out.1.size)
  clear hb2
  go_wp2
  go_ret
  exact ⟨by rw [HT.out]; rfl, H2.out⟩
end Go.Proofs.Ytdppffopdmbloaa
