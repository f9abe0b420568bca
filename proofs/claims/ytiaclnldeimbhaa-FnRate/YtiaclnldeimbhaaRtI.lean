/- Contract of the program's RateOf. -/
import Derived.Test.YtiaclnldeimbhaaRtP
import Derived.Test.YtiaclnldeimbhaaBkI
namespace Go.Proofs.Ytiaclnldeimbhaa
open Go.ChangeShapes Go.WideShapes Go.ChangeAt Go.RowKit
set_option maxHeartbeats 8000000 in
theorem rateOf_impl (p : Bk) (us ul : Value) (q : ByteArray) (w : World) (h : RBk w us ul p) (hq : q.size ≤ 1048576) : Calls Try.prog 6 #[.agg #[us, ul], .string q] w fun e w' => e = .returned (.int .i64 (rateT p q)) ∧ Below w.heap.size w w' := by
  have hlen := h.ln.len
  obtain ⟨a, c, a', c', rfl, rfl⟩ := h.val
  obtain ⟨W0, hW0⟩ : ∃ W0, w.alloc (.cells #[.slice a p.stocks.length c, .slice a' p.lines.length c'] 26) = W0 := ⟨_, rfl⟩
  have hb0 : Below w.heap.size w W0 := by rw [← hW0]; exact (Below.refl _ _).alloc (Nat.le_refl _) _
  have hbx : W0.heap[w.heap.size]? = some (.cells #[.slice a p.stocks.length c, .slice a' p.lines.length c'] 26) := by rw [← hW0]; exact World.alloc_heap_new _ _
  have H0 : Hid (Below w.heap.size w W0 ∧ RBk W0 (.slice a p.stocks.length c) (.slice a' p.lines.length c') p ∧ W0.heap[w.heap.size]? = some (.cells #[.slice a p.stocks.length c, .slice a' p.lines.length c'] 26)) := ⟨hb0, h.below hb0, hbx⟩
  obtain ⟨c0, c1⟩ := box2 hbx
  have hlt0 := (Array.getElem?_eq_some_iff.1 hbx).1
  clear h hb0 hbx
  go_enter Try.func6, Try.ntmps6
  go_upto_region 1 with fail
  try rw [hW0]
  clear hW0
  by_cases l1 : 20000 < q.size
  · have l1' : (20000 : Int) < (q.size : Int) := by omega
    have HN : Hid (rateT p q = 0) := rateT_long l1
    go_wp2
    go_ret
    exact ⟨by rw [HN.out]; rfl, H0.out.1⟩
  have l1' : ¬ (20000 : Int) < (q.size : Int) := by omega
  obtain ⟨x, hx⟩ : ∃ x, x = bkB p := ⟨_, rfl⟩
  have HX : Hid (x = bkB p) := hx
  have Q1 := fun W h => bookRight_impl p (.slice a p.stocks.length c) (.slice a' p.lines.length c') W h
  rw [← hx] at Q1
  clear hx
  go_wp2_with fail
  refine (Q1 _ H0.out.2.1).mono ?_
  rintro e w1 ⟨rfl, hb1⟩
  have H1 : Hid (Below w.heap.size w w1 ∧ RowOl w1 (.slice a' p.lines.length c') p.lines ∧ w1.heap[w.heap.size]? = some (.cells #[.slice a p.stocks.length c, .slice a' p.lines.length c'] 26)) := ⟨H0.out.1.trans (hb1.mono H0.out.1.size), (H0.out.2.1.below hb1).ln, (hb1.block _ hlt0).trans H0.out.2.2⟩
  have hlt1 := (Array.getElem?_eq_some_iff.1 H1.out.2.2).1
  obtain ⟨d0, d1⟩ := box2 H1.out.2.2
  clear hb1 c0 c1 Q1 d0
  cases x with
  | false =>
    have HN : Hid (rateT p q = -1) := rateT_no l1 HX.out.symm
    go_wp2
    go_ret
    exact ⟨by rw [HN.out]; rfl, H1.out.1⟩
  | true =>
    have hR := (bkB_iff.1 HX.out.symm).2
    have hl := hR.len
    have HK : Hid (∀ l ∈ p.lines, LnOk l) := hR.ok
    have HN : Hid (rateT p q = quoT (gotS q p.lines) (ordS q p.lines)) := rateT_yes l1 HX.out.symm
    clear hR
    obtain ⟨rs, hrs⟩ : ∃ rs, rs = p.lines := ⟨_, rfl⟩
    rw [← hrs] at hl hlen d1
    have HR : Hid (rs = p.lines) := hrs
    have HRow : Hid (RowOl w1 (.slice a' rs.length c') rs) := by rw [hrs]; exact H1.out.2.1
    have HB1 : Hid (∀ W, Below w1.heap.size w1 W → W.cell? ⟨w.heap.size, 1, none⟩ = some (.slice a' rs.length c')) := fun W hW => by
      have := (hW.block _ hlt1).trans H1.out.2.2
      rw [← HR.out] at this
      exact (box2 this).2
    clear hrs
    go_wp2_with fail
    go_loopw [5, 6, 18] (fun y z ix wr => ∃ (k : Nat) (g o : Int), ix = .int .i64 (k : Int) ∧ y = .int .i64 g ∧ z = .int .i64 o ∧ k ≤ rs.length ∧ 0 ≤ g ∧ g ≤ 1000000 * (k : Int) ∧ 0 ≤ o ∧ o ≤ 1000000 * (k : Int) ∧ (g = sumL OLn.got (prK q rs k) ∧ o = sumL OLn.ordered (prK q rs k)) ∧ Below w1.heap.size w1 wr) (fun _ _ ix _ => rs.length - (intOf ix).toNat)
    case atStart => exact ⟨0, 0, 0, rfl, rfl, rfl, by omega, by omega, by omega, by omega, by omega, ⟨by simp [prK, sumL], by simp [prK, sumL]⟩, Below.refl _ _⟩
    case round =>
      obtain ⟨k, g, o, rfl, rfl, rfl, hk, hg0, hg1, ho0, ho1, hse, hb⟩ := hrel
      have HE : Hid ((g = sumL OLn.got (prK q rs k) ∧ o = sumL OLn.ordered (prK q rs k)) ∧ Below w1.heap.size w1 wr) := ⟨hse, hb⟩
      have d1 := HB1.out wr hb
      clear hse
      by_cases hlt : k < rs.length
      · have hlt' : (k : Int) < (rs.length : Int) := by omega
        obtain ⟨b, of, cap', l, e, hs, hat, hz⟩ := (HRow.out.below hb).at hlt
        simp only [Value.slice.injEq, true_and] at e
        obtain ⟨rfl, rfl⟩ := e
        have HS : Hid (rs[k]? = some l) := hs
        have hok := HK.out l (by rw [← HR.out]; exact List.mem_of_getElem? hs)
        have m0 := hok.g0
        have m1 : l.got ≤ 1000000 := by have := hok.gs; have := hok.so; have := hok.o2; omega
        have m2 : 0 ≤ l.ordered := by have := hok.o1; omega
        have m3 := hok.o2
        obtain ⟨q0, q1, q2, q3, q4, q5, q6, q7⟩ := hat
        clear hs hz hok hb
        have hsz := HE.out.2.size
        obtain ⟨W1, hW1⟩ : ∃ W1, wr.alloc (.cells #[.string l.partner, .string l.ref, .int .i64 l.no, .string l.item, .int .i64 l.ordered, .int .i64 l.sent, .int .i64 l.got, .int .i64 l.cut] 32) = W1 := ⟨_, rfl⟩
        obtain ⟨P, hP⟩ : ∃ P, P = wr.heap.size := ⟨_, rfl⟩
        have hbx : W1.heap[P]? = some (.cells #[.string l.partner, .string l.ref, .int .i64 l.no, .string l.item, .int .i64 l.ordered, .int .i64 l.sent, .int .i64 l.got, .int .i64 l.cut] 32) := by rw [← hW1, hP]; exact World.alloc_heap_new _ _
        have HB : Hid (Below w1.heap.size w1 W1) := by rw [← hW1]; exact HE.out.2.alloc hsz _
        have HW : Hid (wr.alloc (.cells #[.string l.partner, .string l.ref, .int .i64 l.no, .string l.item, .int .i64 l.ordered, .int .i64 l.sent, .int .i64 l.got, .int .i64 l.cut] 32) = W1 ∧ P = wr.heap.size) := ⟨hW1, hP⟩
        clear hW1 hP
        go_upto_region 9 with fail
        rw [HW.out.1, ← HW.out.2]
        obtain ⟨c0, c1, c2, c3, c4, c5, c6, c7⟩ := box8 hbx
        clear q0 q1 q2 q3 q4 q5 q6 q7 hbx HW
        cases e1 : (l.partner.toList == q.toList) with
        | false =>
          have HZ : Hid (prK q rs (k + 1) = prK q rs k) := prK_no HS.out e1
          go_wp2
          go_roundw
          case rel => exact ⟨k + 1, g, o, by go_num, rfl, rfl, by omega, by omega, by omega, by omega, by omega, by rw [HZ.out]; exact HE.out.1, HB.out⟩
          case measure => simp [intOf]; omega
        | true =>
          have HZ : Hid (prK q rs (k + 1) = prK q rs k ++ [l]) := prK_yes HS.out e1
          go_wp2
          go_roundw
          case rel => exact ⟨k + 1, g + l.got, o + l.ordered, by go_num, by go_num, by go_num, by omega, by omega, by omega, by omega, by omega, by rw [HZ.out, sumL_one, sumL_one, ← HE.out.1.1, ← HE.out.1.2]; exact ⟨rfl, rfl⟩, HB.out⟩
          case measure => simp [intOf]; omega
      · obtain rfl : k = rs.length := by omega
        have HT : Hid (rateT p q = quoT g o) := by
          show _ = _
          rw [HN.out, HE.out.1.1, HE.out.1.2, prK_all, HR.out]
          rfl
        clear hb
        by_cases hz : o = 0
        · subst hz
          go_wp2
          go_ret
          exact ⟨by rw [HT.out, quoT_no]; rfl, H1.out.1.trans (HE.out.2.mono H1.out.1.size)⟩
        · have ho2 : 1 ≤ o := by omega
          have hz' : (o == 0) = false := by simp [hz]
          have HQ : Hid (rateT p q = 100 * g / o) := HT.out.trans (quoT_yes hz)
          have hd0 : 0 ≤ 100 * g / o := Int.ediv_nonneg (by omega) (by omega)
          have hd1 : 100 * g / o ≤ 100 * g := Int.ediv_le_self _ (by omega)
          go_wp2
          go_ret
          refine ⟨?_, H1.out.1.trans (HE.out.2.mono H1.out.1.size)⟩
          rw [HQ.out]
          first | rfl | go_num
end Go.Proofs.Ytiaclnldeimbhaa
