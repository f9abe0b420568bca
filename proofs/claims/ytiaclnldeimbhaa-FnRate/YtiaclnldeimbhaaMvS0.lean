/- Contract of the model's l10Move. -/
import Derived.Test.YtiaclnldeimbhaaMvT
namespace Go.Proofs.Ytiaclnldeimbhaa
open Go.ChangeShapes Go.WideShapes Go.ChangeAt Go.RowKit
set_option maxRecDepth 20000 in
set_option maxHeartbeats 16000000 in
theorem l10Move_any (p : Bk) (us ul : Value) (t : ByteArray) (z : Int) (w : World) (h : RBk w us ul p) (hP : BdBk 1048576 p) (ht : t.size ≤ 1048576) : Calls Try.prog 29 #[.agg #[us, ul], .string t, .int .i64 z] w (MvOut p t z w) := by
  obtain ⟨a, c, a', c', rfl, rfl⟩ := h.val
  have hlen := h.st.len
  obtain ⟨j0, hj0i, hi0, hi1, hi2⟩ := info_parts infoStA
  obtain ⟨W0, hW0⟩ : ∃ W0, (w.alloc (.cells #[.slice a p.stocks.length c, .slice a' p.lines.length c'] 26)).alloc (.cells #[.slice none 0 0, .slice none 0 0] 26) = W0 := ⟨_, rfl⟩
  have hb0 : Below w.heap.size w W0 := by rw [← hW0]; exact ((Below.refl _ _).alloc (Nat.le_refl _) _).alloc (by simp) _
  obtain ⟨x0, x1⟩ := fl_two w (.cells #[.slice a p.stocks.length c, .slice a' p.lines.length c'] 26) (.cells #[.slice none 0 0, .slice none 0 0] 26)
  rw [hW0] at x0 x1
  have hs0 : W0.heap.size = w.heap.size + 2 := by rw [← hW0]; simp
  have H0 : Hid (Below w.heap.size w W0 ∧ RBk W0 (.slice a p.stocks.length c) (.slice a' p.lines.length c') p ∧ W0.heap[w.heap.size]? = some (.cells #[.slice a p.stocks.length c, .slice a' p.lines.length c'] 26) ∧ W0.heap[w.heap.size + 1]? = some (.cells #[.slice none 0 0, .slice none 0 0] 26) ∧ BdBk 1048576 p ∧ W0.heap.size = w.heap.size + 2) := ⟨hb0, h.below hb0, x0, x1, hP, hs0⟩
  obtain ⟨c0, c1⟩ := box2 x0
  have hRw : Hid (RBk w (.slice a p.stocks.length c) (.slice a' p.lines.length c') p) := h
  clear h hb0 x0 x1 hP hs0
  go_enter Try.func29, Try.ntmps29
  go_upto_region 1 with fail
  try rw [hW0]
  clear hW0
  go_wp2_with fail
  refine (l10Copy_any p _ _ _ H0.out.2.1 H0.out.2.2.2.2.1).mono ?_
  rintro e w1 ⟨us1, ul1, rfl, ho1, ho2, hb1⟩
  obtain ⟨A1, C1, rfl⟩ := own_val ho1
  obtain ⟨A2, C2, rfl⟩ := own_val ho2
  obtain ⟨B8, hB8⟩ : ∃ B8, B8 = w1.heap.size := ⟨_, rfl⟩
  obtain ⟨Wb, hWb⟩ : ∃ Wb, w1.alloc (.cells #[.slice A1 p.stocks.length C1, .slice A2 p.lines.length C2] 26) = Wb := ⟨_, rfl⟩
  have hbW : Below w1.heap.size w1 Wb := by rw [← hWb]; exact (Below.refl _ _).alloc (Nat.le_refl _) _
  have s1 := hb1.size
  have s0 := H0.out.2.2.2.2.2
  have HQ0 : Hid (QL w Wb (.cells #[.slice a p.stocks.length c, .slice a' p.lines.length c'] 26) B8 (.slice A1 p.stocks.length C1) (.slice A2 p.lines.length C2) p.stocks p.lines) := by
    have q0 := (hb1.block _ (by omega)).trans H0.out.2.2.1
    have q1 := (hb1.block _ (by omega)).trans H0.out.2.2.2.1
    refine ⟨(H0.out.1.trans (hb1.mono H0.out.1.size)).trans (hbW.mono (by have := H0.out.1.size; omega)), (hbW.block _ (by omega)).trans q0, (hbW.block _ (by omega)).trans q1, ?_, ownsRow_dn (own_below ho1 hbW) (by omega), ownsRow_dn (own_below ho2 hbW) (by omega), by omega⟩
    rw [hB8, ← hWb]
    exact World.alloc_heap_new _ _
  have HWB : Hid (w1.alloc (.cells #[.slice A1 p.stocks.length C1, .slice A2 p.lines.length C2] 26) = Wb ∧ B8 = w1.heap.size) := ⟨hWb, hB8⟩
  clear ho1 ho2 hbW hb1 c0 c1 hWb hB8 s1 s0
  go_upto_region 2 with fail
  try rw [HWB.out.1]
  try rw [← HWB.out.2]
  clear HWB
  obtain ⟨c0, c1⟩ := box2 HQ0.out.arg
  obtain ⟨x, hx⟩ : ∃ x, x = bkB p := ⟨_, rfl⟩
  have HX : Hid (x = bkB p) := hx
  have Q1 := fun W h => bookRight_spec p (.slice a p.stocks.length c) (.slice a' p.lines.length c') W h
  rw [← hx] at Q1
  clear hx
  go_wp2_with fail
  refine (Q1 _ (hRw.out.below HQ0.out.bel)).mono ?_
  rintro e w2 ⟨rfl, hb2⟩
  have HQ2 : Hid (QL w w2 (.cells #[.slice a p.stocks.length c, .slice a' p.lines.length c'] 26) B8 (.slice A1 p.stocks.length C1) (.slice A2 p.lines.length C2) p.stocks p.lines) := HQ0.out.below hb2
  clear hb2 c0 c1 Q1 HQ0
  have Q2 := l01Name_any t
  obtain ⟨y, hy⟩ : ∃ y, y = nameB t := ⟨_, rfl⟩
  have HY : Hid (y = nameB t) := hy
  rw [← hy] at Q2
  clear hy
  cases x with
  | false =>
    have HN : Hid ((movT p t z).stocks = p.stocks ∧ (false = true ↔ MvOk p t z)) := mv_same fun g => by have h1 := HX.out; rw [g.right] at h1; cases h1
    obtain ⟨z0, z1⟩ := box2 HQ2.out.res
    have zf := frz2 HQ2.out.res
    obtain ⟨y0, y1⟩ := box2 HQ2.out.box
    go_wp2_with (first | (go_at_call 18; refine (Q2 _).mono ?_; rintro e w2 ⟨rfl, rfl⟩))
    obtain ⟨k1, k2, k3⟩ := HQ2.out.done
    refine bodyPost_ret (v := .tuple #[.agg #[.slice A1 p.stocks.length C1, .slice A2 p.lines.length C2], .bool false]) (by simp [results, Try.results29, go_sem, z0, z1]) rfl ?_
    exact MvOut.mk rfl (by rw [HN.out.1]; exact k2) k3 k1 HN.out.2
  | true =>
  cases y with
  | false =>
    have HN : Hid ((movT p t z).stocks = p.stocks ∧ (false = true ↔ MvOk p t z)) := mv_same fun g => by have h1 := HY.out; rw [g.nm] at h1; cases h1
    obtain ⟨z0, z1⟩ := box2 HQ2.out.res
    have zf := frz2 HQ2.out.res
    obtain ⟨y0, y1⟩ := box2 HQ2.out.box
    go_wp2_with (first | (go_at_call 18; refine (Q2 _).mono ?_; rintro e w2 ⟨rfl, rfl⟩))
    obtain ⟨k1, k2, k3⟩ := HQ2.out.done
    refine bodyPost_ret (v := .tuple #[.agg #[.slice A1 p.stocks.length C1, .slice A2 p.lines.length C2], .bool false]) (by simp [results, Try.results29, go_sem, z0, z1]) rfl ?_
    exact MvOut.mk rfl (by rw [HN.out.1]; exact k2) k3 k1 HN.out.2
  | true =>
  have hbd := handT_bound p t
  obtain ⟨hd, hhd⟩ : ∃ hd, hd = handT p t := ⟨_, rfl⟩
  rw [← hhd] at hbd
  obtain ⟨hd0, hd1⟩ := hbd
  have HH : Hid (hd = handT p t) := hhd
  have Q3 := fun W h => bookHand_spec p (.slice a p.stocks.length c) (.slice a' p.lines.length c') t W h ht
  rw [← hhd] at Q3
  clear hhd
  by_cases hz1 : z < -1000000000
  · clear Q3
    have HN : Hid ((movT p t z).stocks = p.stocks ∧ (false = true ↔ MvOk p t z)) := mv_same fun g => by have h1 := g.lo; rw [← HH.out] at h1; omega
    obtain ⟨z0, z1⟩ := box2 HQ2.out.res
    have zf := frz2 HQ2.out.res
    obtain ⟨y0, y1⟩ := box2 HQ2.out.box
    go_wp2_with (first | (go_at_call 18; refine (Q2 _).mono ?_; rintro e w2 ⟨rfl, rfl⟩))
    obtain ⟨k1, k2, k3⟩ := HQ2.out.done
    refine bodyPost_ret (v := .tuple #[.agg #[.slice A1 p.stocks.length C1, .slice A2 p.lines.length C2], .bool false]) (by simp [results, Try.results29, go_sem, z0, z1]) rfl ?_
    exact MvOut.mk rfl (by rw [HN.out.1]; exact k2) k3 k1 HN.out.2
  by_cases hz2 : 1000000000 < z
  · clear Q3
    have HN : Hid ((movT p t z).stocks = p.stocks ∧ (false = true ↔ MvOk p t z)) := mv_same fun g => by have h1 := g.hi; rw [← HH.out] at h1; omega
    obtain ⟨z0, z1⟩ := box2 HQ2.out.res
    have zf := frz2 HQ2.out.res
    obtain ⟨y0, y1⟩ := box2 HQ2.out.box
    go_wp2_with (first | (go_at_call 18; refine (Q2 _).mono ?_; rintro e w2 ⟨rfl, rfl⟩))
    obtain ⟨k1, k2, k3⟩ := HQ2.out.done
    refine bodyPost_ret (v := .tuple #[.agg #[.slice A1 p.stocks.length C1, .slice A2 p.lines.length C2], .bool false]) (by simp [results, Try.results29, go_sem, z0, z1]) rfl ?_
    exact MvOut.mk rfl (by rw [HN.out.1]; exact k2) k3 k1 HN.out.2
  have hR := (bkB_iff.1 HX.out.symm).1
  have hln := hR.len
  have HRR : Hid (RiseS p.stocks) := hR.rise'
  clear hR
  obtain ⟨y0, y1⟩ := box2 HQ2.out.box
  go_upto_region 5 with (first | (go_at_call 18; refine (Q2 _).mono ?_; rintro e w2 ⟨rfl, rfl⟩))
  clear Q2 y0 y1
  obtain ⟨W9, hW9⟩ : ∃ W9, w2.alloc (.cells #[.slice none 0 0, .slice A2 p.lines.length C2] 26) = W9 := ⟨_, rfl⟩
  obtain ⟨B, hB⟩ : ∃ B, B = w2.heap.size := ⟨_, rfl⟩
  have hb9 : Below w2.heap.size w2 W9 := by rw [← hW9]; exact (Below.refl _ _).alloc (Nat.le_refl _) _
  have HQ9 : Hid (QL w W9 (.cells #[.slice a p.stocks.length c, .slice a' p.lines.length c'] 26) B8 (.slice A1 p.stocks.length C1) (.slice A2 p.lines.length C2) p.stocks p.lines) := HQ2.out.below hb9
  have HL9 : Hid (QL w W9 (.cells #[.slice a p.stocks.length c, .slice a' p.lines.length c'] 26) B (.slice none 0 0) (.slice A2 p.lines.length C2) [] p.lines) := by
    have h9 := HQ9.out
    refine ⟨h9.bel, h9.arg, h9.res, ?_, by simpa [clSts] using World.ownsRow_nil W9 (w.heap.size + 2) 49 2, h9.ln, ?_⟩
    · rw [hB, ← hW9]
      exact World.alloc_heap_new _ _
    · have := (Array.getElem?_eq_some_iff.1 HQ2.out.res).1
      omega
  try rw [hW9]
  try rw [← hB]
  clear hW9 hB hb9
  obtain ⟨c0, c1⟩ := box2 HQ9.out.arg
  go_wp2_with fail
  refine (Q3 _ (hRw.out.below HQ9.out.bel)).mono ?_
  rintro e w3 ⟨rfl, hb3⟩
  have HQ3 : Hid (QL w w3 (.cells #[.slice a p.stocks.length c, .slice a' p.lines.length c'] 26) B8 (.slice A1 p.stocks.length C1) (.slice A2 p.lines.length C2) p.stocks p.lines) := HQ9.out.below hb3
  have HL3 : Hid (QL w w3 (.cells #[.slice a p.stocks.length c, .slice a' p.lines.length c'] 26) B (.slice none 0 0) (.slice A2 p.lines.length C2) [] p.lines) := HL9.out.below hb3
  clear hb3 c0 c1 Q3 HQ9 HL9
  obtain ⟨hn, hhn⟩ : ∃ hn, hn = hd + z := ⟨_, rfl⟩
  go_upto_region 6 with fail
  try rw [← hhn]
  have HHN : Hid (hn = handT p t + z) := by rw [hhn, HH.out]; rfl
  have hnb : -1000000000 ≤ hn ∧ hn ≤ 2000000000 := by omega
  clear hhn hz1 hz2 hd0 hd1 HH
  obtain ⟨c0, c1⟩ := box2 HQ3.out.arg
  obtain ⟨ix, hix⟩ : ∃ ix, ix = idxT t p.stocks := ⟨_, rfl⟩
  have hif := idxT_find (t := t) (rs := p.stocks)
  have Q4 := fun W h => l10Stock_grows p (.slice a p.stocks.length c) (.slice a' p.lines.length c') t W h
  rw [← hix] at hif Q4
  clear hix
  have HIF : Hid ((ix < 0 ∧ findS t p.stocks = none) ∨ (0 ≤ ix ∧ (findS t p.stocks).isSome = true)) := by
    rcases hif with ⟨e1, e2⟩ | ⟨k, s, e1, _, e3⟩
    · exact .inl ⟨by omega, e2⟩
    · exact .inr ⟨by omega, by rw [e3]; rfl⟩
  clear hif
  obtain ⟨bad, hbad⟩ : ∃ bad : Bool, bad = true ↔ ¬ MvOk p t z := by
    by_cases g : MvOk p t z
    · exact ⟨false, by simp [g]⟩
    · exact ⟨true, by simp [g]⟩
  have HBD : Hid (bad = true ↔ ¬ MvOk p t z) := hbad
  clear hbad
  go_cut [57] from 40 to 56 (fun tv wx => tv = .bool bad ∧ QL w wx (.cells #[.slice a p.stocks.length c, .slice a' p.lines.length c'] 26) B8 (.slice A1 p.stocks.length C1) (.slice A2 p.lines.length C2) p.stocks p.lines ∧ QL w wx (.cells #[.slice a p.stocks.length c, .slice a' p.lines.length c'] 26) B (.slice none 0 0) (.slice A2 p.lines.length C2) [] p.lines)
  case first =>
    by_cases hz3 : hn < 0
    · obtain rfl : bad = true := HBD.out.2 fun g => by have h1 := g.lo; rw [← HHN.out] at h1; omega
      go_wp2
      go_meet
      exact ⟨rfl, HQ3.out, HL3.out⟩
    by_cases hz4 : 1000000000 < hn
    · obtain rfl : bad = true := HBD.out.2 fun g => by have h1 := g.hi; rw [← HHN.out] at h1; omega
      go_wp2
      go_meet
      exact ⟨rfl, HQ3.out, HL3.out⟩
    go_wp2_with fail
    refine (Q4 _ (hRw.out.below HQ3.out.bel)).mono ?_
    rintro e w4 ⟨rfl, hg4⟩
    have hb4 := hg4.below
    have HQ4 : Hid (QL w w4 (.cells #[.slice a p.stocks.length c, .slice a' p.lines.length c'] 26) B8 (.slice A1 p.stocks.length C1) (.slice A2 p.lines.length C2) p.stocks p.lines) := HQ3.out.below hb4
    have HL4 : Hid (QL w w4 (.cells #[.slice a p.stocks.length c, .slice a' p.lines.length c'] 26) B (.slice none 0 0) (.slice A2 p.lines.length C2) [] p.lines) := HL3.out.below hb4
    clear hb4 hg4 c0 c1 Q4
    obtain ⟨c0, c1⟩ := box2 HQ4.out.arg
    by_cases hf1 : ix < 0
    · by_cases hf2 : 100 ≤ p.stocks.length
      · have hf2' : (100 : Int) ≤ (p.stocks.length : Int) := by omega
        obtain rfl : bad = true := HBD.out.2 fun g => no_room HIF.out hf1 hf2 g
        go_wp2
        go_meet
        exact ⟨rfl, HQ4.out, HL4.out⟩
      · have hf2' : ¬ (100 : Int) ≤ (p.stocks.length : Int) := by omega
        obtain rfl : bad = false := by
          cases bad with
          | false => rfl
          | true => exact absurd ⟨HX.out.symm, HY.out.symm, by rw [← HHN.out]; omega, by rw [← HHN.out]; omega, .inr (by omega)⟩ (HBD.out.1 rfl)
        go_wp2
        go_meet
        exact ⟨by first | rfl | (simp; omega), HQ4.out, HL4.out⟩
    · obtain rfl : bad = false := by
        cases bad with
        | false => rfl
        | true => exact absurd ⟨HX.out.symm, HY.out.symm, by rw [← HHN.out]; omega, by rw [← HHN.out]; omega, .inl (fnd_some HIF.out hf1)⟩ (HBD.out.1 rfl)
      go_wp2
      go_meet
      exact ⟨rfl, HQ4.out, HL4.out⟩
  case rest =>
  obtain ⟨rfl, hq4, hl4⟩ := hcut
  rename World => w4
  have HQ4 : Hid (QL w w4 (.cells #[.slice a p.stocks.length c, .slice a' p.lines.length c'] 26) B8 (.slice A1 p.stocks.length C1) (.slice A2 p.lines.length C2) p.stocks p.lines) := hq4
  have HL4 : Hid (QL w w4 (.cells #[.slice a p.stocks.length c, .slice a' p.lines.length c'] 26) B (.slice none 0 0) (.slice A2 p.lines.length C2) [] p.lines) := hl4
  clear hq4 hl4 HQ3 HL3 c0 c1 Q4
  cases bad with
  | true =>
    have HN : Hid ((movT p t z).stocks = p.stocks ∧ (false = true ↔ MvOk p t z)) := mv_same fun g => by exact HBD.out.1 rfl g
    obtain ⟨z0, z1⟩ := box2 HQ4.out.res
    have zf := frz2 HQ4.out.res
    obtain ⟨y0, y1⟩ := box2 HQ4.out.box
    go_wp2
    obtain ⟨k1, k2, k3⟩ := HQ4.out.done
    refine bodyPost_ret (v := .tuple #[.agg #[.slice A1 p.stocks.length C1, .slice A2 p.lines.length C2], .bool false]) (by simp [results, Try.results29, go_sem, z0, z1]) rfl ?_
    exact MvOut.mk rfl (by rw [HN.out.1]; exact k2) k3 k1 HN.out.2
  | false =>
  have hok : MvOk p t z := by
    by_cases g : MvOk p t z
    · exact g
    · have := HBD.out.2 g
      cases this
  have hn0 : 0 ≤ hn := by rw [HHN.out]; exact hok.lo
  have hn1 : hn ≤ 1000000000 := by rw [HHN.out]; exact hok.hi
  have HN : Hid ((movT p t z).stocks = outF ⟨t, hn⟩ false p.stocks ∧ (true = true ↔ MvOk p t z)) := by
    refine ⟨?_, by simp [hok]⟩
    rw [movT_yes hok, outF_eq HRR.out, HHN.out]
    rfl
  clear hok hnb
  obtain ⟨rs, hrs⟩ : ∃ rs, rs = p.stocks := ⟨_, rfl⟩
  rw [← hrs] at hlen hln
  have HR : Hid (rs = p.stocks) := hrs
  have HRow : Hid (RowSt w (.slice a rs.length c) rs) := by rw [hrs]; exact hRw.out.st
  obtain ⟨A0, hA0⟩ : ∃ A0 : Obj, A0 = (.cells #[.slice a p.stocks.length c, .slice a' p.lines.length c'] 26) := ⟨_, rfl⟩
  have HARG : Hid (∀ W : World, W.heap[w.heap.size]? = some A0 → W.cell? ⟨w.heap.size, 0, none⟩ = some (.slice a rs.length c)) := fun W hW => by
    rw [hA0, ← HR.out] at hW
    exact (box2 hW).1
  have HL5 : Hid (QL w w4 A0 B (.slice none 0 0) (.slice A2 p.lines.length C2) [] p.lines) := by rw [hA0]; exact HL4.out
  clear hrs hA0 HL4 HQ4
  go_upto_region 8 with fail
  go_wp2_with fail
  go_loopw [11, 12] (fun d i wr => ∃ (k : Nat) (dn : Bool) (A : Option Addr) (C : Nat) (ts : List Stk), d = .bool dn ∧ i = .int .i64 (k : Int) ∧ k ≤ rs.length ∧ ts.length ≤ 2 * k ∧ ts ++ outF ⟨t, hn⟩ dn (rs.drop k) = outF ⟨t, hn⟩ false rs ∧ True ∧ QL w wr A0 B (.slice A ts.length C) (.slice A2 p.lines.length C2) ts p.lines) (fun _ i _ => rs.length - (intOf i).toNat)
  case atStart => exact ⟨0, false, none, 0, [], rfl, rfl, by omega, by simp, by simp, trivial, HL5.out⟩
  case round =>
    obtain ⟨k, dn, A, C, ts, rfl, rfl, hk, htl, hfin, _, hQ⟩ := hrel
    have HE : Hid (QL w wr A0 B (.slice A ts.length C) (.slice A2 p.lines.length C2) ts p.lines ∧ ts ++ outF ⟨t, hn⟩ dn (rs.drop k) = outF ⟨t, hn⟩ false rs) := ⟨hQ, hfin⟩
    have c0 := HARG.out _ hQ.arg
    clear hfin hQ
    by_cases hlt : k < rs.length
    · have hlt' : (k : Int) < (rs.length : Int) := by omega
      obtain ⟨b, o, cap', y, e, hs, ⟨q0, q1⟩, _⟩ := (HRow.out.below HE.out.1.bel).at hlt
      simp only [Value.slice.injEq, true_and] at e
      obtain ⟨rfl, rfl⟩ := e
      have HS : Hid (rs[k]? = some y) := hs
      have HS2 : Hid (rs.drop k = y :: rs.drop (k + 1)) := by
        obtain ⟨h1, h2⟩ := List.getElem?_eq_some_iff.1 hs
        show _ = _
        rw [List.drop_eq_getElem_cons h1, h2]
      clear hs
      cases dn with
      | false =>
        cases hx : Op.bytesLess y.item.toList t.toList with
        | true =>
          have hy : (y.item.toList == t.toList) = false := befS_nm (x := y) (s := ⟨t, hn⟩) hx
          obtain ⟨ts6, hts6⟩ : ∃ ts6, ts6 = ts := ⟨_, rfl⟩
          obtain ⟨A6, hA6⟩ : ∃ A6, A6 = A := ⟨_, rfl⟩
          obtain ⟨C6, hC6⟩ : ∃ C6, C6 = C := ⟨_, rfl⟩
          obtain ⟨w6, hw6⟩ : ∃ w6, w6 = wr := ⟨_, rfl⟩
          have H6 : Hid (QL w w6 A0 B (.slice A6 ts6.length C6) (.slice A2 p.lines.length C2) ts6 p.lines) := by show QL w w6 A0 B _ _ _ _; rw [hts6, hA6, hC6, hw6]; simpa using HE.out.1
          have HT6 : Hid (ts6 = ts) := hts6
          have hl6 : ts6.length ≤ 2 * k + 1 := by rw [hts6]; first | omega | (simp; omega)
          try rw [← hts6]
          try rw [← hA6]
          try rw [← hC6]
          rw [← hw6]
          clear hts6 hA6 hC6 hw6
          have hmx : ts6.length + 1 ≤ maxLen := by unfold maxLen; omega
          have hX : Below w6.heap.size w6 (w6.alloc (.cells #[.string y.item, .int .i64 y.hand] 49)) := (Below.refl _ _).alloc (Nat.le_refl _) _
          have HD : Hid (QL w (w6.alloc (.cells #[.string y.item, .int .i64 y.hand] 49)) A0 B (.slice A6 ts6.length C6) (.slice A2 p.lines.length C2) ts6 p.lines) := H6.out.below hX
          have HDd : Hid (QL w (w6.alloc (.cells #[.string y.item, .int .i64 y.hand] 49)).drew A0 B (.slice A6 ts6.length C6) (.slice A2 p.lines.length C2) ts6 p.lines) := HD.out.below (Below.refl _ _).drew
          have rowN := HD.out.own
          have hsN : w.heap.size + 2 ≤ (w6.alloc (.cells #[.string y.item, .int .i64 y.hand] 49)).heap.size := by have := (Array.getElem?_eq_some_iff.1 HD.out.box).1; have := HD.out.hB; omega
          obtain ⟨y0, y1⟩ := box2 H6.out.box
          have yal := cell_al y0
          have x0 := HARG.out _ H6.out.arg
          have xal := cell_al x0
          obtain ⟨bq, oq, cq, yq, eq, hsq, ⟨r0, r1⟩, _⟩ := (HRow.out.below H6.out.bel).at hlt
          simp only [Value.slice.injEq, Option.some.injEq, Addr.mk.injEq, true_and, and_true] at eq
          obtain ⟨⟨rfl, rfl⟩, rfl⟩ := eq
          obtain rfl : y = yq := by have := HS.out; rw [hsq] at this; exact (Option.some.inj this).symm
          clear hsq hX
          go_upto_region 16 with fail
          go_region_law (first | (refine step_append_lies _ (by rfl) _ _ _ (by rfl) (w.heap.size + 2) 49 j0 _ 2 24 Try.underlying23 hj0i hi0 hi1 hi2 rfl (by omega) (.slice A6 ts6.length C6) ts6.length (clSts ts6) (by rfl) (by first | exact rowN | exact rowN.drew) ⟨w6.heap.size, 0, none⟩ 1 1 (clSt y) (by rfl) (by rfl) (World.news_of_block (cs := #[.string y.item, .int .i64 y.hand]) (t := 49) (fr := (0, 0)) (by first | exact World.alloc_heap_new w6 _ | exact hp_drew (World.alloc_heap_new w6 _))) (by simp [Value.oneCell', clSt]) (by omega) hmx (by omega) hsN (w6.heap.size + 1) (by simp) ?_; intro gg cap w7 hown7 hgrow7 hat7 hlt7; have bx7 : w7.heap[B]? = some (.cells #[.slice A6 ts6.length C6, .slice A2 p.lines.length C2] 26) := (by with_reducible first | exact ql_box HD.out hgrow7 | exact ql_box HDd.out hgrow7 | fail); obtain ⟨u0, u1⟩ := box2 bx7; have uf := frz2 bx7; try dsimp only) | fail)
          all_goals
            have H7 : Hid (QL w (w7.setCell ⟨B, 0, none⟩ (.slice (some ⟨gg, 0, none⟩) (ts6.length + 1) cap)) A0 B (.slice (some ⟨gg, 0, none⟩) (ts6.length + 1) cap) (.slice A2 p.lines.length C2) (ts6 ++ [y]) p.lines) := by
              have hx : (ts6 ++ [y]).length = ts6.length + 1 := by simp
              have ho : w7.ownsRow (w.heap.size + 2) 49 2 (.slice (some ⟨gg, 0, none⟩) (ts6.length + 1) cap) (ts6 ++ [y]).length (clSts (ts6 ++ [y])) := by rw [hx, clSts_app]; exact hown7
              first | exact HD.out.next hgrow7 bx7 ho | exact HDd.out.next hgrow7 bx7 ho
            clear hown7 hgrow7 hat7 hlt7 u0 u1 uf bx7 rowN
            try go_wp2
            refine ⟨⟨k + 1, false, some ⟨gg, 0, none⟩, cap, ts6 ++ [y], rfl, by go_num, by omega, by simp; omega, ?_, trivial, by simpa using H7.out⟩, by simp [intOf]; omega⟩
            rw [HT6.out]
            (have f1 : befS y ⟨t, hn⟩ = true := hx; have f2 : nmS t y = false := hy; rw [← HE.out.2, HS2.out, stepF]; simp [f1, f2])
        | false =>
          have hX : Below wr.heap.size wr (wr.alloc (.cells #[.string t, .int .i64 hn] 49)) := (Below.refl _ _).alloc (Nat.le_refl _) _
          have hQX := HE.out.1.below hX
          have hat2 : AtSt (wr.alloc (.cells #[.string t, .int .i64 hn] 49)) wr.heap.size 0 ⟨t, hn⟩ := box2 (World.alloc_heap_new wr (.cells #[.string t, .int .i64 hn] 49))
          have hrow := hQX.own
          have hl1' : ts.length + 1 ≤ 2000000 := by omega
          have hsX : w.heap.size + 2 ≤ (wr.alloc (.cells #[.string t, .int .i64 hn] 49)).heap.size := by have := (Array.getElem?_eq_some_iff.1 hQX.box).1; have := hQX.hB; omega
          obtain ⟨X, hXe⟩ : ∃ X, wr.alloc (.cells #[.string t, .int .i64 hn] 49) = X := ⟨_, rfl⟩
          rw [hXe] at hQX hat2 hrow hsX
          have HXb : Hid (QL w X A0 B (.slice A ts.length C) (.slice A2 p.lines.length C2) ts p.lines) := hQX
          obtain ⟨y0, y1⟩ := box2 HE.out.1.box
          clear hQX hX
          go_upto_region 13 with fail
          go_upto_region 15 with (first | (at_builtin; refine wpList_appSt (base := w.heap.size + 2) (c := wr.heap.size) (C := 1) (lv := .slice A ts.length C) (rs := ts) (g := ⟨t, hn⟩) rfl (.tmp 79) (.tmp 83) rfl rfl rfl hrow hat2 hl1' hsX ?_; rintro v4 w4 hown4 hgrow4 ⟨A4, C4, rfl⟩; have bx4 := ql_box HXb.out hgrow4; obtain ⟨u0, u1⟩ := box2 bx4; have uf := frz2 bx4; have e4 : (ts ++ [Stk.mk t hn]).length = ts.length + 1 := (by simp); rw [e4] at hown4; have H4 : Hid (QL w (w4.setCell ⟨B, 0, none⟩ (.slice A4 (ts.length + 1) C4)) A0 B (.slice A4 (ts.length + 1) C4) (.slice A2 p.lines.length C2) (ts ++ [Stk.mk t hn]) p.lines) := HXb.out.nextN hgrow4 bx4 hown4 e4; clear e4; clear hown4 hgrow4; clear hXe))
          obtain ⟨W4, hW4⟩ : ∃ W4, w4.setCell ⟨B, 0, none⟩ (.slice A4 (ts.length + 1) C4) = W4 := ⟨_, rfl⟩
          rw [hW4] at H4
          try rw [hW4]
          clear hW4 u0 u1 uf bx4 y0 y1
          cases hy : (y.item.toList == t.toList) with
          | true =>
            have x0 := HARG.out _ H4.out.arg
            obtain ⟨bq, oq, cq, yq, eq, hsq, ⟨r0, r1⟩, _⟩ := (HRow.out.below H4.out.bel).at hlt
            simp only [Value.slice.injEq, Option.some.injEq, Addr.mk.injEq, true_and, and_true] at eq
            obtain ⟨⟨rfl, rfl⟩, rfl⟩ := eq
            obtain rfl : y = yq := by have := HS.out; rw [hsq] at this; exact (Option.some.inj this).symm
            clear hsq
            go_wp2
            go_roundw
            case rel =>
              refine ⟨k + 1, true, A4, C4, ts ++ [Stk.mk t hn], rfl, by go_num, by omega, by simp; omega, ?_, trivial, by simpa using H4.out⟩
              (have f1 : befS y ⟨t, hn⟩ = false := hx; have f2 : nmS t y = true := hy; rw [← HE.out.2, HS2.out, stepF]; simp [f1, f2])
            case measure => simp [intOf]; omega
          | false =>
            obtain ⟨ts6, hts6⟩ : ∃ ts6, ts6 = ts ++ [Stk.mk t hn] := ⟨_, rfl⟩
            obtain ⟨A6, hA6⟩ : ∃ A6, A6 = A4 := ⟨_, rfl⟩
            obtain ⟨C6, hC6⟩ : ∃ C6, C6 = C4 := ⟨_, rfl⟩
            obtain ⟨w6, hw6⟩ : ∃ w6, w6 = W4 := ⟨_, rfl⟩
            have H6 : Hid (QL w w6 A0 B (.slice A6 ts6.length C6) (.slice A2 p.lines.length C2) ts6 p.lines) := by show QL w w6 A0 B _ _ _ _; rw [hts6, hA6, hC6, hw6]; simpa using H4.out
            have HT6 : Hid (ts6 = ts ++ [Stk.mk t hn]) := hts6
            have hl6 : ts6.length ≤ 2 * k + 1 := by rw [hts6]; first | omega | (simp; omega)
            try rw [← hts6]
            try rw [← hA6]
            try rw [← hC6]
            rw [← hw6]
            clear hts6 hA6 hC6 hw6
            have hmx : ts6.length + 1 ≤ maxLen := by unfold maxLen; omega
            have hX : Below w6.heap.size w6 (w6.alloc (.cells #[.string y.item, .int .i64 y.hand] 49)) := (Below.refl _ _).alloc (Nat.le_refl _) _
            have HD : Hid (QL w (w6.alloc (.cells #[.string y.item, .int .i64 y.hand] 49)) A0 B (.slice A6 ts6.length C6) (.slice A2 p.lines.length C2) ts6 p.lines) := H6.out.below hX
            have HDd : Hid (QL w (w6.alloc (.cells #[.string y.item, .int .i64 y.hand] 49)).drew A0 B (.slice A6 ts6.length C6) (.slice A2 p.lines.length C2) ts6 p.lines) := HD.out.below (Below.refl _ _).drew
            have rowN := HD.out.own
            have hsN : w.heap.size + 2 ≤ (w6.alloc (.cells #[.string y.item, .int .i64 y.hand] 49)).heap.size := by have := (Array.getElem?_eq_some_iff.1 HD.out.box).1; have := HD.out.hB; omega
            obtain ⟨y0, y1⟩ := box2 H6.out.box
            have yal := cell_al y0
            have x0 := HARG.out _ H6.out.arg
            have xal := cell_al x0
            obtain ⟨bq, oq, cq, yq, eq, hsq, ⟨r0, r1⟩, _⟩ := (HRow.out.below H6.out.bel).at hlt
            simp only [Value.slice.injEq, Option.some.injEq, Addr.mk.injEq, true_and, and_true] at eq
            obtain ⟨⟨rfl, rfl⟩, rfl⟩ := eq
            obtain rfl : y = yq := by have := HS.out; rw [hsq] at this; exact (Option.some.inj this).symm
            clear hsq hX
            go_upto_region 16 with fail
            go_region_law (first | (refine step_append_lies _ (by rfl) _ _ _ (by rfl) (w.heap.size + 2) 49 j0 _ 2 24 Try.underlying23 hj0i hi0 hi1 hi2 rfl (by omega) (.slice A6 ts6.length C6) ts6.length (clSts ts6) (by rfl) (by first | exact rowN | exact rowN.drew) ⟨w6.heap.size, 0, none⟩ 1 1 (clSt y) (by rfl) (by rfl) (World.news_of_block (cs := #[.string y.item, .int .i64 y.hand]) (t := 49) (fr := (0, 0)) (by first | exact World.alloc_heap_new w6 _ | exact hp_drew (World.alloc_heap_new w6 _))) (by simp [Value.oneCell', clSt]) (by omega) hmx (by omega) hsN (w6.heap.size + 1) (by simp) ?_; intro gg cap w7 hown7 hgrow7 hat7 hlt7; have bx7 : w7.heap[B]? = some (.cells #[.slice A6 ts6.length C6, .slice A2 p.lines.length C2] 26) := (by with_reducible first | exact ql_box HD.out hgrow7 | exact ql_box HDd.out hgrow7 | fail); obtain ⟨u0, u1⟩ := box2 bx7; have uf := frz2 bx7; try dsimp only) | fail)
            all_goals
              have H7 : Hid (QL w (w7.setCell ⟨B, 0, none⟩ (.slice (some ⟨gg, 0, none⟩) (ts6.length + 1) cap)) A0 B (.slice (some ⟨gg, 0, none⟩) (ts6.length + 1) cap) (.slice A2 p.lines.length C2) (ts6 ++ [y]) p.lines) := by
                have hx : (ts6 ++ [y]).length = ts6.length + 1 := by simp
                have ho : w7.ownsRow (w.heap.size + 2) 49 2 (.slice (some ⟨gg, 0, none⟩) (ts6.length + 1) cap) (ts6 ++ [y]).length (clSts (ts6 ++ [y])) := by rw [hx, clSts_app]; exact hown7
                first | exact HD.out.next hgrow7 bx7 ho | exact HDd.out.next hgrow7 bx7 ho
              clear hown7 hgrow7 hat7 hlt7 u0 u1 uf bx7 rowN
              try go_wp2
              refine ⟨⟨k + 1, true, some ⟨gg, 0, none⟩, cap, ts6 ++ [y], rfl, by go_num, by omega, by simp; omega, ?_, trivial, by simpa using H7.out⟩, by simp [intOf]; omega⟩
              rw [HT6.out]
              (have f1 : befS y ⟨t, hn⟩ = false := hx; have f2 : nmS t y = false := hy; rw [← HE.out.2, HS2.out, stepF]; simp [f1, f2])
      | true =>
        cases hy : (y.item.toList == t.toList) with
        | true =>
          go_wp2
          go_roundw
          case rel =>
            refine ⟨k + 1, true, A, C, ts, rfl, by go_num, by omega, by omega, ?_, trivial, HE.out.1⟩
            (have f2 : nmS t y = true := hy; rw [← HE.out.2, HS2.out, stepF]; simp [f2])
          case measure => simp [intOf]; omega
        | false =>
          obtain ⟨ts6, hts6⟩ : ∃ ts6, ts6 = ts := ⟨_, rfl⟩
          obtain ⟨A6, hA6⟩ : ∃ A6, A6 = A := ⟨_, rfl⟩
          obtain ⟨C6, hC6⟩ : ∃ C6, C6 = C := ⟨_, rfl⟩
          obtain ⟨w6, hw6⟩ : ∃ w6, w6 = wr := ⟨_, rfl⟩
          have H6 : Hid (QL w w6 A0 B (.slice A6 ts6.length C6) (.slice A2 p.lines.length C2) ts6 p.lines) := by show QL w w6 A0 B _ _ _ _; rw [hts6, hA6, hC6, hw6]; simpa using HE.out.1
          have HT6 : Hid (ts6 = ts) := hts6
          have hl6 : ts6.length ≤ 2 * k + 1 := by rw [hts6]; first | omega | (simp; omega)
          try rw [← hts6]
          try rw [← hA6]
          try rw [← hC6]
          rw [← hw6]
          clear hts6 hA6 hC6 hw6
          have hmx : ts6.length + 1 ≤ maxLen := by unfold maxLen; omega
          have hX : Below w6.heap.size w6 (w6.alloc (.cells #[.string y.item, .int .i64 y.hand] 49)) := (Below.refl _ _).alloc (Nat.le_refl _) _
          have HD : Hid (QL w (w6.alloc (.cells #[.string y.item, .int .i64 y.hand] 49)) A0 B (.slice A6 ts6.length C6) (.slice A2 p.lines.length C2) ts6 p.lines) := H6.out.below hX
          have HDd : Hid (QL w (w6.alloc (.cells #[.string y.item, .int .i64 y.hand] 49)).drew A0 B (.slice A6 ts6.length C6) (.slice A2 p.lines.length C2) ts6 p.lines) := HD.out.below (Below.refl _ _).drew
          have rowN := HD.out.own
          have hsN : w.heap.size + 2 ≤ (w6.alloc (.cells #[.string y.item, .int .i64 y.hand] 49)).heap.size := by have := (Array.getElem?_eq_some_iff.1 HD.out.box).1; have := HD.out.hB; omega
          obtain ⟨y0, y1⟩ := box2 H6.out.box
          have yal := cell_al y0
          have x0 := HARG.out _ H6.out.arg
          have xal := cell_al x0
          obtain ⟨bq, oq, cq, yq, eq, hsq, ⟨r0, r1⟩, _⟩ := (HRow.out.below H6.out.bel).at hlt
          simp only [Value.slice.injEq, Option.some.injEq, Addr.mk.injEq, true_and, and_true] at eq
          obtain ⟨⟨rfl, rfl⟩, rfl⟩ := eq
          obtain rfl : y = yq := by have := HS.out; rw [hsq] at this; exact (Option.some.inj this).symm
          clear hsq hX
          go_upto_region 16 with fail
          go_region_law (first | (refine step_append_lies _ (by rfl) _ _ _ (by rfl) (w.heap.size + 2) 49 j0 _ 2 24 Try.underlying23 hj0i hi0 hi1 hi2 rfl (by omega) (.slice A6 ts6.length C6) ts6.length (clSts ts6) (by rfl) (by first | exact rowN | exact rowN.drew) ⟨w6.heap.size, 0, none⟩ 1 1 (clSt y) (by rfl) (by rfl) (World.news_of_block (cs := #[.string y.item, .int .i64 y.hand]) (t := 49) (fr := (0, 0)) (by first | exact World.alloc_heap_new w6 _ | exact hp_drew (World.alloc_heap_new w6 _))) (by simp [Value.oneCell', clSt]) (by omega) hmx (by omega) hsN (w6.heap.size + 1) (by simp) ?_; intro gg cap w7 hown7 hgrow7 hat7 hlt7; have bx7 : w7.heap[B]? = some (.cells #[.slice A6 ts6.length C6, .slice A2 p.lines.length C2] 26) := (by with_reducible first | exact ql_box HD.out hgrow7 | exact ql_box HDd.out hgrow7 | fail); obtain ⟨u0, u1⟩ := box2 bx7; have uf := frz2 bx7; try dsimp only) | fail)
          all_goals
            have H7 : Hid (QL w (w7.setCell ⟨B, 0, none⟩ (.slice (some ⟨gg, 0, none⟩) (ts6.length + 1) cap)) A0 B (.slice (some ⟨gg, 0, none⟩) (ts6.length + 1) cap) (.slice A2 p.lines.length C2) (ts6 ++ [y]) p.lines) := by
              have hx : (ts6 ++ [y]).length = ts6.length + 1 := by simp
              have ho : w7.ownsRow (w.heap.size + 2) 49 2 (.slice (some ⟨gg, 0, none⟩) (ts6.length + 1) cap) (ts6 ++ [y]).length (clSts (ts6 ++ [y])) := by rw [hx, clSts_app]; exact hown7
              first | exact HD.out.next hgrow7 bx7 ho | exact HDd.out.next hgrow7 bx7 ho
            clear hown7 hgrow7 hat7 hlt7 u0 u1 uf bx7 rowN
            try go_wp2
            refine ⟨⟨k + 1, true, some ⟨gg, 0, none⟩, cap, ts6 ++ [y], rfl, by go_num, by omega, by simp; omega, ?_, trivial, by simpa using H7.out⟩, by simp [intOf]; omega⟩
            rw [HT6.out]
            (have f2 : nmS t y = false := hy; rw [← HE.out.2, HS2.out, stepF]; simp [f2])
    · obtain rfl : k = rs.length := by omega
      have hfin := HE.out.2
      rw [List.drop_length] at hfin
      cases dn with
      | true =>
        have HF : Hid ((movT p t z).stocks = ts) := by
          have h1 := HN.out.1
          rw [← HR.out, ← hfin] at h1
          show _ = _
          simpa [outF] using h1
        have HQ7 : Hid (QL w wr A0 B (.slice A ts.length C) (.slice A2 p.lines.length C2) ts p.lines) := HE.out.1
        clear hfin
        obtain ⟨z0, z1⟩ := box2 HQ7.out.res
        have zf := frz2 HQ7.out.res
        obtain ⟨y0, y1⟩ := box2 HQ7.out.box
        go_wp2
        obtain ⟨k1, k2, k3⟩ := HQ7.out.done
        refine bodyPost_ret (v := .tuple #[.agg #[.slice A ts.length C, .slice A2 p.lines.length C2], .bool true]) (by simp [results, Try.results29, go_sem, z0, z1]) rfl ?_
        exact MvOut.mk rfl (by rw [HF.out]; exact k2) k3 k1 (by have := HN.out.2; simpa using this)
      | false =>
        have HF : Hid ((movT p t z).stocks = ts ++ [Stk.mk t hn]) := by
          have h1 := HN.out.1
          rw [← HR.out, ← hfin] at h1
          show _ = _
          simpa [outF] using h1
        clear hfin
        have hX : Below wr.heap.size wr (wr.alloc (.cells #[.string t, .int .i64 hn] 49)) := (Below.refl _ _).alloc (Nat.le_refl _) _
        have hQX := HE.out.1.below hX
        have hat2 : AtSt (wr.alloc (.cells #[.string t, .int .i64 hn] 49)) wr.heap.size 0 ⟨t, hn⟩ := box2 (World.alloc_heap_new wr (.cells #[.string t, .int .i64 hn] 49))
        have hrow := hQX.own
        have hl1' : ts.length + 1 ≤ 2000000 := by omega
        have hsX : w.heap.size + 2 ≤ (wr.alloc (.cells #[.string t, .int .i64 hn] 49)).heap.size := by have := (Array.getElem?_eq_some_iff.1 hQX.box).1; have := hQX.hB; omega
        obtain ⟨X, hXe⟩ : ∃ X, wr.alloc (.cells #[.string t, .int .i64 hn] 49) = X := ⟨_, rfl⟩
        rw [hXe] at hQX hat2 hrow hsX
        have HXb : Hid (QL w X A0 B (.slice A ts.length C) (.slice A2 p.lines.length C2) ts p.lines) := hQX
        obtain ⟨y0, y1⟩ := box2 HE.out.1.box
        clear hQX hX
        go_upto_region 18 with fail
        go_upto_region 19 with (first | (at_builtin; refine wpList_appSt (base := w.heap.size + 2) (c := wr.heap.size) (C := 1) (lv := .slice A ts.length C) (rs := ts) (g := ⟨t, hn⟩) rfl (.tmp 107) (.tmp 111) rfl rfl rfl hrow hat2 hl1' hsX ?_; rintro v4 w4 hown4 hgrow4 ⟨A4, C4, rfl⟩; have bx4 := ql_box HXb.out hgrow4; obtain ⟨u0, u1⟩ := box2 bx4; have uf := frz2 bx4; have e4 : (ts ++ [Stk.mk t hn]).length = ts.length + 1 := (by simp); rw [e4] at hown4; have H4 : Hid (QL w (w4.setCell ⟨B, 0, none⟩ (.slice A4 (ts.length + 1) C4)) A0 B (.slice A4 (ts.length + 1) C4) (.slice A2 p.lines.length C2) (ts ++ [Stk.mk t hn]) p.lines) := HXb.out.nextN hgrow4 bx4 hown4 e4; clear e4; clear hown4 hgrow4; clear hXe))
        obtain ⟨W4, hW4⟩ : ∃ W4, w4.setCell ⟨B, 0, none⟩ (.slice A4 (ts.length + 1) C4) = W4 := ⟨_, rfl⟩
        rw [hW4] at H4
        try rw [hW4]
        clear hW4 u0 u1 uf bx4 y0 y1
        obtain ⟨z0, z1⟩ := box2 H4.out.res
        have zf := frz2 H4.out.res
        obtain ⟨y0, y1⟩ := box2 H4.out.box
        go_wp2
        obtain ⟨k1, k2, k3⟩ := H4.out.done
        refine bodyPost_ret (v := .tuple #[.agg #[.slice A4 (ts.length + 1) C4, .slice A2 p.lines.length C2], .bool true]) (by simp [results, Try.results29, go_sem, z0, z1]) rfl ?_
        exact MvOut.mk rfl (by rw [HF.out]; exact k2) k3 k1 (by have := HN.out.2; simpa using this)
end Go.Proofs.Ytiaclnldeimbhaa
