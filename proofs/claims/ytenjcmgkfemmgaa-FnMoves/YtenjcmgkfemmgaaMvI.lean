/- Contract of the program's BookMove. -/
import Derived.Test.YtenjcmgkfemmgaaMhI
namespace Go.Proofs.Ytenjcmgkfemmgaa
open Go.ChangeShapes Go.WideShapes Go.ChangeAt Go.RowKit
/-- The boxes of a move: the book that came, the answer's cells, the book behind. -/
structure QM (w W : World) (A0 : Obj) (B bs bl : Nat) (us ul : Value) (p : Bk) : Prop where
  bel : Below w.heap.size w W
  arg : W.heap[w.heap.size]? = some A0
  res : W.heap[w.heap.size + 1]? = some (.cells #[.slice none 0 0, .slice none 0 0] 26)
  box : W.heap[B]? = some (.cells #[us, ul] 26)
  st : LSt bs W us p.stocks
  ln : LOl bl W ul p.lines
  hB : w.heap.size + 1 < B
  hs : w.heap.size + 2 ≤ bs
  hl : w.heap.size + 2 ≤ bl
  hlB : p.lines ≠ [] → bl ≠ B
theorem QM.below {w W W' : World} {A0 : Obj} {B bs bl : Nat} {us ul : Value} {p : Bk} (h : QM w W A0 B bs bl us ul p) (hb : Below W.heap.size W W') : QM w W' A0 B bs bl us ul p := by
  have ha := (Array.getElem?_eq_some_iff.1 h.arg).1
  have hr := (Array.getElem?_eq_some_iff.1 h.res).1
  have hx := (Array.getElem?_eq_some_iff.1 h.box).1
  exact ⟨h.bel.trans (hb.mono h.bel.size), (hb.block _ ha).trans h.arg, (hb.block _ hr).trans h.res, (hb.block _ hx).trans h.box, h.st.below hb, h.ln.below hb, h.hB, h.hs, h.hl, h.hlB⟩
theorem QM.put {w W : World} {A0 : Obj} {B bs bl bs' : Nat} {us ul v' : Value} {p : Bk} {l' : List Stk} (h : QM w W A0 B bs bl us ul p) (hL : LSt bs' W v' l') (h1 : bs' ≠ B) (h2 : w.heap.size + 2 ≤ bs') : QM w (W.setCell ⟨B, 0, none⟩ v') A0 B bs' bl v' ul ⟨l', p.lines⟩ := by
  have h3 := h.hB
  refine ⟨h.bel.setCell (show w.heap.size ≤ B by omega) _, (setNe _ (by omega)).trans h.arg, (setNe _ (by omega)).trans h.res, set2a _ h.box, hL.of_block fun _ => setNe _ h1, h.ln.of_block fun hn => setNe _ (h.hlB hn), h.hB, h2, h.hl, h.hlB⟩
theorem QM.done {w W : World} {A0 : Obj} {B bs bl : Nat} {us ul : Value} {p : Bk} (h : QM w W A0 B bs bl us ul p) : Below w.heap.size w ((W.setCell ⟨w.heap.size + 1, 0, none⟩ us).setCell ⟨w.heap.size + 1, 1, none⟩ ul) ∧ LSt bs ((W.setCell ⟨w.heap.size + 1, 0, none⟩ us).setCell ⟨w.heap.size + 1, 1, none⟩ ul) us p.stocks ∧ LOl bl ((W.setCell ⟨w.heap.size + 1, 0, none⟩ us).setCell ⟨w.heap.size + 1, 1, none⟩ ul) ul p.lines := by
  have h1 := h.hs
  have h2 := h.hl
  refine ⟨(h.bel.setCell (show w.heap.size ≤ w.heap.size + 1 by omega) _).setCell (show w.heap.size ≤ w.heap.size + 1 by omega) _, h.st.of_block fun _ => ?_, h.ln.of_block fun _ => ?_⟩
  · rw [setNe _ (by omega), setNe _ (by omega)]
  · rw [setNe _ (by omega), setNe _ (by omega)]
theorem smallL {l : List Stk} (h : ∀ x ∈ l, x.item.size ≤ 12) : ∀ (i : Nat) (g : Stk), l[i]? = some g → g.item.size ≤ 9223372036854775807 := fun i g hi => by
  have := h g (List.mem_of_getElem? hi)
  omega
set_option maxRecDepth 20000 in
set_option maxHeartbeats 8000000 in
theorem bookMove_impl (p : Bk) (us ul : Value) (t : ByteArray) (z : Int) (w : World) (h : RBk w us ul p) (hP : BdBk 1048576 p) (ht : t.size ≤ 1048576) : Calls Try.prog 6 #[.agg #[us, ul], .string t, .int .i64 z] w fun e w' => ∃ us' ul' bs bl, e = .returned (.agg #[us', ul']) ∧ w.heap.size ≤ bs ∧ w.heap.size ≤ bl ∧ LSt bs w' us' (moveT p t z).stocks ∧ LOl bl w' ul' (moveT p t z).lines ∧ Below w.heap.size w w' := by
  obtain ⟨a, c, a', c', rfl, rfl⟩ := h.val
  obtain ⟨W0, hW0⟩ : ∃ W0, (w.alloc (.cells #[.slice a p.stocks.length c, .slice a' p.lines.length c'] 26)).alloc (.cells #[.slice none 0 0, .slice none 0 0] 26) = W0 := ⟨_, rfl⟩
  have hb0 : Below w.heap.size w W0 := by rw [← hW0]; exact ((Below.refl _ _).alloc (Nat.le_refl _) _).alloc (by simp) _
  obtain ⟨x0, x1⟩ := fl_two w (.cells #[.slice a p.stocks.length c, .slice a' p.lines.length c'] 26) (.cells #[.slice none 0 0, .slice none 0 0] 26)
  rw [hW0] at x0 x1
  have hs0 : W0.heap.size = w.heap.size + 2 := by rw [← hW0]; simp
  have H0 : Hid (Below w.heap.size w W0 ∧ RBk W0 (.slice a p.stocks.length c) (.slice a' p.lines.length c') p ∧ W0.heap[w.heap.size]? = some (.cells #[.slice a p.stocks.length c, .slice a' p.lines.length c'] 26) ∧ W0.heap[w.heap.size + 1]? = some (.cells #[.slice none 0 0, .slice none 0 0] 26) ∧ BdBk 1048576 p ∧ W0.heap.size = w.heap.size + 2) := ⟨hb0, h.below hb0, x0, x1, hP, hs0⟩
  obtain ⟨c0, c1⟩ := box2 x0
  obtain ⟨d0, d1⟩ := box2 x1
  have df := frz2 x1
  have hRw : Hid (RBk w (.slice a p.stocks.length c) (.slice a' p.lines.length c') p) := h
  clear h hb0 x0 x1 hP hs0
  go_enter Try.func6, Try.ntmps6
  go_upto_region 1 with fail
  try rw [hW0]
  clear hW0
  by_cases hl : 20000 < t.size
  · have hl' : (20000 : Int) < (t.size : Int) := by omega
    have HN : Hid (moveT p t z = ⟨[], []⟩) := moveT_long hl
    go_wp2
    have hb := H0.out.1
    have hE : Below w.heap.size w ((W0.setCell ⟨w.heap.size + 1, 0, none⟩ (.slice none 0 0)).setCell ⟨w.heap.size + 1, 1, none⟩ (.slice none 0 0)) := (hb.setCell (show w.heap.size ≤ w.heap.size + 1 by omega) _).setCell (show w.heap.size ≤ w.heap.size + 1 by omega) _
    exact bodyPost_ret (v := .agg #[.slice none 0 0, .slice none 0 0]) (by simp [results, Try.results6, go_sem, d0, d1]) rfl ⟨_, _, w.heap.size, w.heap.size, rfl, Nat.le_refl _, Nat.le_refl _, by rw [HN.out]; exact LSt.nil _ _, by rw [HN.out]; exact LOl.nil _ _, hE⟩
  have hl' : ¬ (20000 : Int) < (t.size : Int) := by omega
  have HM : Hid (moveT p t z = movT p t z) := moveT_short hl
  clear hl
  go_wp2_with fail
  refine (copyOfBook_any p _ _ _ H0.out.2.1 H0.out.2.2.2.2.1).mono ?_
  rintro e w1 ⟨us1, ul1, bs, bl, rfl, hbs, hbl, hLs, hLl, _, hb1⟩
  obtain ⟨A1, C1, rfl⟩ := hLs.val
  obtain ⟨A2, C2, rfl⟩ := hLl.val
  obtain ⟨B, hB⟩ : ∃ B, B = w1.heap.size := ⟨_, rfl⟩
  obtain ⟨Wb, hWb⟩ : ∃ Wb, w1.alloc (.cells #[(.slice A1 p.stocks.length C1), (.slice A2 p.lines.length C2)] 26) = Wb := ⟨_, rfl⟩
  have hbW : Below w1.heap.size w1 Wb := by rw [← hWb]; exact (Below.refl _ _).alloc (Nat.le_refl _) _
  have s1 := hb1.size
  have s0 := H0.out.2.2.2.2.2
  have HQ0 : Hid (QM w Wb (.cells #[.slice a p.stocks.length c, .slice a' p.lines.length c'] 26) B bs bl (.slice A1 p.stocks.length C1) (.slice A2 p.lines.length C2) p) := by
    have q0 := (hb1.block _ (by omega)).trans H0.out.2.2.1
    have q1 := (hb1.block _ (by omega)).trans H0.out.2.2.2.1
    refine ⟨(H0.out.1.trans (hb1.mono H0.out.1.size)).trans (hbW.mono (by have := H0.out.1.size; omega)), (hbW.block _ (by omega)).trans q0, (hbW.block _ (by omega)).trans q1, ?_, hLs.below hbW, hLl.below hbW, by omega, by omega, by omega, fun hn => by have := hLl.lt hn; omega⟩
    rw [hB, ← hWb]
    exact World.alloc_heap_new _ _
  have HWB : Hid (w1.alloc (.cells #[(.slice A1 p.stocks.length C1), (.slice A2 p.lines.length C2)] 26) = Wb ∧ B = w1.heap.size) := ⟨hWb, hB⟩
  clear hLs hLl hbW hb1 c0 c1 d0 d1 df hWb hB hbs hbl s1 s0
  go_upto_region 4 with fail
  try rw [HWB.out.1]
  try rw [← HWB.out.2]
  clear HWB
  obtain ⟨c0, c1⟩ := box2 HQ0.out.arg
  obtain ⟨x, hx⟩ : ∃ x, x = bkB p := ⟨_, rfl⟩
  have HX : Hid (x = bkB p) := hx
  have Q1 := fun W h => bookRight_impl p (.slice a p.stocks.length c) (.slice a' p.lines.length c') W h
  rw [← hx] at Q1
  clear hx
  go_wp2_with fail
  refine (Q1 _ (hRw.out.below HQ0.out.bel)).mono ?_
  rintro e w2 ⟨rfl, hb2⟩
  have HQ2 : Hid (QM w w2 (.cells #[.slice a p.stocks.length c, .slice a' p.lines.length c'] 26) B bs bl (.slice A1 p.stocks.length C1) (.slice A2 p.lines.length C2) p) := HQ0.out.below hb2
  clear hb2 c0 c1 Q1 HQ0
  have Q2 := isName_any t
  obtain ⟨y, hy⟩ : ∃ y, y = nameB t := ⟨_, rfl⟩
  have HY : Hid (y = nameB t) := hy
  rw [← hy] at Q2
  clear hy
  cases x with
  | false =>
    have HN : Hid (moveT p t z = p) := by rw [HM.out]; exact movT_no fun g => by have h1 := HX.out; rw [g.right] at h1; cases h1
    obtain ⟨z0, z1⟩ := box2 HQ2.out.res
    have zf := frz2 HQ2.out.res
    obtain ⟨y0, y1⟩ := box2 HQ2.out.box
    go_wp2_with (first | (go_at_call 20; refine (Q2 _).mono ?_; rintro e w' ⟨rfl, rfl⟩))
    obtain ⟨k1, k2, k3⟩ := HQ2.out.done
    have g1 := HQ2.out.hs
    have g2 := HQ2.out.hl
    refine bodyPost_ret (v := .agg #[.slice A1 p.stocks.length C1, .slice A2 p.lines.length C2]) (by simp [results, Try.results6, go_sem, z0, z1]) rfl ?_
    first | exact ⟨_, _, bs, bl, rfl, by omega, by omega, by rw [HN.out]; exact k2, by rw [HN.out]; exact k3, k1⟩ | exact ⟨_, _, rfl, bs, by omega, bl, by omega, by rw [HN.out]; exact k2, by rw [HN.out]; exact k3, k1⟩
  | true =>
  cases y with
  | false =>
    have HN : Hid (moveT p t z = p) := by rw [HM.out]; exact movT_no fun g => by have h1 := HY.out; rw [g.nm] at h1; cases h1
    obtain ⟨z0, z1⟩ := box2 HQ2.out.res
    have zf := frz2 HQ2.out.res
    obtain ⟨y0, y1⟩ := box2 HQ2.out.box
    go_wp2_with (first | (go_at_call 20; refine (Q2 _).mono ?_; rintro e w' ⟨rfl, rfl⟩))
    obtain ⟨k1, k2, k3⟩ := HQ2.out.done
    have g1 := HQ2.out.hs
    have g2 := HQ2.out.hl
    refine bodyPost_ret (v := .agg #[.slice A1 p.stocks.length C1, .slice A2 p.lines.length C2]) (by simp [results, Try.results6, go_sem, z0, z1]) rfl ?_
    first | exact ⟨_, _, bs, bl, rfl, by omega, by omega, by rw [HN.out]; exact k2, by rw [HN.out]; exact k3, k1⟩ | exact ⟨_, _, rfl, bs, by omega, bl, by omega, by rw [HN.out]; exact k2, by rw [HN.out]; exact k3, k1⟩
  | true =>
  have hR := (bkB_iff.1 HX.out.symm).1
  have hln := hR.len
  have htn := (nameB_sizes HY.out.symm).2
  have HRR : Hid (RiseS p.stocks ∧ ∀ x ∈ p.stocks, x.item.size ≤ 12) := ⟨hR.rise', hR.small⟩
  have hh : handT p t = ((findS t p.stocks).map Stk.hand).getD 0 := by unfold handT; rw [← HX.out]; simp
  obtain ⟨hd, hhd⟩ : ∃ hd, hd = handT p t := ⟨_, rfl⟩
  have hbd := handT_bound p t
  rw [← hhd] at hbd hh
  obtain ⟨hd0, hd1⟩ := hbd
  have HH : Hid (hd = handT p t ∧ hd = ((findS t p.stocks).map Stk.hand).getD 0) := ⟨hhd, hh⟩
  clear hR hh hhd
  obtain ⟨c0, c1⟩ := box2 HQ2.out.arg
  go_upto_region 6 with (first | (go_at_call 20; refine (Q2 _).mono ?_; rintro e w2 ⟨rfl, rfl⟩))
  clear Q2
  go_wp2_with fail
  refine (handsOf_any _ p.stocks _ (hRw.out.st.below HQ2.out.bel) hln HRR.out.1 HRR.out.2).mono ?_
  rintro e w4 ⟨rfl, ho, hb4⟩
  obtain ⟨M, hM⟩ : ∃ M, M = w2.heap.size := ⟨_, rfl⟩
  rw [← hM] at ho
  have HQ4 : Hid (QM w w4 (.cells #[.slice a p.stocks.length c, .slice a' p.lines.length c'] 26) B bs bl (.slice A1 p.stocks.length C1) (.slice A2 p.lines.length C2) p) := HQ2.out.below hb4
  have H4 : Hid (Below w2.heap.size w2 w4 ∧ w4.ownsMap Try.prog 9 rdZ M p.stocks.length (mapS p.stocks) ∧ M = w2.heap.size) := ⟨hb4, ho, hM⟩
  have hL := lookS ho (t := t) (by unfold maxLen; omega)
  rw [← HH.out.2] at hL
  try rw [← hM]
  clear hb4 c0 c1 hM
  have Q4 := moveHand_any M p.stocks.length p.stocks t z w4 ho (by omega) (by omega) (by omega) (by show 0 ≤ ((findS t p.stocks).map Stk.hand).getD 0 ∧ ((findS t p.stocks).map Stk.hand).getD 0 ≤ 1000000000; rw [← HH.out.2]; omega)
  have hnd : hndL p.stocks t = hd := HH.out.2.symm
  obtain ⟨bb, hbb⟩ : ∃ bb, bb = mhB p.stocks t z := ⟨_, rfl⟩
  have HBB : Hid (bb = mhB p.stocks t z ∧ hndL p.stocks t = hd) := ⟨hbb, hnd⟩
  clear hL hnd hbb ho
  go_wp2_with fail
  refine Q4.mono ?_
  rintro e w5 ⟨rfl, hout⟩
  rw [← HBB.out.1] at hout
  rw [← HBB.out.1]
  clear Q4
  cases bb with
  | false =>
    obtain rfl : w5 = w4 := by
      rcases hout with ⟨_, q⟩ | ⟨q, _⟩
      · exact q
      · cases q
    have HN : Hid (moveT p t z = p) := by
      rw [HM.out]
      refine movT_no fun g => ?_
      have hB := HBB.out.1.symm
      unfold mhB at hB
      rw [HBB.out.2] at hB
      have q1 := g.lo
      have q2 := g.hi
      rw [← HH.out.1] at q1 q2
      have r1 : decide (-hd ≤ z) = true := by simp; omega
      have r2 : decide (z ≤ 1000000000 - hd) = true := by simp; omega
      rw [r1, r2] at hB
      rcases g.room with hf | hf
      · rw [hf] at hB; cases hB
      · have r3 : decide (p.stocks.length < 100) = true := by simp; omega
        rw [r3] at hB
        simp at hB
    clear hout
    obtain ⟨z0, z1⟩ := box2 HQ4.out.res
    have zf := frz2 HQ4.out.res
    obtain ⟨y0, y1⟩ := box2 HQ4.out.box
    go_wp2
    obtain ⟨k1, k2, k3⟩ := HQ4.out.done
    have g1 := HQ4.out.hs
    have g2 := HQ4.out.hl
    refine bodyPost_ret (v := .agg #[.slice A1 p.stocks.length C1, .slice A2 p.lines.length C2]) (by simp [results, Try.results6, go_sem, z0, z1]) rfl ?_
    first | exact ⟨_, _, bs, bl, rfl, by omega, by omega, by rw [HN.out]; exact k2, by rw [HN.out]; exact k3, k1⟩ | exact ⟨_, _, rfl, bs, by omega, bl, by omega, by rw [HN.out]; exact k2, by rw [HN.out]; exact k3, k1⟩
  | true =>
  obtain ⟨hgrow5, hown5⟩ : w4.grownBy w5 (some M) ∧ w5.ownsMap Try.prog 9 rdZ M (p.stocks.length + 1) (mapS (mvS p.stocks t z)) := by
    rcases hout with ⟨q, _⟩ | ⟨_, q⟩
    · cases q
    · exact q
  have hmv : mvS p.stocks t z = mvL p t z := by unfold mvS mvL; rw [HBB.out.2, HH.out.1]
  rw [hmv] at hown5
  have hOk0 : -hd ≤ z ∧ z ≤ 1000000000 - hd ∧ ((findS t p.stocks).isSome = true ∨ p.stocks.length < 100) := by
    have hB := HBB.out.1.symm
    unfold mhB at hB
    rw [HBB.out.2] at hB
    simpa [Bool.and_eq_true, Bool.or_eq_true, decide_eq_true_eq] using hB
  have hOk : Hid (-hd ≤ z ∧ z ≤ 1000000000 - hd ∧ ((findS t p.stocks).isSome = true ∨ p.stocks.length < 100)) := hOk0
  clear hout hmv hOk0
  have hb5 : Below w2.heap.size w2 w5 := H4.out.1.trans (grown_belowS hgrow5 (by rw [H4.out.2.2]; exact Nat.le_refl _) H4.out.1.size)
  have HQ5 : Hid (QM w w5 (.cells #[.slice a p.stocks.length c, .slice a' p.lines.length c'] 26) B bs bl (.slice A1 p.stocks.length C1) (.slice A2 p.lines.length C2) p) := HQ2.out.below hb5
  have HO : Hid (w5.ownsMap Try.prog 9 rdZ M (p.stocks.length + 1) (mapS (mvL p t z))) := hown5
  have hNl := mvL_len (p := p) (t := t) (z := z) HRR.out.1
  have hNr := mvL_rise (p := p) (t := t) (z := z) HRR.out.1
  have hNs := mvL_small (p := p) (t := t) (z := z) HRR.out.2 htn
  obtain ⟨nl, hnl⟩ : ∃ nl, nl = mvL p t z := ⟨_, rfl⟩
  rw [← hnl] at hNl hNr hNs
  have HNL : Hid (nl = mvL p t z ∧ nl.length = (if (findS t p.stocks).isSome = true then p.stocks.length else p.stocks.length + 1) ∧ RiseS nl ∧ ∀ x ∈ nl, x.item.size ≤ 12) := ⟨hnl, hNl, hNr, hNs⟩
  have hN : nl.length ≤ 100 := by
    rcases hOk.out.2.2 with q | q
    · rw [if_pos q] at hNl; omega
    · split at hNl <;> omega
  clear hown5 hgrow5 hb5 hnl hNl hNr hNs
  have HN : Hid (moveT p t z = ⟨nl, p.lines⟩) := by
    show _ = _
    rw [HM.out, HNL.out.1]
    refine movT_yes ⟨HX.out.symm, HY.out.symm, by rw [← HH.out.1]; have := hOk.out.1; omega, by rw [← HH.out.1]; have := hOk.out.2.1; omega, ?_⟩
    rcases hOk.out.2.2 with q | q
    · exact .inl q
    · exact .inr (by omega)
  have Q5 := stocksOf_any M (p.stocks.length + 1) nl w5 (by rw [HNL.out.1]; exact HO.out) (by omega) HNL.out.2.2.1 HNL.out.2.2.2
  obtain ⟨e0, e1⟩ := box2 HQ5.out.box
  go_wp2_with fail
  refine Q5.mono ?_
  rintro e w6 ⟨v6, rfl, hrow6, hb6⟩
  obtain ⟨bs6, hbs6, hLs6⟩ := LSt.of_owns hrow6 (by omega) (smallL HNL.out.2.2.2)
  obtain ⟨A6, C6, rfl⟩ := hLs6.val
  have HQ6 : Hid (QM w w6 (.cells #[.slice a p.stocks.length c, .slice a' p.lines.length c'] 26) B bs bl (.slice A1 p.stocks.length C1) (.slice A2 p.lines.length C2) p) := HQ5.out.below hb6
  have hxB := (Array.getElem?_eq_some_iff.1 HQ5.out.box).1
  have hsz := HQ5.out.bel.size
  have HQ7 : Hid (QM w (w6.setCell ⟨B, 0, none⟩ (.slice A6 nl.length C6)) (.cells #[.slice a p.stocks.length c, .slice a' p.lines.length c'] 26) B bs6 bl (.slice A6 nl.length C6) (.slice A2 p.lines.length C2) ⟨nl, p.lines⟩) := HQ6.out.put hLs6 (by omega) (by have := HQ5.out.hB; omega)
  obtain ⟨f0, f1⟩ := box2 HQ6.out.box
  have ff := frz2 HQ6.out.box
  clear hrow6 hb6 hLs6 Q5 e0 e1
  obtain ⟨W7, hW7⟩ : ∃ W7, w6.setCell ⟨B, 0, none⟩ (.slice A6 nl.length C6) = W7 := ⟨_, rfl⟩
  go_upto_region 9 with fail
  try rw [hW7]
  rw [hW7] at HQ7
  clear hW7 f0 f1 ff HQ6
  obtain ⟨z0, z1⟩ := box2 HQ7.out.res
  have zf := frz2 HQ7.out.res
  obtain ⟨y0, y1⟩ := box2 HQ7.out.box
  go_wp2
  obtain ⟨k1, k2, k3⟩ := HQ7.out.done
  have g1 := HQ7.out.hs
  have g2 := HQ7.out.hl
  refine bodyPost_ret (v := .agg #[.slice A6 nl.length C6, .slice A2 p.lines.length C2]) (by simp [results, Try.results6, go_sem, z0, z1]) rfl ?_
  first | exact ⟨_, _, bs6, bl, rfl, by omega, by omega, by rw [HN.out]; exact k2, by rw [HN.out]; exact k3, k1⟩ | exact ⟨_, _, rfl, bs6, by omega, bl, by omega, by rw [HN.out]; exact k2, by rw [HN.out]; exact k3, k1⟩
end Go.Proofs.Ytenjcmgkfemmgaa
