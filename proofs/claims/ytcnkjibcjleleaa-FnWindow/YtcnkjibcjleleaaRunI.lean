/- Contract of impl.PartnerRun. -/
import Derived.Test.YtcnkjibcjleleaaRunP
import Derived.Test.YtcnkjibcjleleaaPtkI
namespace Go.Proofs.Ytcnkjibcjleleaa
open Go.ChangeShapes Go.WideShapes Go.ChangeAt Go.RowKit
theorem cell_new (W : World) (z : Int) : (W.alloc (.cells #[.int .i64 z] 2)).cell? ⟨W.heap.size, 0, none⟩ = some (.int .i64 z) := by simp [go_sem]
set_option maxHeartbeats 8000000 in
theorem run_impl (name : ByteArray) (v : Value) (zs : List Int) (w : World) (h : RowN w v zs) : Calls Try.prog 7 #[.string name, v] w fun e w' => ∃ u, e = .returned u ∧ (∃ b, w.heap.size ≤ b ∧ LN b w' u (runL name zs)) ∧ Below w.heap.size w w' := by
  have hlen := h.len
  obtain ⟨A, C, rfl⟩ := h.val
  have HR : Hid (RowN w (.slice A zs.length C) zs) := h
  clear h
  have HNO : Hid (okRun name zs = false → ∀ W : World, ∃ b, w.heap.size ≤ b ∧ LN b W (.slice none 0 0) (runL name zs)) := fun h W => ⟨w.heap.size, Nat.le_refl _, by rw [runL_no h]; exact ⟨⟨_, _, rfl, fun hn => absurd rfl hn⟩, by simp⟩⟩
  by_cases hl : 400 < zs.length
  · have hl' : (400 : Int) < (zs.length : Int) := by omega
    go_enter Try.func7, Try.ntmps7
    go_wp2
    go_ret
    exact ⟨_, rfl, HNO.out (by rw [okRun, decide_eq_false (by omega)]; rfl) _, Below.refl _ _⟩
  have hl' : ¬ (400 : Int) < (zs.length : Int) := by omega
  go_enter Try.func7, Try.ntmps7
  go_wp2_with fail
  refine (isName_any name _).mono ?_
  rintro e w1 ⟨rfl, hw1⟩
  replace hw1 := hw1.symm
  subst hw1
  cases hn : nameB name
  · go_wp2
    go_ret
    exact ⟨_, rfl, HNO.out (by rw [okRun, hn]; simp) _, Below.refl _ _⟩
  go_wp2_with fail
  refine (ptNew_impl name _).mono ?_
  rintro e w1 ⟨rfl, hb1⟩
  have pq0 : PQ w (w1.alloc (.cells #[.string (newP name).name, .int .i64 (newP name).low, .int .i64 (newP name).next, .slice none 0 0] 30)) w1.heap.size (newP name) (.slice none 0 0) (.slice none 0 0) [] :=
    ⟨hb1.alloc hb1.size _, World.alloc_heap_new _ _, ⟨w1.heap.size + 1, by omega, by rw [newP_seen]; exact LSn.nil _ _⟩, World.ownsRow_nil _ _ _ _, by simp [Value.ownBlock], newP_size name, hb1.size⟩
  have HPQ : Hid (PQ w (w1.alloc (.cells #[.string (newP name).name, .int .i64 (newP name).low, .int .i64 (newP name).next, .slice none 0 0] 30)) w1.heap.size (newP name) (.slice none 0 0) (.slice none 0 0) []) := pq0
  clear pq0 hb1
  go_wp2
  go_loopw [5, 22] (fun lv i wr => ∃ (j : Nat) (p : Ptn) (v : Value) (acc : List Int), i = .int .i64 (j : Int) ∧ j ≤ zs.length ∧ (∃ A C, lv = .slice A acc.length C) ∧ acc.length = j ∧ PQ w wr w1.heap.size p v lv acc ∧ runK (newP name) zs = acc ++ runK p (zs.drop j) ∧ ∀ (i : Nat) (z : Int), i < j → zs[i]? = some z → ctlB z = true) (fun _ i _ => zs.length - (intOf i).toNat)
  case atStart => exact ⟨0, newP name, .slice none 0 0, [], rfl, by omega, ⟨none, 0, rfl⟩, rfl, HPQ.out, by simp, fun i z hi => by omega⟩
  case round =>
    obtain ⟨j, p, v, acc, rfl, hj, ⟨A1, C1, rfl⟩, hacc, hq, hK, hA⟩ := hrel
    obtain ⟨Av, Cv, hv⟩ : ∃ Av Cv, v = .slice Av p.seen.length Cv := by
      obtain ⟨_, _, hl⟩ := hq.ls
      exact hl.val
    subst hv
    have HE : Hid (PQ w wr w1.heap.size p (.slice Av p.seen.length Cv) (.slice A1 acc.length C1) acc ∧ runK (newP name) zs = acc ++ runK p (zs.drop j) ∧ ∀ (i : Nat) (z : Int), i < j → zs[i]? = some z → ctlB z = true) := ⟨hq, hK, hA⟩
    have HACC : Hid (acc.length = j) := hacc
    have hal : acc.length ≤ 400 := by omega
    clear hK hA hacc
    by_cases hlt : j < zs.length
    · have hlt' : (j : Int) < (zs.length : Int) := by omega
      obtain ⟨bb, oo, cap', z, e, hs, q0⟩ := (HR.out.below hq.bel).at hlt
      simp only [Value.slice.injEq, true_and] at e
      obtain ⟨rfl, rfl⟩ := e
      have HS : Hid (zs[j]? = some z) := hs
      obtain ⟨⟨x0, x1, x2, x3⟩, xf⟩ := hq.cells
      clear hs hq
      go_wp2_with fail
      refine (isControl_any z _).mono ?_
      rintro e w2 ⟨rfl, hw2⟩
      replace hw2 := hw2.symm
      subst hw2
      cases hz : ctlB z
      · go_wp2
        go_ret
        exact ⟨_, rfl, HNO.out (okRun_at HS.out hz) _, HE.out.1.bel⟩
      obtain ⟨t, ht⟩ : ∃ t, t = takeT p z 0 := ⟨_, rfl⟩
      have HTk : Hid (t = takeT p z 0 ∧ ctlB z = true) := ⟨ht, hz⟩
      have CI : Hid (∀ (v : Value) (w : World), RPt w v p → Calls Try.prog 10 #[.agg #[.string p.name, .int .i64 p.low, .int .i64 p.next, v], .int .i64 z, .int .i64 0] w fun e w' => ∃ u b, e = .returned (t.val u) ∧ w.heap.size ≤ b ∧ LSn b w' u t.p.seen ∧ Below w.heap.size w w') := by rw [ht]; exact fun v w h => take_impl p v z 0 w h
      clear ht hz
      go_wp2_with fail
      refine (CI.out _ _ HE.out.1.row).mono ?_
      rintro e w2 ⟨u2, b2, rfl, hb2, hl2, hbw2⟩
      obtain ⟨A2, C2, hv2⟩ := hl2.val
      subst hv2
      obtain ⟨W2, hW2⟩ : ∃ W2, w2.alloc (.cells #[.string t.p.name, .int .i64 t.p.low, .int .i64 t.p.next, (.slice A2 t.p.seen.length C2), .int .i64 t.kind, .int .i64 t.seen.number, .int .i64 t.seen.answer, .int .i64 t.seen.code, .int .i64 t.code] 36) = W2 := ⟨_, rfl⟩
      have hoa : Below w2.heap.size w2 W2 := by rw [← hW2]; exact (Below.refl _ _).alloc (Nat.le_refl _) _
      have hob : W2.heap[w2.heap.size]? = some (.cells #[.string t.p.name, .int .i64 t.p.low, .int .i64 t.p.next, (.slice A2 t.p.seen.length C2), .int .i64 t.kind, .int .i64 t.seen.number, .int .i64 t.seen.answer, .int .i64 t.seen.code, .int .i64 t.code] 36) := by rw [← hW2]; exact World.alloc_heap_new _ _
      have pq2 := (HE.out.1.below hbw2).below hoa
      have hl3 := hl2.below hoa
      have hPlt := HE.out.1.lt
      have hnm : t.p.name.size ≤ 12 := by rw [HTk.out.1]; exact takeT_name12 HE.out.1.nm
      have H2 : Hid (PQ w W2 w1.heap.size p (.slice Av p.seen.length Cv) (.slice A1 acc.length C1) acc ∧ LSn b2 W2 (.slice A2 t.p.seen.length C2) t.p.seen ∧ w1.heap.size < b2) := ⟨pq2, hl3, by omega⟩
      have o0 : W2.cell? ⟨w2.heap.size, 0, none⟩ = some (.string t.p.name) := by simp [World.cell?, hob]
      have o1 : W2.cell? ⟨w2.heap.size, 1, none⟩ = some (.int .i64 t.p.low) := by simp [World.cell?, hob]
      have o2 : W2.cell? ⟨w2.heap.size, 2, none⟩ = some (.int .i64 t.p.next) := by simp [World.cell?, hob]
      have o3 : W2.cell? ⟨w2.heap.size, 3, none⟩ = some (.slice A2 t.p.seen.length C2) := by simp [World.cell?, hob]
      have o4 : W2.cell? ⟨w2.heap.size, 4, none⟩ = some (.int .i64 t.kind) := by simp [World.cell?, hob]
      have o8 : W2.cell? ⟨w2.heap.size, 8, none⟩ = some (.int .i64 t.code) := by simp [World.cell?, hob]
      obtain ⟨⟨y0, y1, y2, y3⟩, yf⟩ := pq2.cells
      have hno : w2.heap.size ≠ w1.heap.size := by have := hbw2.size; omega
      clear hl2 hbw2 hoa hob pq2 hl3 x0 x1 x2 x3 xf q0 CI
      have HW2 : Hid (w2.alloc (.cells #[.string t.p.name, .int .i64 t.p.low, .int .i64 t.p.next, (.slice A2 t.p.seen.length C2), .int .i64 t.kind, .int .i64 t.seen.number, .int .i64 t.seen.answer, .int .i64 t.seen.code, .int .i64 t.code] 36) = W2) := hW2
      clear hW2
      unfold Tk.val
      go_upto_region 11 with fail
      rw [HW2.out]
      by_cases hc : t.code = 0
      · have hc' : (t.code == 0) = true := by simpa using hc
        have HC : Hid (t.code = 0) := hc
        clear hc
        have pq4 := H2.out.1.set H2.out.2.2 H2.out.2.1 hnm
        have H4 : Hid (PQ w ((((W2.setCell ⟨w1.heap.size, 0, none⟩ (.string t.p.name)).setCell ⟨w1.heap.size, 1, none⟩ (.int .i64 t.p.low)).setCell ⟨w1.heap.size, 2, none⟩ (.int .i64 t.p.next)).setCell ⟨w1.heap.size, 3, none⟩ (.slice A2 t.p.seen.length C2)) w1.heap.size t.p (.slice A2 t.p.seen.length C2) (.slice A1 acc.length C1) acc) := pq4
        have O4 : ((((W2.setCell ⟨w1.heap.size, 0, none⟩ (.string t.p.name)).setCell ⟨w1.heap.size, 1, none⟩ (.int .i64 t.p.low)).setCell ⟨w1.heap.size, 2, none⟩ (.int .i64 t.p.next)).setCell ⟨w1.heap.size, 3, none⟩ (.slice A2 t.p.seen.length C2)).cell? ⟨w2.heap.size, 4, none⟩ = some (.int .i64 t.kind) := by
          rw [← o4]
          refine World.cell?_of_block ?_
          rw [Below.heap_setCell _ _ _ _ (show w2.heap.size ≠ w1.heap.size from hno), Below.heap_setCell _ _ _ _ (show w2.heap.size ≠ w1.heap.size from hno), Below.heap_setCell _ _ _ _ (show w2.heap.size ≠ w1.heap.size from hno), Below.heap_setCell _ _ _ _ (show w2.heap.size ≠ w1.heap.size from hno)]
        clear pq4
        obtain ⟨W4, hW4⟩ : ∃ W4, ((((W2.setCell ⟨w1.heap.size, 0, none⟩ (.string t.p.name)).setCell ⟨w1.heap.size, 1, none⟩ (.int .i64 t.p.low)).setCell ⟨w1.heap.size, 2, none⟩ (.int .i64 t.p.next)).setCell ⟨w1.heap.size, 3, none⟩ (.slice A2 t.p.seen.length C2)) = W4 := ⟨_, rfl⟩
        rw [hW4] at H4 O4
        have HW4 : Hid (((((W2.setCell ⟨w1.heap.size, 0, none⟩ (.string t.p.name)).setCell ⟨w1.heap.size, 1, none⟩ (.int .i64 t.p.low)).setCell ⟨w1.heap.size, 2, none⟩ (.int .i64 t.p.next)).setCell ⟨w1.heap.size, 3, none⟩ (.slice A2 t.p.seen.length C2)) = W4) := hW4
        clear hW4
        go_upto_region 13 with fail
        rw [HW4.out]
        clear o0 o1 o2 o3 o4 o8 y0 y1 y2 y3 yf
        go_wp2_with (first | (at_builtin; refine wpList_appN (z := t.kind) (zs := acc) (base := w.heap.size) rfl _ _ rfl rfl rfl (H4.out.own.alloc _) (cell_new _ _) (by omega) (by have hsz := H4.out.bel.size; simp only [World.size_alloc]; omega) ?_; rintro v6 w6 hown6 hgrow6 ⟨A6, C6, rfl⟩))
        have pq6 := H4.out.app hgrow6 hown6
        have e6 : (acc ++ [t.kind]).length = acc.length + 1 := by simp
        refine ⟨⟨j + 1, t.p, _, acc ++ [t.kind], by go_num, by omega, ⟨A6, C6, by rw [e6]⟩, by rw [e6, HACC.out], pq6, ?_, fun i z' hi hz' => ?_⟩, by simp [intOf]; omega⟩
        · rw [HE.out.2.1, runK_step HS.out, stepP, ← HTk.out.1, if_pos HC.out]
          simp
        · rcases Nat.lt_or_ge i j with g | g
          · exact HE.out.2.2 i z' g hz'
          · obtain rfl : i = j := by omega
            rw [HS.out] at hz'
            cases hz'
            exact HTk.out.2
      · have hc' : (t.code == 0) = false := by simpa using hc
        have HC : Hid (¬ t.code = 0) := hc
        clear hc
        go_wp2_with (first | (at_builtin; refine wpList_appN (z := t.kind) (zs := acc) (base := w.heap.size) rfl _ _ rfl rfl rfl (H2.out.1.own.alloc _) (cell_new _ _) (by omega) (by have hsz := H2.out.1.bel.size; simp only [World.size_alloc]; omega) ?_; rintro v6 w6 hown6 hgrow6 ⟨A6, C6, rfl⟩))
        have pq6 := H2.out.1.app hgrow6 hown6
        have e6 : (acc ++ [t.kind]).length = acc.length + 1 := by simp
        refine ⟨⟨j + 1, p, _, acc ++ [t.kind], by go_num, by omega, ⟨A6, C6, by rw [e6]⟩, by rw [e6, HACC.out], pq6, ?_, fun i z' hi hz' => ?_⟩, by simp [intOf]; omega⟩
        · rw [HE.out.2.1, runK_step HS.out, stepP, ← HTk.out.1, if_neg HC.out]
          simp
        · rcases Nat.lt_or_ge i j with g | g
          · exact HE.out.2.2 i z' g hz'
          · obtain rfl : i = j := by omega
            rw [HS.out] at hz'
            cases hz'
            exact HTk.out.2
    · obtain rfl : j = zs.length := by omega
      clear hq
      go_wp2
      go_ret
      have hok : okRun name zs = true := by
        rw [okRun, hn, decide_eq_true (show zs.length ≤ 400 by omega)]
        simp only [Bool.true_and, List.all_eq_true]
        intro z hz
        obtain ⟨i, hi⟩ := List.getElem?_of_mem hz
        exact HE.out.2.2 i z (List.getElem?_eq_some_iff.1 hi).1 hi
      have hfin : runL name zs = acc := by rw [runL_yes hok, HE.out.2.1, runK_end, List.append_nil]
      rw [hfin]
      obtain ⟨b, hb, hL⟩ := LN.of_owns HE.out.1.own (by omega)
      exact ⟨_, rfl, ⟨b, hb, hL⟩, HE.out.1.bel⟩
end Go.Proofs.Ytcnkjibcjleleaa
