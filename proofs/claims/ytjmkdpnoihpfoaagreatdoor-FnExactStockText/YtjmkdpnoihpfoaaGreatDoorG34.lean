/- Texts of ours put together: BiI. -/
import Derived.Test.YtjmkdpnoihpfoaaGreatDoorG32
import Derived.Test.YtjmkdpnoihpfoaaGreatDoorG28
import Derived.Test.YtjmkdpnoihpfoaaGreatDoorG33
namespace Go.Proofs.YtjmkdpnoihpfoaaGreatDoor
open Go.ChangeShapes Go.WideShapes Go.ChangeAt Go.RowKit Go.Sort
set_option maxRecDepth 20000 in
set_option maxHeartbeats 8000000 in
theorem bookItems_impl (p : Bk) (us ul : Value) (w : World) (h : RBk w us ul p) : Calls Tryz.prog 36 #[.agg #[us, ul]] w fun e w' => ∃ v, e = .returned v ∧ w'.ownsRow w.heap.size 9 1 v (itemsT p).length ((itemsT p).map Value.string) ∧ Below w.heap.size w w' := by
  obtain ⟨a, c, a', c', rfl, rfl⟩ := h.val
  obtain ⟨W0, hW0⟩ : ∃ W0, w.alloc (.cells #[.slice a p.stocks.length c, .slice a' p.lines.length c'] 31) = W0 := ⟨_, rfl⟩
  have hb0 : Below w.heap.size w W0 := by rw [← hW0]; exact (Below.refl _ _).alloc (Nat.le_refl _) _
  have hbx : W0.heap[w.heap.size]? = some (.cells #[.slice a p.stocks.length c, .slice a' p.lines.length c'] 31) := by rw [← hW0]; exact World.alloc_heap_new _ _
  have H0 : Hid (Below w.heap.size w W0 ∧ RBk W0 (.slice a p.stocks.length c) (.slice a' p.lines.length c') p ∧ W0.heap[w.heap.size]? = some (.cells #[.slice a p.stocks.length c, .slice a' p.lines.length c'] 31)) := ⟨hb0, h.below hb0, hbx⟩
  obtain ⟨c0, c1⟩ := box2 hbx
  have hlt0 := (Array.getElem?_eq_some_iff.1 hbx).1
  clear h hb0 hbx
  go_enter Tryz.func36, Tryz.ntmps36
  go_upto_region 1 with fail
  try rw [hW0]
  clear hW0
  obtain ⟨x, hx⟩ : ∃ x, x = bkB p := ⟨_, rfl⟩
  have HX : Hid (x = bkB p) := hx
  have Q1 := fun W h => bookRight_impl p (.slice a p.stocks.length c) (.slice a' p.lines.length c') W h
  rw [← hx] at Q1
  clear hx
  go_wp2_with fail
  refine (Q1 _ H0.out.2.1).mono ?_
  rintro e w1 ⟨rfl, hb1⟩
  have H1 : Hid (Below w.heap.size w w1 ∧ RBk w1 (.slice a p.stocks.length c) (.slice a' p.lines.length c') p ∧ w1.heap[w.heap.size]? = some (.cells #[.slice a p.stocks.length c, .slice a' p.lines.length c'] 31)) := ⟨H0.out.1.trans (hb1.mono H0.out.1.size), H0.out.2.1.below hb1, (hb1.block _ hlt0).trans H0.out.2.2⟩
  have hlt1 := (Array.getElem?_eq_some_iff.1 H1.out.2.2).1
  obtain ⟨d0, d1⟩ := box2 H1.out.2.2
  clear hb1 c0 c1 Q1
  cases x with
  | false =>
    have HN : Hid (itemsT p = []) := itemsT_no HX.out.symm
    go_wp2
    go_ret
    exact ⟨_, rfl, by rw [HN.out]; exact World.ownsRow_nil w1 w.heap.size 9 1, H1.out.1⟩
  | true =>
    have hR := bkB_iff.1 HX.out.symm
    have hl0 := hR.1.len
    have hl1 := hR.2.len
    have HSM : Hid ((∀ (k : Nat) (y : Stk), p.stocks[k]? = some y → y.item.size ≤ 12) ∧ ∀ (k : Nat) (y : OLn), p.lines[k]? = some y → y.item.size ≤ 12) := ⟨fun k y hy => (nameB_sizes (hR.1.ok y (List.mem_of_getElem? hy)).n).2, fun k y hy => (nameB_sizes (hR.2.ok y (List.mem_of_getElem? hy)).i).2⟩
    have HSt : Hid (RowSt w1 (.slice a p.stocks.length c) p.stocks) := H1.out.2.1.st
    have HLn : Hid (RowOl w1 (.slice a' p.lines.length c') p.lines) := H1.out.2.1.ln
    have HB1 : Hid (∀ W, Below w1.heap.size w1 W → W.cell? ⟨w.heap.size, 1, none⟩ = some (.slice a' p.lines.length c')) := fun W hW => (box2 ((hW.block _ hlt1).trans H1.out.2.2)).2
    clear hR
    go_wp2_with fail
    go_loopw [3, 14] (fun lv ix wr => ∃ (k : Nat) (A : Option Addr) (C : Nat) (ts : List ByteArray), ix = .int .i64 (k : Int) ∧ k ≤ p.stocks.length ∧ ts = (p.stocks.take k).map Stk.item ∧ ts.length = k ∧ lv = .slice A (k) C ∧ wr.ownsRow w1.heap.size 9 1 (.slice A (k) C) (k) (ts.map Value.string) ∧ Below w1.heap.size w1 wr) (fun _ ix _ => p.stocks.length - (intOf ix).toNat)
    case atStart => exact ⟨0, none, 0, [], rfl, by omega, by simp, rfl, rfl, by simpa using World.ownsRow_nil w1 w1.heap.size 9 1, Below.refl _ _⟩
    case round =>
      obtain ⟨k, A1, C1, ts, rfl, hk, hts, htl, rfl, hO, hb⟩ := hrel
      have HE : Hid (wr.ownsRow w1.heap.size 9 1 (.slice A1 (k) C1) (k) (ts.map Value.string) ∧ Below w1.heap.size w1 wr ∧ ts = (p.stocks.take k).map Stk.item ∧ ts.length = k) := ⟨hO, hb, hts, htl⟩
      clear hO hts htl
      by_cases hlt : k < p.stocks.length
      · have hlt' : (k : Int) < (p.stocks.length : Int) := by omega
        obtain ⟨b, o, cap', y, e, hs, hat, hz⟩ := (HSt.out.below hb).at hlt
        simp only [Value.slice.injEq, true_and] at e
        obtain ⟨rfl, rfl⟩ := e
        have HS : Hid (p.stocks[k]? = some y) := hs
        obtain ⟨q0, q1⟩ := hat
        obtain ⟨W3, hW3⟩ : ∃ W3, wr.alloc (.cells #[.string y.item, .int .i64 y.hand] 59) = W3 := ⟨_, rfl⟩
        have ha : Below wr.heap.size wr W3 := by rw [← hW3]; exact (Below.refl _ _).alloc (Nat.le_refl _) _
        have hbx : W3.heap[wr.heap.size]? = some (.cells #[.string y.item, .int .i64 y.hand] 59) := by rw [← hW3]; exact World.alloc_heap_new _ _
        obtain ⟨S, hS⟩ : ∃ S, S = wr.heap.size := ⟨_, rfl⟩
        rw [← hS] at hbx
        have HG : Hid (W3.ownsRow w1.heap.size 9 1 (.slice A1 (k) C1) (k) (ts.map Value.string) ∧ Below w1.heap.size w1 W3) := ⟨ownTx_below HE.out.1 ha, HE.out.2.1.trans (ha.mono HE.out.2.1.size)⟩
        have hsm : y.item.size ≤ 12 := HSM.out.1 k y hs
        obtain ⟨b0, b1⟩ := box2 hbx
        have HWW : Hid (wr.alloc (.cells #[.string y.item, .int .i64 y.hand] 59) = W3 ∧ S = wr.heap.size) := ⟨hW3, hS⟩
        clear hs hz hb ha hbx hW3 hS
        go_upto_region 7 with fail
        try rw [HWW.out.1]
        try rw [← HWW.out.2]
        clear HWW q0 q1
        go_wp2_with fail
        refine (clone_any y.item _ (by omega)).mono ?_
        rintro e w4 ⟨rfl, hb4⟩
        have hsz3 := HG.out.2.size
        have b4 : Below w1.heap.size w1 w4 := HG.out.2.trans (hb4.mono hsz3)
        have hrow4 := ownTx_below HG.out.1 hb4
        have hx5 : Below w4.heap.size w4 (w4.alloc (.cells #[.string y.item] 9)) := (Below.refl _ _).alloc (Nat.le_refl _) _
        have hrow5 := ownTx_below hrow4 hx5
        have b5 : Below w1.heap.size w1 (w4.alloc (.cells #[.string y.item] 9)) := b4.trans (hx5.mono b4.size)
        have hc5 : (w4.alloc (.cells #[.string y.item] 9)).cell? ⟨w4.heap.size, 0, none⟩ = some (.string y.item) := by simp [go_sem]
        obtain ⟨X, hX⟩ : ∃ X, w4.alloc (.cells #[.string y.item] 9) = X := ⟨_, rfl⟩
        rw [hX] at hrow5 b5 hc5
        have hlen5 : ts.length + 1 ≤ 2000000 := by have := HE.out.2.2.2; omega
        have etl : ts.length = k := HE.out.2.2.2
        rw [← etl] at hrow5
        have hs5 : w1.heap.size ≤ X.heap.size := b5.size
        have HET : Hid (ts.length = k) := etl
        clear hb4 hx5 hrow4 b4 etl
        go_upto_region 8 with (first | (at_builtin; refine wpList_appTx (base := w1.heap.size) (c := w4.heap.size) (C := 1) (lv := .slice A1 ts.length C1) (ss := ts) (t := y.item) rfl (.tmp 18) (.tmp 22) rfl (by rw [HET.out]; rfl) rfl hrow5 hc5 hlen5 hs5 ?_; rintro v6 w6 hown6 hgrow6 ⟨A6, C6, rfl⟩)) 
        have H6 : Hid (w6.ownsRow w1.heap.size 9 1 (.slice A6 (ts.length + 1) C6) (ts.length + 1) ((ts ++ [y.item]).map Value.string) ∧ Below w1.heap.size w1 w6) := ⟨hown6, appTx_below b5 hrow5 hgrow6 hs5⟩
        have e5 : ts.length + 1 = (k + 1) := by have := HE.out.2.2.2; omega
        rw [e5] at H6 ⊢
        have H7 : Hid (ts ++ [y.item] = (p.stocks.take (k + 1)).map Stk.item) := by
          show _ = _
          rw [HE.out.2.2.1, List.take_add_one, HS.out]
          simp
        clear hown6 hgrow6 hrow5 b5 hc5 hX e5
        go_wp2
        go_roundw
        case rel => exact ⟨k + 1, A6, C6, ts ++ [y.item], by go_num, by omega, H7.out, by have := HE.out.2.2.2; simp; omega, rfl, H6.out.1, H6.out.2⟩
        case measure => simp [intOf]; omega
      · obtain rfl : k = p.stocks.length := by omega
        have h2 := HE.out
        rw [List.take_length] at h2
        have H2 : Hid (wr.ownsRow w1.heap.size 9 1 (.slice A1 p.stocks.length C1) p.stocks.length (ts.map Value.string) ∧ Below w1.heap.size w1 wr ∧ ts = p.stocks.map Stk.item ∧ ts.length = p.stocks.length) := h2
        have d2 := HB1.out wr hb
        clear h2 HE hb d0 d1
        go_wp2_with fail
        go_loopw [3, 28] (fun lv ix wr => ∃ (k : Nat) (A : Option Addr) (C : Nat) (ts : List ByteArray), ix = .int .i64 (k : Int) ∧ k ≤ p.lines.length ∧ ts = p.stocks.map Stk.item ++ (p.lines.take k).map OLn.item ∧ ts.length = p.stocks.length + k ∧ lv = .slice A (p.stocks.length + k) C ∧ wr.ownsRow w1.heap.size 9 1 (.slice A (p.stocks.length + k) C) (p.stocks.length + k) (ts.map Value.string) ∧ Below w1.heap.size w1 wr) (fun _ ix _ => p.lines.length - (intOf ix).toNat)
        case atStart => exact ⟨0, A1, C1, ts, rfl, by omega, by rw [H2.out.2.2.1]; simp, H2.out.2.2.2, rfl, H2.out.1, H2.out.2.1⟩
        case round =>
          obtain ⟨k, A1, C1, ts, rfl, hk, hts, htl, rfl, hO, hb⟩ := hrel
          have HE : Hid (wr.ownsRow w1.heap.size 9 1 (.slice A1 (p.stocks.length + k) C1) (p.stocks.length + k) (ts.map Value.string) ∧ Below w1.heap.size w1 wr ∧ ts = p.stocks.map Stk.item ++ (p.lines.take k).map OLn.item ∧ ts.length = p.stocks.length + k) := ⟨hO, hb, hts, htl⟩
          clear hO hts htl
          by_cases hlt : k < p.lines.length
          · have hlt' : (k : Int) < (p.lines.length : Int) := by omega
            obtain ⟨b, o, cap', y, e, hs, hat, hz⟩ := (HLn.out.below hb).at hlt
            simp only [Value.slice.injEq, true_and] at e
            obtain ⟨rfl, rfl⟩ := e
            have HS : Hid (p.lines[k]? = some y) := hs
            obtain ⟨q0, q1, q2, q3, q4, q5, q6, q7⟩ := hat
            obtain ⟨W3, hW3⟩ : ∃ W3, wr.alloc (.cells #[.string y.partner, .string y.ref, .int .i64 y.no, .string y.item, .int .i64 y.ordered, .int .i64 y.sent, .int .i64 y.got, .int .i64 y.cut] 61) = W3 := ⟨_, rfl⟩
            have ha : Below wr.heap.size wr W3 := by rw [← hW3]; exact (Below.refl _ _).alloc (Nat.le_refl _) _
            have hbx : W3.heap[wr.heap.size]? = some (.cells #[.string y.partner, .string y.ref, .int .i64 y.no, .string y.item, .int .i64 y.ordered, .int .i64 y.sent, .int .i64 y.got, .int .i64 y.cut] 61) := by rw [← hW3]; exact World.alloc_heap_new _ _
            obtain ⟨S, hS⟩ : ∃ S, S = wr.heap.size := ⟨_, rfl⟩
            rw [← hS] at hbx
            have HG : Hid (W3.ownsRow w1.heap.size 9 1 (.slice A1 (p.stocks.length + k) C1) (p.stocks.length + k) (ts.map Value.string) ∧ Below w1.heap.size w1 W3) := ⟨ownTx_below HE.out.1 ha, HE.out.2.1.trans (ha.mono HE.out.2.1.size)⟩
            have hsm : y.item.size ≤ 12 := HSM.out.2 k y hs
            obtain ⟨b0, b1, b2, b3, b4, b5, b6, b7⟩ := box8 hbx
            have HWW : Hid (wr.alloc (.cells #[.string y.partner, .string y.ref, .int .i64 y.no, .string y.item, .int .i64 y.ordered, .int .i64 y.sent, .int .i64 y.got, .int .i64 y.cut] 61) = W3 ∧ S = wr.heap.size) := ⟨hW3, hS⟩
            clear hs hz hb ha hbx hW3 hS
            go_upto_region 12 with fail
            try rw [HWW.out.1]
            try rw [← HWW.out.2]
            clear HWW q0 q1 q2 q3 q4 q5 q6 q7
            go_wp2_with fail
            refine (clone_any y.item _ (by omega)).mono ?_
            rintro e w4 ⟨rfl, hb4⟩
            have hsz3 := HG.out.2.size
            have b4 : Below w1.heap.size w1 w4 := HG.out.2.trans (hb4.mono hsz3)
            have hrow4 := ownTx_below HG.out.1 hb4
            have hx5 : Below w4.heap.size w4 (w4.alloc (.cells #[.string y.item] 9)) := (Below.refl _ _).alloc (Nat.le_refl _) _
            have hrow5 := ownTx_below hrow4 hx5
            have b5 : Below w1.heap.size w1 (w4.alloc (.cells #[.string y.item] 9)) := b4.trans (hx5.mono b4.size)
            have hc5 : (w4.alloc (.cells #[.string y.item] 9)).cell? ⟨w4.heap.size, 0, none⟩ = some (.string y.item) := by simp [go_sem]
            obtain ⟨X, hX⟩ : ∃ X, w4.alloc (.cells #[.string y.item] 9) = X := ⟨_, rfl⟩
            rw [hX] at hrow5 b5 hc5
            have hlen5 : ts.length + 1 ≤ 2000000 := by have := HE.out.2.2.2; omega
            have etl : ts.length = p.stocks.length + k := HE.out.2.2.2
            rw [← etl] at hrow5
            have hs5 : w1.heap.size ≤ X.heap.size := b5.size
            have HET : Hid (ts.length = p.stocks.length + k) := etl
            clear hb4 hx5 hrow4 b4 etl
            go_upto_region 13 with (first | (at_builtin; refine wpList_appTx (base := w1.heap.size) (c := w4.heap.size) (C := 1) (lv := .slice A1 ts.length C1) (ss := ts) (t := y.item) rfl (.tmp 32) (.tmp 36) rfl (by rw [HET.out]; rfl) rfl hrow5 hc5 hlen5 hs5 ?_; rintro v6 w6 hown6 hgrow6 ⟨A6, C6, rfl⟩)) 
            have H6 : Hid (w6.ownsRow w1.heap.size 9 1 (.slice A6 (ts.length + 1) C6) (ts.length + 1) ((ts ++ [y.item]).map Value.string) ∧ Below w1.heap.size w1 w6) := ⟨hown6, appTx_below b5 hrow5 hgrow6 hs5⟩
            have e5 : ts.length + 1 = p.stocks.length + (k + 1) := by have := HE.out.2.2.2; omega
            rw [e5] at H6 ⊢
            have H7 : Hid (ts ++ [y.item] = p.stocks.map Stk.item ++ (p.lines.take (k + 1)).map OLn.item) := by
              show _ = _
              rw [HE.out.2.2.1, List.take_add_one, HS.out]
              simp
            clear hown6 hgrow6 hrow5 b5 hc5 hX e5
            go_wp2
            go_roundw
            case rel => exact ⟨k + 1, A6, C6, ts ++ [y.item], by go_num, by omega, H7.out, by have := HE.out.2.2.2; simp; omega, rfl, H6.out.1, H6.out.2⟩
            case measure => simp [intOf]; omega
          · obtain rfl : k = p.lines.length := by omega
            have h3 := HE.out
            rw [List.take_length] at h3
            have hal : ts = allT p := h3.2.2.1
            have H3 : Hid (wr.ownsRow w1.heap.size 9 1 (.slice A1 ts.length C1) ts.length (ts.map Value.string) ∧ Below w1.heap.size w1 wr ∧ ts = allT p ∧ ts.length ≤ 300) := ⟨by rw [h3.2.2.2]; exact h3.1, h3.2.1, hal, by omega⟩
            have etl := h3.2.2.2
            clear h3 HE hb hal
            rw [← etl]
            clear etl
            go_wp2_with fail
            refine (sortTx_any w1.heap.size _ ts _ H3.out.1 H3.out.2.2.2).mono ?_
            rintro e w5 ⟨rfl, ho5, hg5⟩
            have hs3 := H3.out.2.1.size
            have b5 := appTx_below H3.out.2.1 H3.out.1 hg5 hs3
            obtain ⟨us, hus⟩ : ∃ us, us = (ts.map keyB).mergeSort fun x y => decide (x ≤ y) := ⟨_, rfl⟩
            have e5 : us.length = ts.length := by rw [hus]; simp
            rw [← hus] at ho5
            have H5 : Hid (w5.ownsRow w1.heap.size 9 1 (.slice A1 ts.length C1) ts.length (us.map encStr) ∧ Below w1.heap.size w1 w5 ∧ us = ((ts.map keyB).mergeSort fun x y => decide (x ≤ y)) ∧ us.length = ts.length) := ⟨ho5, b5, hus, e5⟩
            clear ho5 hg5 b5 e5 hus
            go_wp2_with fail
            refine (compTx_any w1.heap.size ts.length _ us _ H5.out.2.2.2 H5.out.1 H3.out.2.2.2).mono ?_
            rintro e w6 ⟨v6, rfl, ho6, hg6⟩
            have hs5 := H5.out.2.1.size
            have b6 := appTx_below H5.out.2.1 H5.out.1 hg6 hs5
            have H6 : Hid (w6.ownsRow w.heap.size 9 1 v6 (itemsT p).length ((itemsT p).map Value.string) ∧ Below w.heap.size w w6) := by
              refine ⟨?_, H1.out.1.trans (b6.mono H1.out.1.size)⟩
              have e7 : itemsT p = (uniqK (ts.map keyB)).map baK := by rw [itemsT_yes HX.out.symm, H3.out.2.2.1]
              have e8 : uniqK (ts.map keyB) = Lib.compact us := by rw [H5.out.2.2.1]; rfl
              rw [e7, List.length_map, ← mapEnc, e8]
              exact ownTx_down ho6 H1.out.1.size
            clear ho6 hg6 b6
            go_wp2
            go_ret
            exact ⟨_, rfl, H6.out.1, H6.out.2⟩
end Go.Proofs.YtjmkdpnoihpfoaaGreatDoor
