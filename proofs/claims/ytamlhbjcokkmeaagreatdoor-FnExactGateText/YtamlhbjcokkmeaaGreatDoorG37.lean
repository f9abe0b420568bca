/- Texts of ours put together: BiI, AppOl. -/
import Derived.Test.YtamlhbjcokkmeaaGreatDoorG36
import Derived.Test.YtamlhbjcokkmeaaGreatDoorG31
import Derived.Test.YtamlhbjcokkmeaaGreatDoorG02
import Derived.Laws.AppendOwn
import Derived.Maps.AppendAt
namespace Go.Proofs.YtamlhbjcokkmeaaGreatDoor
open Go.ChangeShapes Go.WideShapes Go.ChangeAt Go.RowKit Go.Sort
set_option maxRecDepth 20000 in
set_option maxHeartbeats 8000000 in
theorem bookItems_impl (p : Bk) (us ul : Value) (w : World) (h : RBk w us ul p) : Calls Tryz.prog 71 #[.agg #[us, ul]] w fun e w' => ∃ v, e = .returned v ∧ w'.ownsRow w.heap.size 9 1 v (itemsT p).length ((itemsT p).map Value.string) ∧ Below w.heap.size w w' := by
  obtain ⟨a, c, a', c', rfl, rfl⟩ := h.val
  obtain ⟨W0, hW0⟩ : ∃ W0, w.alloc (.cells #[.slice a p.stocks.length c, .slice a' p.lines.length c'] 39) = W0 := ⟨_, rfl⟩
  have hb0 : Below w.heap.size w W0 := by rw [← hW0]; exact (Below.refl _ _).alloc (Nat.le_refl _) _
  have hbx : W0.heap[w.heap.size]? = some (.cells #[.slice a p.stocks.length c, .slice a' p.lines.length c'] 39) := by rw [← hW0]; exact World.alloc_heap_new _ _
  have H0 : Hid (Below w.heap.size w W0 ∧ RBk W0 (.slice a p.stocks.length c) (.slice a' p.lines.length c') p ∧ W0.heap[w.heap.size]? = some (.cells #[.slice a p.stocks.length c, .slice a' p.lines.length c'] 39)) := ⟨hb0, h.below hb0, hbx⟩
  obtain ⟨c0, c1⟩ := box2 hbx
  have hlt0 := (Array.getElem?_eq_some_iff.1 hbx).1
  clear h hb0 hbx
  go_enter Tryz.func71, Tryz.ntmps71
  go_upto_region 1 with fail
  try rw [hW0]
  clear hW0
  obtain ⟨x, hx⟩ : ∃ x, x = bkB p := ⟨_, rfl⟩
  have HX : Hid (x = bkB p) := hx
  have Q1 := fun W h => bookRight_impl p (.slice a p.stocks.length c) (.slice a' p.lines.length c') W h
  rw [← hx] at Q1
  clear hx
  go_wp2_with fail
  refine (Q1 _ H0.out.2.1).mono ?_
  rintro e w1 ⟨rfl, hb1⟩
  have H1 : Hid (Below w.heap.size w w1 ∧ RBk w1 (.slice a p.stocks.length c) (.slice a' p.lines.length c') p ∧ w1.heap[w.heap.size]? = some (.cells #[.slice a p.stocks.length c, .slice a' p.lines.length c'] 39)) := ⟨H0.out.1.trans (hb1.mono H0.out.1.size), H0.out.2.1.below hb1, (hb1.block _ hlt0).trans H0.out.2.2⟩
  have hlt1 := (Array.getElem?_eq_some_iff.1 H1.out.2.2).1
  obtain ⟨d0, d1⟩ := box2 H1.out.2.2
  clear hb1 c0 c1 Q1
  cases x with
  | false =>
    have HN : Hid (itemsT p = []) := itemsT_no HX.out.symm
    go_wp2
    go_ret
    exact ⟨_, rfl, by rw [HN.out]; exact World.ownsRow_nil w1 w.heap.size 9 1, H1.out.1⟩
  | true =>
    have hR := bkB_iff.1 HX.out.symm
    have hl0 := hR.1.len
    have hl1 := hR.2.len
    have HSM : Hid ((∀ (k : Nat) (y : Stk), p.stocks[k]? = some y → y.item.size ≤ 12) ∧ ∀ (k : Nat) (y : OLn), p.lines[k]? = some y → y.item.size ≤ 12) := ⟨fun k y hy => (nameB_sizes (hR.1.ok y (List.mem_of_getElem? hy)).n).2, fun k y hy => (nameB_sizes (hR.2.ok y (List.mem_of_getElem? hy)).i).2⟩
    have HSt : Hid (RowSt w1 (.slice a p.stocks.length c) p.stocks) := H1.out.2.1.st
    have HLn : Hid (RowOl w1 (.slice a' p.lines.length c') p.lines) := H1.out.2.1.ln
    have HB1 : Hid (∀ W, Below w1.heap.size w1 W → W.cell? ⟨w.heap.size, 1, none⟩ = some (.slice a' p.lines.length c')) := fun W hW => (box2 ((hW.block _ hlt1).trans H1.out.2.2)).2
    clear hR
    go_wp2_with fail
    go_loopw [3, 14] (fun lv ix wr => ∃ (k : Nat) (A : Option Addr) (C : Nat) (ts : List ByteArray), ix = .int .i64 (k : Int) ∧ k ≤ p.stocks.length ∧ ts = (p.stocks.take k).map Stk.item ∧ ts.length = k ∧ lv = .slice A (k) C ∧ wr.ownsRow w1.heap.size 9 1 (.slice A (k) C) (k) (ts.map Value.string) ∧ Below w1.heap.size w1 wr) (fun _ ix _ => p.stocks.length - (intOf ix).toNat)
    case atStart => exact ⟨0, none, 0, [], rfl, by omega, by simp, rfl, rfl, by simpa using World.ownsRow_nil w1 w1.heap.size 9 1, Below.refl _ _⟩
    case round =>
      obtain ⟨k, A1, C1, ts, rfl, hk, hts, htl, rfl, hO, hb⟩ := hrel
      have HE : Hid (wr.ownsRow w1.heap.size 9 1 (.slice A1 (k) C1) (k) (ts.map Value.string) ∧ Below w1.heap.size w1 wr ∧ ts = (p.stocks.take k).map Stk.item ∧ ts.length = k) := ⟨hO, hb, hts, htl⟩
      clear hO hts htl
      by_cases hlt : k < p.stocks.length
      · have hlt' : (k : Int) < (p.stocks.length : Int) := by omega
        obtain ⟨b, o, cap', y, e, hs, hat, hz⟩ := (HSt.out.below hb).at hlt
        simp only [Value.slice.injEq, true_and] at e
        obtain ⟨rfl, rfl⟩ := e
        have HS : Hid (p.stocks[k]? = some y) := hs
        obtain ⟨q0, q1⟩ := hat
        obtain ⟨W3, hW3⟩ : ∃ W3, wr.alloc (.cells #[.string y.item, .int .i64 y.hand] 150) = W3 := ⟨_, rfl⟩
        have ha : Below wr.heap.size wr W3 := by rw [← hW3]; exact (Below.refl _ _).alloc (Nat.le_refl _) _
        have hbx : W3.heap[wr.heap.size]? = some (.cells #[.string y.item, .int .i64 y.hand] 150) := by rw [← hW3]; exact World.alloc_heap_new _ _
        obtain ⟨S, hS⟩ : ∃ S, S = wr.heap.size := ⟨_, rfl⟩
        rw [← hS] at hbx
        have HG : Hid (W3.ownsRow w1.heap.size 9 1 (.slice A1 (k) C1) (k) (ts.map Value.string) ∧ Below w1.heap.size w1 W3) := ⟨ownTx_below HE.out.1 ha, HE.out.2.1.trans (ha.mono HE.out.2.1.size)⟩
        have hsm : y.item.size ≤ 12 := HSM.out.1 k y hs
        obtain ⟨b0, b1⟩ := box2 hbx
        have HWW : Hid (wr.alloc (.cells #[.string y.item, .int .i64 y.hand] 150) = W3 ∧ S = wr.heap.size) := ⟨hW3, hS⟩
        clear hs hz hb ha hbx hW3 hS
        go_upto_region 7 with fail
        try rw [HWW.out.1]
        try rw [← HWW.out.2]
        clear HWW q0 q1
        go_wp2_with fail
        refine (clone_any y.item _ (by omega)).mono ?_
        rintro e w4 ⟨rfl, hb4⟩
        have hsz3 := HG.out.2.size
        have b4 : Below w1.heap.size w1 w4 := HG.out.2.trans (hb4.mono hsz3)
        have hrow4 := ownTx_below HG.out.1 hb4
        have hx5 : Below w4.heap.size w4 (w4.alloc (.cells #[.string y.item] 9)) := (Below.refl _ _).alloc (Nat.le_refl _) _
        have hrow5 := ownTx_below hrow4 hx5
        have b5 : Below w1.heap.size w1 (w4.alloc (.cells #[.string y.item] 9)) := b4.trans (hx5.mono b4.size)
        have hc5 : (w4.alloc (.cells #[.string y.item] 9)).cell? ⟨w4.heap.size, 0, none⟩ = some (.string y.item) := by simp [go_sem]
        obtain ⟨X, hX⟩ : ∃ X, w4.alloc (.cells #[.string y.item] 9) = X := ⟨_, rfl⟩
        rw [hX] at hrow5 b5 hc5
        have hlen5 : ts.length + 1 ≤ 2000000 := by have := HE.out.2.2.2; omega
        have etl : ts.length = k := HE.out.2.2.2
        rw [← etl] at hrow5
        have hs5 : w1.heap.size ≤ X.heap.size := b5.size
        have HET : Hid (ts.length = k) := etl
        clear hb4 hx5 hrow4 b4 etl
        go_upto_region 8 with (first | (at_builtin; refine wpList_appTx (base := w1.heap.size) (c := w4.heap.size) (C := 1) (lv := .slice A1 ts.length C1) (ss := ts) (t := y.item) rfl (.tmp 18) (.tmp 22) rfl (by rw [HET.out]; rfl) rfl hrow5 hc5 hlen5 hs5 ?_; rintro v6 w6 hown6 hgrow6 ⟨A6, C6, rfl⟩)) 
        have H6 : Hid (w6.ownsRow w1.heap.size 9 1 (.slice A6 (ts.length + 1) C6) (ts.length + 1) ((ts ++ [y.item]).map Value.string) ∧ Below w1.heap.size w1 w6) := ⟨hown6, appTx_below b5 hrow5 hgrow6 hs5⟩
        have e5 : ts.length + 1 = (k + 1) := by have := HE.out.2.2.2; omega
        rw [e5] at H6 ⊢
        have H7 : Hid (ts ++ [y.item] = (p.stocks.take (k + 1)).map Stk.item) := by
          show _ = _
          rw [HE.out.2.2.1, List.take_add_one, HS.out]
          simp
        clear hown6 hgrow6 hrow5 b5 hc5 hX e5
        go_wp2
        go_roundw
        case rel => exact ⟨k + 1, A6, C6, ts ++ [y.item], by go_num, by omega, H7.out, by have := HE.out.2.2.2; simp; omega, rfl, H6.out.1, H6.out.2⟩
        case measure => simp [intOf]; omega
      · obtain rfl : k = p.stocks.length := by omega
        have h2 := HE.out
        rw [List.take_length] at h2
        have H2 : Hid (wr.ownsRow w1.heap.size 9 1 (.slice A1 p.stocks.length C1) p.stocks.length (ts.map Value.string) ∧ Below w1.heap.size w1 wr ∧ ts = p.stocks.map Stk.item ∧ ts.length = p.stocks.length) := h2
        have d2 := HB1.out wr hb
        clear h2 HE hb d0 d1
        go_wp2_with fail
        go_loopw [3, 28] (fun lv ix wr => ∃ (k : Nat) (A : Option Addr) (C : Nat) (ts : List ByteArray), ix = .int .i64 (k : Int) ∧ k ≤ p.lines.length ∧ ts = p.stocks.map Stk.item ++ (p.lines.take k).map OLn.item ∧ ts.length = p.stocks.length + k ∧ lv = .slice A (p.stocks.length + k) C ∧ wr.ownsRow w1.heap.size 9 1 (.slice A (p.stocks.length + k) C) (p.stocks.length + k) (ts.map Value.string) ∧ Below w1.heap.size w1 wr) (fun _ ix _ => p.lines.length - (intOf ix).toNat)
        case atStart => exact ⟨0, A1, C1, ts, rfl, by omega, by rw [H2.out.2.2.1]; simp, H2.out.2.2.2, rfl, H2.out.1, H2.out.2.1⟩
        case round =>
          obtain ⟨k, A1, C1, ts, rfl, hk, hts, htl, rfl, hO, hb⟩ := hrel
          have HE : Hid (wr.ownsRow w1.heap.size 9 1 (.slice A1 (p.stocks.length + k) C1) (p.stocks.length + k) (ts.map Value.string) ∧ Below w1.heap.size w1 wr ∧ ts = p.stocks.map Stk.item ++ (p.lines.take k).map OLn.item ∧ ts.length = p.stocks.length + k) := ⟨hO, hb, hts, htl⟩
          clear hO hts htl
          by_cases hlt : k < p.lines.length
          · have hlt' : (k : Int) < (p.lines.length : Int) := by omega
            obtain ⟨b, o, cap', y, e, hs, hat, hz⟩ := (HLn.out.below hb).at hlt
            simp only [Value.slice.injEq, true_and] at e
            obtain ⟨rfl, rfl⟩ := e
            have HS : Hid (p.lines[k]? = some y) := hs
            obtain ⟨q0, q1, q2, q3, q4, q5, q6, q7⟩ := hat
            obtain ⟨W3, hW3⟩ : ∃ W3, wr.alloc (.cells #[.string y.partner, .string y.ref, .int .i64 y.no, .string y.item, .int .i64 y.ordered, .int .i64 y.sent, .int .i64 y.got, .int .i64 y.cut] 107) = W3 := ⟨_, rfl⟩
            have ha : Below wr.heap.size wr W3 := by rw [← hW3]; exact (Below.refl _ _).alloc (Nat.le_refl _) _
            have hbx : W3.heap[wr.heap.size]? = some (.cells #[.string y.partner, .string y.ref, .int .i64 y.no, .string y.item, .int .i64 y.ordered, .int .i64 y.sent, .int .i64 y.got, .int .i64 y.cut] 107) := by rw [← hW3]; exact World.alloc_heap_new _ _
            obtain ⟨S, hS⟩ : ∃ S, S = wr.heap.size := ⟨_, rfl⟩
            rw [← hS] at hbx
            have HG : Hid (W3.ownsRow w1.heap.size 9 1 (.slice A1 (p.stocks.length + k) C1) (p.stocks.length + k) (ts.map Value.string) ∧ Below w1.heap.size w1 W3) := ⟨ownTx_below HE.out.1 ha, HE.out.2.1.trans (ha.mono HE.out.2.1.size)⟩
            have hsm : y.item.size ≤ 12 := HSM.out.2 k y hs
            obtain ⟨b0, b1, b2, b3, b4, b5, b6, b7⟩ := box8 hbx
            have HWW : Hid (wr.alloc (.cells #[.string y.partner, .string y.ref, .int .i64 y.no, .string y.item, .int .i64 y.ordered, .int .i64 y.sent, .int .i64 y.got, .int .i64 y.cut] 107) = W3 ∧ S = wr.heap.size) := ⟨hW3, hS⟩
            clear hs hz hb ha hbx hW3 hS
            go_upto_region 12 with fail
            try rw [HWW.out.1]
            try rw [← HWW.out.2]
            clear HWW q0 q1 q2 q3 q4 q5 q6 q7
            go_wp2_with fail
            refine (clone_any y.item _ (by omega)).mono ?_
            rintro e w4 ⟨rfl, hb4⟩
            have hsz3 := HG.out.2.size
            have b4 : Below w1.heap.size w1 w4 := HG.out.2.trans (hb4.mono hsz3)
            have hrow4 := ownTx_below HG.out.1 hb4
            have hx5 : Below w4.heap.size w4 (w4.alloc (.cells #[.string y.item] 9)) := (Below.refl _ _).alloc (Nat.le_refl _) _
            have hrow5 := ownTx_below hrow4 hx5
            have b5 : Below w1.heap.size w1 (w4.alloc (.cells #[.string y.item] 9)) := b4.trans (hx5.mono b4.size)
            have hc5 : (w4.alloc (.cells #[.string y.item] 9)).cell? ⟨w4.heap.size, 0, none⟩ = some (.string y.item) := by simp [go_sem]
            obtain ⟨X, hX⟩ : ∃ X, w4.alloc (.cells #[.string y.item] 9) = X := ⟨_, rfl⟩
            rw [hX] at hrow5 b5 hc5
            have hlen5 : ts.length + 1 ≤ 2000000 := by have := HE.out.2.2.2; omega
            have etl : ts.length = p.stocks.length + k := HE.out.2.2.2
            rw [← etl] at hrow5
            have hs5 : w1.heap.size ≤ X.heap.size := b5.size
            have HET : Hid (ts.length = p.stocks.length + k) := etl
            clear hb4 hx5 hrow4 b4 etl
            go_upto_region 13 with (first | (at_builtin; refine wpList_appTx (base := w1.heap.size) (c := w4.heap.size) (C := 1) (lv := .slice A1 ts.length C1) (ss := ts) (t := y.item) rfl (.tmp 32) (.tmp 36) rfl (by rw [HET.out]; rfl) rfl hrow5 hc5 hlen5 hs5 ?_; rintro v6 w6 hown6 hgrow6 ⟨A6, C6, rfl⟩)) 
            have H6 : Hid (w6.ownsRow w1.heap.size 9 1 (.slice A6 (ts.length + 1) C6) (ts.length + 1) ((ts ++ [y.item]).map Value.string) ∧ Below w1.heap.size w1 w6) := ⟨hown6, appTx_below b5 hrow5 hgrow6 hs5⟩
            have e5 : ts.length + 1 = p.stocks.length + (k + 1) := by have := HE.out.2.2.2; omega
            rw [e5] at H6 ⊢
            have H7 : Hid (ts ++ [y.item] = p.stocks.map Stk.item ++ (p.lines.take (k + 1)).map OLn.item) := by
              show _ = _
              rw [HE.out.2.2.1, List.take_add_one, HS.out]
              simp
            clear hown6 hgrow6 hrow5 b5 hc5 hX e5
            go_wp2
            go_roundw
            case rel => exact ⟨k + 1, A6, C6, ts ++ [y.item], by go_num, by omega, H7.out, by have := HE.out.2.2.2; simp; omega, rfl, H6.out.1, H6.out.2⟩
            case measure => simp [intOf]; omega
          · obtain rfl : k = p.lines.length := by omega
            have h3 := HE.out
            rw [List.take_length] at h3
            have hal : ts = allT p := h3.2.2.1
            have H3 : Hid (wr.ownsRow w1.heap.size 9 1 (.slice A1 ts.length C1) ts.length (ts.map Value.string) ∧ Below w1.heap.size w1 wr ∧ ts = allT p ∧ ts.length ≤ 300) := ⟨by rw [h3.2.2.2]; exact h3.1, h3.2.1, hal, by omega⟩
            have etl := h3.2.2.2
            clear h3 HE hb hal
            rw [← etl]
            clear etl
            go_wp2_with fail
            refine (sortTx_any w1.heap.size _ ts _ H3.out.1 H3.out.2.2.2).mono ?_
            rintro e w5 ⟨rfl, ho5, hg5⟩
            have hs3 := H3.out.2.1.size
            have b5 := appTx_below H3.out.2.1 H3.out.1 hg5 hs3
            obtain ⟨us, hus⟩ : ∃ us, us = (ts.map keyB).mergeSort fun x y => decide (x ≤ y) := ⟨_, rfl⟩
            have e5 : us.length = ts.length := by rw [hus]; simp
            rw [← hus] at ho5
            have H5 : Hid (w5.ownsRow w1.heap.size 9 1 (.slice A1 ts.length C1) ts.length (us.map encStr) ∧ Below w1.heap.size w1 w5 ∧ us = ((ts.map keyB).mergeSort fun x y => decide (x ≤ y)) ∧ us.length = ts.length) := ⟨ho5, b5, hus, e5⟩
            clear ho5 hg5 b5 e5 hus
            go_wp2_with fail
            refine (compTx_any w1.heap.size ts.length _ us _ H5.out.2.2.2 H5.out.1 H3.out.2.2.2).mono ?_
            rintro e w6 ⟨v6, rfl, ho6, hg6⟩
            have hs5 := H5.out.2.1.size
            have b6 := appTx_below H5.out.2.1 H5.out.1 hg6 hs5
            have H6 : Hid (w6.ownsRow w.heap.size 9 1 v6 (itemsT p).length ((itemsT p).map Value.string) ∧ Below w.heap.size w w6) := by
              refine ⟨?_, H1.out.1.trans (b6.mono H1.out.1.size)⟩
              have e7 : itemsT p = (uniqK (ts.map keyB)).map baK := by rw [itemsT_yes HX.out.symm, H3.out.2.2.1]
              have e8 : uniqK (ts.map keyB) = Lib.compact us := by rw [H5.out.2.2.1]; rfl
              rw [e7, List.length_map, ← mapEnc, e8]
              exact ownTx_down ho6 H1.out.1.size
            clear ho6 hg6 b6
            go_wp2
            go_ret
            exact ⟨_, rfl, H6.out.1, H6.out.2⟩
end Go.Proofs.YtamlhbjcokkmeaaGreatDoor
namespace Go.Proofs.YtamlhbjcokkmeaaGreatDoor
open Go.ChangeShapes Go.WideShapes Go.ChangeAt Go.RowKit
theorem infoOlA : (Tryz.prog.info? 107).map (fun i => (i.zero, i.size, i.bytes)) = some (some (.agg #[.string ⟨#[]⟩, .string ⟨#[]⟩, .int .i64 0, .string ⟨#[]⟩, .int .i64 0, .int .i64 0, .int .i64 0, .int .i64 0]), 8, 88) := by kernel_rfl
/-- Its cells, one behind the other. -/
def clOl (g : OLn) : List Value := [.string g.partner, .string g.ref, .int .i64 g.no, .string g.item, .int .i64 g.ordered, .int .i64 g.sent, .int .i64 g.got, .int .i64 g.cut]
def clOls (rs : List OLn) : List Value := rs.flatMap clOl
theorem clOls_len (rs : List OLn) : (clOls rs).length = rs.length * 8 := by
  induction rs with
  | nil => rfl
  | cons g r ih =>
    have : clOls (g :: r) = clOl g ++ clOls r := rfl
    rw [this, List.length_append, ih, List.length_cons]
    have : (clOl g).length = 8 := rfl
    omega
theorem clOls_app (rs : List OLn) (g : OLn) : clOls (rs ++ [g]) = clOls rs ++ clOl g := by simp [clOls]
theorem clOls_at : ∀ {rs : List OLn} {i : Nat} {g : OLn}, rs[i]? = some g → (clOls rs)[i * 8]? = some (.string g.partner) ∧ (clOls rs)[i * 8 + 1]? = some (.string g.ref) ∧ (clOls rs)[i * 8 + 2]? = some (.int .i64 g.no) ∧ (clOls rs)[i * 8 + 3]? = some (.string g.item) ∧ (clOls rs)[i * 8 + 4]? = some (.int .i64 g.ordered) ∧ (clOls rs)[i * 8 + 5]? = some (.int .i64 g.sent) ∧ (clOls rs)[i * 8 + 6]? = some (.int .i64 g.got) ∧ (clOls rs)[i * 8 + 7]? = some (.int .i64 g.cut)
  | [], i, g, h => by simp at h
  | x :: r, 0, g, h => by
    simp only [List.getElem?_cons_zero, Option.some.injEq] at h
    subst h
    refine ⟨rfl, rfl, rfl, rfl, rfl, rfl, rfl, rfl⟩
  | x :: r, i + 1, g, h => by
    rw [List.getElem?_cons_succ] at h
    obtain ⟨e0, e1, e2, e3, e4, e5, e6, e7⟩ := clOls_at h
    have hc : clOls (x :: r) = clOl x ++ clOls r := rfl
    have hl : (clOl x).length = 8 := rfl
    refine ⟨?_, ?_, ?_, ?_, ?_, ?_, ?_, ?_⟩
    · rw [hc, List.getElem?_append_right (by omega), hl, ← e0]
      congr 1
      omega
    · rw [hc, List.getElem?_append_right (by omega), hl, ← e1]
      congr 1
      omega
    · rw [hc, List.getElem?_append_right (by omega), hl, ← e2]
      congr 1
      omega
    · rw [hc, List.getElem?_append_right (by omega), hl, ← e3]
      congr 1
      omega
    · rw [hc, List.getElem?_append_right (by omega), hl, ← e4]
      congr 1
      omega
    · rw [hc, List.getElem?_append_right (by omega), hl, ← e5]
      congr 1
      omega
    · rw [hc, List.getElem?_append_right (by omega), hl, ← e6]
      congr 1
      omega
    · rw [hc, List.getElem?_append_right (by omega), hl, ← e7]
      congr 1
      omega
/-- A list that the call has made by appends, read. -/
theorem LOl.of_owns {W : World} {base : Nat} {v : Value} {rs : List OLn} (h : W.ownsRow base 107 8 v rs.length (clOls rs)) (hl : rs.length ≤ 9223372036854775807) (hz : ∀ (i : Nat) (g : OLn), rs[i]? = some g → g.partner.size ≤ 9223372036854775807 ∧ g.ref.size ≤ 9223372036854775807 ∧ g.item.size ≤ 9223372036854775807) : ∃ b, base ≤ b ∧ LOl b W v rs := by
  rcases h.2 with ⟨rfl, h0⟩ | ⟨b, cap, cur, rfl, hb, hh, hc, hm, hs, ht⟩
  · refine ⟨base, Nat.le_refl _, ⟨none, 0, by rw [h0], fun hn => absurd (List.eq_nil_of_length_eq_zero h0) hn⟩, hl, hz⟩
  · refine ⟨b, hb, ⟨_, _, rfl, fun _ => ⟨rfl, cap * 8, fun i => cur[i]?.getD undef, ⟨cur, hh, hs, fun i hi => by simp [hs, hi]⟩, Nat.mul_le_mul_right _ hc, fun i g hi => ?_⟩⟩, hl, hz⟩
    obtain ⟨e0, e1, e2, e3, e4, e5, e6, e7⟩ := clOls_at hi
    have hlt := (List.getElem?_eq_some_iff.1 hi).1
    rw [← ht] at e0 e1 e2 e3 e4 e5 e6 e7
    have get : ∀ (j : Nat) (x : Value), j < rs.length * 8 → (cur.toList.take (rs.length * 8))[j]? = some x → cur[j]?.getD undef = x := fun j x hj hx => by
      rw [List.getElem?_take_of_lt hj, Array.getElem?_toList] at hx
      rw [hx]
      rfl
    exact ⟨get _ _ (by omega) e0, get _ _ (by omega) e1, get _ _ (by omega) e2, get _ _ (by omega) e3, get _ _ (by omega) e4, get _ _ (by omega) e5, get _ _ (by omega) e6, get _ _ (by omega) e7⟩
/-- An append of one, at the list of a plain region's operations. -/
theorem wpList_appOl {ops : Array Oper} {rest : List Oper} {o : Oper} {a : Act} {Q : Exit → Act → World → Prop} {W : World} {base c C : Nat} {lv : Value} {rs : List OLn} {g : OLn} (hgd : o.guard = none) (s x : Operand)
    (ho : o.op = .call { callee := .builtin .append, args := #[s, x], argTypes := #[37, 37] })
    (hs' : a.eval s = lv) (hx : a.eval x = .slice (some ⟨c, 0, none⟩) 1 C) (h : W.ownsRow base 107 8 lv rs.length (clOls rs)) (hg : AtOl W c 0 g) (hl : rs.length + 1 ≤ 2000000) (hbase : base ≤ W.heap.size)
    (k : ∀ v' w', w'.ownsRow base 107 8 v' (rs ++ [g]).length (clOls (rs ++ [g])) → W.grownBy w' lv.ownBlock → (∃ A C, v' = .slice A (rs ++ [g]).length C) → wpList Tryz.prog ops Q rest (a.put o.dst v') w') : wpList Tryz.prog ops Q (o :: rest) a W := by
  obtain ⟨i0, hi, hz0, hz1, hz2⟩ := info_parts infoOlA
  obtain ⟨q0, q1, q2, q3, q4, q5, q6, q7⟩ := hg
  refine wpList_append_own W hgd s x 37 ho base 107 i0 (.agg #[.string ⟨#[]⟩, .string ⟨#[]⟩, .int .i64 0, .string ⟨#[]⟩, .int .i64 0, .int .i64 0, .int .i64 0, .int .i64 0]) 8 88 Tryz.underlying37 hi hz0 hz1 hz2 rfl (by decide) lv rs.length (clOls rs) hs' h ⟨c, 0, none⟩ 1 C (clOl g) hx rfl (fun j u hu => ?_) (fun u hu => ?_) (by unfold maxLen; omega) (by omega) hbase ?_
  · rw [fl_addr]
    have hj := (List.getElem?_eq_some_iff.1 hu).1
    have hj3 : j < 8 := hj
    match j, hj3 with
    | 0, _ =>
      cases hu
      simpa using q0
    | 1, _ =>
      cases hu
      simpa using q1
    | 2, _ =>
      cases hu
      simpa using q2
    | 3, _ =>
      cases hu
      simpa using q3
    | 4, _ =>
      cases hu
      simpa using q4
    | 5, _ =>
      cases hu
      simpa using q5
    | 6, _ =>
      cases hu
      simpa using q6
    | 7, _ =>
      cases hu
      simpa using q7
  · simp only [clOl, List.mem_cons, List.not_mem_nil, or_false] at hu
    rcases hu with rfl | rfl | rfl | rfl | rfl | rfl | rfl | rfl <;> rfl
  · intro v' w' hown hgrow hnil
    have e1 : (rs ++ [g]).length = rs.length + 1 := by simp
    have hown' : w'.ownsRow base 107 8 v' (rs ++ [g]).length (clOls (rs ++ [g])) := by
      rw [e1, clOls_app]
      exact hown
    refine k v' w' hown' hgrow ?_
    rcases hown'.2 with ⟨rfl, h0⟩ | ⟨b, cap, cur, rfl, _⟩
    · exact ⟨none, 0, by rw [h0]⟩
    · exact ⟨_, _, rfl⟩
theorem clOls_get : ∀ {rs : List OLn} {j : Nat} {u : Value}, (clOls rs)[j]? = some u → ∃ (i : Nat) (g : OLn), rs[i]? = some g ∧ ((j = i * 8 ∧ u = .string g.partner) ∨ (j = i * 8 + 1 ∧ u = .string g.ref) ∨ (j = i * 8 + 2 ∧ u = .int .i64 g.no) ∨ (j = i * 8 + 3 ∧ u = .string g.item) ∨ (j = i * 8 + 4 ∧ u = .int .i64 g.ordered) ∨ (j = i * 8 + 5 ∧ u = .int .i64 g.sent) ∨ (j = i * 8 + 6 ∧ u = .int .i64 g.got) ∨ (j = i * 8 + 7 ∧ u = .int .i64 g.cut))
  | [], j, u, h => by simp [clOls] at h
  | x :: r, j, u, h => by
    have hc : clOls (x :: r) = clOl x ++ clOls r := rfl
    have hl : (clOl x).length = 8 := rfl
    rw [hc] at h
    by_cases hj : j < 8
    · rw [List.getElem?_append_left (by omega)] at h
      refine ⟨0, x, rfl, ?_⟩
      match j, hj with
      | 0, _ => cases h; simp
      | 1, _ => cases h; simp
      | 2, _ => cases h; simp
      | 3, _ => cases h; simp
      | 4, _ => cases h; simp
      | 5, _ => cases h; simp
      | 6, _ => cases h; simp
      | 7, _ => cases h; simp
    · rw [List.getElem?_append_right (by omega), hl] at h
      obtain ⟨i, g, hg, ho⟩ := clOls_get h
      refine ⟨i + 1, g, by simpa using hg, ?_⟩
      rcases ho with ⟨h1, h2⟩ | ⟨h1, h2⟩ | ⟨h1, h2⟩ | ⟨h1, h2⟩ | ⟨h1, h2⟩ | ⟨h1, h2⟩ | ⟨h1, h2⟩ | ⟨h1, h2⟩
      · exact .inl ⟨by omega, h2⟩
      · exact .inr (.inl ⟨by omega, h2⟩)
      · exact .inr (.inr (.inl ⟨by omega, h2⟩))
      · exact .inr (.inr (.inr (.inl ⟨by omega, h2⟩)))
      · exact .inr (.inr (.inr (.inr (.inl ⟨by omega, h2⟩))))
      · exact .inr (.inr (.inr (.inr (.inr (.inl ⟨by omega, h2⟩)))))
      · exact .inr (.inr (.inr (.inr (.inr (.inr (.inl ⟨by omega, h2⟩))))))
      · exact .inr (.inr (.inr (.inr (.inr (.inr (.inr (⟨by omega, h2⟩)))))))
/-- An append of a list, at the list of a plain region's operations. -/
theorem wpList_appsOl {ops : Array Oper} {rest : List Oper} {o : Oper} {a : Act} {Q : Exit → Act → World → Prop} {W : World} {base C : Nat} {lv : Value} {ad : Addr} {rs ms : List OLn} (hgd : o.guard = none) (s x : Operand)
    (ho : o.op = .call { callee := .builtin .append, args := #[s, x], argTypes := #[37, 37] })
    (hs' : a.eval s = lv) (hx : a.eval x = .slice (some ad) ms.length C) (h : W.ownsRow base 107 8 lv rs.length (clOls rs)) (hg : RowOl W (.slice (some ad) ms.length C) ms) (hl : rs.length + ms.length ≤ 2000000) (hbase : base ≤ W.heap.size)
    (k : ∀ v' w', w'.ownsRow base 107 8 v' (rs ++ ms).length (clOls (rs ++ ms)) → W.grownBy w' lv.ownBlock → (∃ A C, v' = .slice A (rs ++ ms).length C) → wpList Tryz.prog ops Q rest (a.put o.dst v') w') : wpList Tryz.prog ops Q (o :: rest) a W := by
  obtain ⟨i0, hi, hz0, hz1, hz2⟩ := info_parts infoOlA
  refine wpList_append_own W hgd s x 37 ho base 107 i0 (.agg #[.string ⟨#[]⟩, .string ⟨#[]⟩, .int .i64 0, .string ⟨#[]⟩, .int .i64 0, .int .i64 0, .int .i64 0, .int .i64 0]) 8 88 Tryz.underlying37 hi hz0 hz1 hz2 rfl (by decide) lv rs.length (clOls rs) hs' h ad ms.length C (clOls ms) hx (clOls_len ms) (fun j u hu => ?_) (fun u hu => ?_) (by unfold maxLen; omega) (by omega) hbase ?_
  · obtain ⟨i, g, hg', ho'⟩ := clOls_get hu
    obtain ⟨a', cap, e, hc⟩ := hg.shape
    simp only [Value.slice.injEq] at e
    obtain ⟨b, o', ea, hcell⟩ := hc (by intro e2; rw [e2] at hg'; simp at hg')
    rw [← e.1] at ea
    cases ea
    obtain ⟨q0, q1, q2, q3, q4, q5, q6, q7⟩ := hcell i g hg'
    rw [fl_addr]
    rcases ho' with ⟨rfl, rfl⟩ | ⟨rfl, rfl⟩ | ⟨rfl, rfl⟩ | ⟨rfl, rfl⟩ | ⟨rfl, rfl⟩ | ⟨rfl, rfl⟩ | ⟨rfl, rfl⟩ | ⟨rfl, rfl⟩
    · first | exact q0 | (rw [← q0]; congr 2; omega)
    · first | exact q1 | (rw [← q1]; congr 2; omega)
    · first | exact q2 | (rw [← q2]; congr 2; omega)
    · first | exact q3 | (rw [← q3]; congr 2; omega)
    · first | exact q4 | (rw [← q4]; congr 2; omega)
    · first | exact q5 | (rw [← q5]; congr 2; omega)
    · first | exact q6 | (rw [← q6]; congr 2; omega)
    · first | exact q7 | (rw [← q7]; congr 2; omega)
  · obtain ⟨j, hj⟩ := List.getElem?_of_mem hu
    obtain ⟨i, g, _, ho'⟩ := clOls_get hj
    rcases ho' with ⟨_, rfl⟩ | ⟨_, rfl⟩ | ⟨_, rfl⟩ | ⟨_, rfl⟩ | ⟨_, rfl⟩ | ⟨_, rfl⟩ | ⟨_, rfl⟩ | ⟨_, rfl⟩ <;> rfl
  · intro v' w' hown hgrow hnil
    have e1 : (rs ++ ms).length = rs.length + ms.length := by simp
    have e2 : clOls (rs ++ ms) = clOls rs ++ clOls ms := by simp [clOls]
    have hown' : w'.ownsRow base 107 8 v' (rs ++ ms).length (clOls (rs ++ ms)) := by
      rw [e1, e2]
      exact hown
    refine k v' w' hown' hgrow ?_
    rcases hown'.2 with ⟨rfl, h0⟩ | ⟨b, cap, cur, rfl, _⟩
    · exact ⟨none, 0, by rw [h0]⟩
    · exact ⟨_, _, rfl⟩
end Go.Proofs.YtamlhbjcokkmeaaGreatDoor
