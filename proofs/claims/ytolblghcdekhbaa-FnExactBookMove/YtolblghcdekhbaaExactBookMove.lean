/- FnExactBookMove returns true at every book, text and number and leaves them as they were: BookMove answers as its model, writes into no argument, keeps nothing of one, and its answer owns its memory; no condition. -/
import Derived.Test.YtolblghcdekhbaaSzBk
import Derived.Test.YtolblghcdekhbaaToBk
import Derived.Test.YtolblghcdekhbaaEqBk
import Derived.Test.YtolblghcdekhbaaOpenBk
import Derived.Test.YtolblghcdekhbaaMvI
import Derived.Test.YtolblghcdekhbaaMvS
import Derived.Test.YtolblghcdekhbaaMkBk
import Derived.Deep.RegionHeld3
import Derived.Lib.SmallJoins
namespace Go.Proofs.Ytolblghcdekhbaa
open Go.ChangeShapes Go.WideShapes Go.ChangeAt Go.RowKit Go.Joins
open Go.ChangeMaps (open_string shut_string)
set_option linter.unusedVariables false
namespace fnExactBookMove
/-- Block B holds the book. -/
structure LP (B t : Nat) (w W : World) (p : Bk) (us ul : Value) : Prop where
  bel : Below w.heap.size w W
  blk : W.heap[B]? = some (.cells #[us, ul] t)
  row : RBk W us ul p
theorem LP.below {B t : Nat} {w W W' : World} {p : Bk} {us ul : Value} (h : LP B t w W p us ul) (hb : Below W.heap.size W W') : LP B t w W' p us ul :=
  ⟨h.bel.trans (hb.mono h.bel.size), (hb.block B (Array.getElem?_eq_some_iff.1 h.blk).1).trans h.blk, h.row.below hb⟩
theorem LP.drew {B t : Nat} {w W : World} {p : Bk} {us ul : Value} (h : LP B t w W p us ul) : LP B t w W.drew p us ul := h.below (Below.refl _ _).drew
theorem LP.cells {B t : Nat} {w W : World} {p : Bk} {us ul : Value} (h : LP B t w W p us ul) : W.cell? ⟨B, 0, none⟩ = some us ∧ W.cell? ⟨B, 1, none⟩ = some ul := box2 h.blk
theorem LP.made {B t : Nat} {w W : World} {p q : Bk} {us ul : Value} (h : LP B t w W p us ul) (t' : Nat) {us' ul' : Value} (h' : RBk W us' ul' q) :
    LP W.heap.size t' w (W.alloc (.cells #[us', ul'] t')) q us' ul' :=
  ⟨h.bel.alloc h.bel.size _, World.alloc_heap_new W _, h'.below ((Below.refl _ _).alloc (Nat.le_refl _) _)⟩
theorem moveT_lens (p : Bk) (t : ByteArray) (z : Int) : (moveT p t z).stocks.length ≤ p.stocks.length + 1 ∧ (moveT p t z).lines.length ≤ p.lines.length := by
  unfold moveT
  split
  · simp
  · by_cases g : MvOk p t z
    · rw [movT_yes g]
      refine ⟨?_, Nat.le_refl _⟩
      show (mvL p t z).length ≤ _
      unfold mvL
      rw [insS_len]
      have := List.length_filter_le (fun x => !nmS t x) p.stocks
      omega
    · rw [movT_no g]
      omega
theorem ownX {B B' : Nat} {W : World} {v v' : Value} {p : Bk} (h : OwnSt B W v p.stocks) (h' : OwnOl B' W v' p.lines) (hG : BdBk 1048576 p) : ∃ b c, B ≤ b ∧ b < W.heap.size ∧ B' ≤ c ∧ c < W.heap.size ∧ LBk b c W v v' p := by
  obtain ⟨b, f, h1, h2, h3, h4⟩ := h
  obtain ⟨c, f', k1, k2, k3, k4⟩ := h'
  have hl := hG.1.len
  have hl' := hG.2.len
  refine ⟨b, c, h1, h3.lt, k1, k3.lt, ⟨⟨⟨_, _, h2, fun _ => ⟨rfl, _, f, h3, Nat.le_refl _, h4⟩⟩, by omega, fun i g hi => by have := hG.1.2 i g hi; omega⟩, ⟨⟨_, _, k2, fun _ => ⟨rfl, _, f', k3, Nat.le_refl _, k4⟩⟩, by omega, fun i g hi => by have := hG.2.2 i g hi; omega⟩, fun e => ?_⟩⟩
  subst e
  obtain ⟨x1, y1, _⟩ := h3
  obtain ⟨x2, y2, _⟩ := k3
  have y3 := y1.symm.trans y2
  simp at y3
/-- Two boxes beside all that lay in W4. -/
structure LQ (W4 W : World) (BX BG : Nat) (xs xl gs gl : Value) : Prop where
  bel : Below W4.heap.size W4 W
  hx : W.heap[BX]? = some (.cells #[xs, xl] 30)
  hg : W.heap[BG]? = some (.cells #[gs, gl] 30)
theorem LQ.below {W4 W W' : World} {BX BG : Nat} {xs xl gs gl : Value} (h : LQ W4 W BX BG xs xl gs gl) (hb : Below W.heap.size W W') : LQ W4 W' BX BG xs xl gs gl :=
  ⟨h.bel.trans (hb.mono h.bel.size), (hb.block _ (Array.getElem?_eq_some_iff.1 h.hx).1).trans h.hx, (hb.block _ (Array.getElem?_eq_some_iff.1 h.hg).1).trans h.hg⟩
theorem LQ.keep2 {W4 W W' : World} {BX BG b c : Nat} {xs xl gs gl : Value} (h : LQ W4 W BX BG xs xl gs gl) (hk : Keep2 b c W W') (h1 : W4.heap.size ≤ b) (h2 : W4.heap.size ≤ c) (h3 : BX ≠ b) (h4 : BX ≠ c) (h5 : BG ≠ b) (h6 : BG ≠ c) : LQ W4 W' BX BG xs xl gs gl :=
  ⟨h.bel.trans (hk.below h1 h2 h.bel.size), (hk.block _ (Array.getElem?_eq_some_iff.1 h.hx).1 h3 h4).trans h.hx, (hk.block _ (Array.getElem?_eq_some_iff.1 h.hg).1 h5 h6).trans h.hg⟩
set_option maxHeartbeats 16000000 in
theorem walk (p : Bk) (us ul : Value) (t : ByteArray) (z : Int) (w : World) (h : RBk w us ul p) (ht : t.size ≤ maxLen) :
    Calls Try.prog 3 #[.agg #[us, ul], .string t, .int .i64 z] w fun e w' => e = .returned (.bool true) ∧ Below w.heap.size w w' := by
  obtain ⟨A0, c0, A1, c1, rfl, rfl⟩ := h.val
  unfold maxLen at ht
  have b1 : Below w.heap.size w (w.alloc (.cells #[.slice A0 p.stocks.length c0, .slice A1 p.lines.length c1] 25)) := (Below.refl _ _).alloc (Nat.le_refl _) _
  have h0 : LP w.heap.size 25 w (w.alloc (.cells #[.slice A0 p.stocks.length c0, .slice A1 p.lines.length c1] 25)) p (.slice A0 p.stocks.length c0) (.slice A1 p.lines.length c1) := ⟨b1, World.alloc_heap_new w _, h.below b1⟩
  have H0 : Hid (LP w.heap.size 25 w (w.alloc (.cells #[.slice A0 p.stocks.length c0, .slice A1 p.lines.length c1] 25)) p (.slice A0 p.stocks.length c0) (.slice A1 p.lines.length c1)) := h0
  clear h b1 h0
  go_enter Try.func3, Try.ntmps3
  by_cases lt : 1048576 < t.size
  · have lt' : (1048576 : Int) < (t.size : Int) := by omega
    go_wp2
    go_ret
    exact ⟨rfl, H0.out.bel⟩
  have lt' : ¬ (1048576 : Int) < (t.size : Int) := by omega
  go_wp2_with fail
  refine (szBk_any p _ _ 1048576 _ H0.out.row (by omega)).mono ?_
  rintro e w1 ⟨r, rfl, hr, hb1⟩
  have h1 := H0.out.below hb1
  clear hb1 H0
  rcases hr with rfl | ⟨g0, g1, hP⟩
  · have H1 : Hid (Below w.heap.size w w1) := h1.bel
    clear h1
    go_wp2
    go_ret
    exact ⟨rfl, H1.out⟩
  have g0' : ¬ r < 0 := by omega
  have HP : Hid (BdBk 1048576 p) := hP
  clear hP
  obtain ⟨k0, k1⟩ := h1.cells
  go_wp2_with fail
  refine (toBk_any p _ _ _ h1.row HP.out).mono ?_
  rintro e w2 ⟨v2, v2', rfl, r2, hb2⟩
  have h2 := h1.below hb2
  clear hb2 h1 k0 k1
  go_wp2_with fail
  refine (bookMove_spec p _ _ t z _ r2 HP.out (by omega)).mono ?_
  rintro e w3 ⟨ws, wl, rfl, rW, hb3⟩
  have h3 := h2.below hb3
  obtain ⟨V0, v0, V1, v1, rfl, rfl⟩ := rW.val
  obtain ⟨W4, hW4⟩ : ∃ W4, w3.alloc (.cells #[.slice V0 (moveT p t z).stocks.length v0, .slice V1 (moveT p t z).lines.length v1] 30) = W4 := ⟨_, rfl⟩
  obtain ⟨BW, hBW⟩ : ∃ BW, BW = w3.heap.size := ⟨_, rfl⟩
  have hb4 : Below w3.heap.size w3 W4 := by rw [← hW4]; exact (Below.refl _ _).alloc (Nat.le_refl _) _
  have hbw : W4.heap[BW]? = some (.cells #[.slice V0 (moveT p t z).stocks.length v0, .slice V1 (moveT p t z).lines.length v1] 30) := by rw [hBW, ← hW4]; exact World.alloc_heap_new _ _
  have h4 := h3.below hb4
  have H4 : Hid (LP w.heap.size 25 w W4 p (.slice A0 p.stocks.length c0) (.slice A1 p.lines.length c1) ∧ W4.heap[BW]? = some (.cells #[.slice V0 (moveT p t z).stocks.length v0, .slice V1 (moveT p t z).lines.length v1] 30) ∧ RBk W4 (.slice V0 (moveT p t z).stocks.length v0) (.slice V1 (moveT p t z).lines.length v1) (moveT p t z)) := ⟨h4, hbw, rW.below hb4⟩
  have HW : Hid (∀ W, Below W4.heap.size W4 W → LP w.heap.size 25 w W p (.slice A0 p.stocks.length c0) (.slice A1 p.lines.length c1) ∧ (W.cell? ⟨w.heap.size, 0, none⟩ = some (.slice A0 p.stocks.length c0) ∧ W.cell? ⟨w.heap.size, 1, none⟩ = some (.slice A1 p.lines.length c1)) ∧ (W.cell? ⟨BW, 0, none⟩ = some (.slice V0 (moveT p t z).stocks.length v0) ∧ W.cell? ⟨BW, 1, none⟩ = some (.slice V1 (moveT p t z).lines.length v1)) ∧ RBk W (.slice V0 (moveT p t z).stocks.length v0) (.slice V1 (moveT p t z).lines.length v1) (moveT p t z)) := fun W hW => ⟨H4.out.1.below hW, (H4.out.1.below hW).cells, box2 ((hW.block _ (Array.getElem?_eq_some_iff.1 H4.out.2.1).1).trans H4.out.2.1), H4.out.2.2.below hW⟩
  have HWE : Hid (w3.alloc (.cells #[.slice V0 (moveT p t z).stocks.length v0, .slice V1 (moveT p t z).lines.length v1] 30) = W4 ∧ BW = w3.heap.size) := ⟨hW4, hBW⟩
  clear hb3 h2 r2 rW hb4 hbw h3 h4 hW4 hBW
  go_upto_region 8 with fail
  try rw [HWE.out.1]
  try rw [← HWE.out.2]
  clear HWE
  obtain ⟨k0, k1⟩ := H4.out.1.cells
  go_wp2_with fail
  refine (toBk_own p _ _ _ H4.out.1.row HP.out).mono ?_
  rintro e w5 ⟨xs, xl, rfl, oS, oL, hb5⟩
  obtain ⟨sx, lx, hsx, hsx5, hlx, hlx5, LX0⟩ := ownX oS oL HP.out
  obtain ⟨X0, x0, X1, x1, rfl, rfl⟩ := LX0.row.val
  obtain ⟨BX, hBX⟩ : ∃ BX, BX = w5.heap.size := ⟨_, rfl⟩
  obtain ⟨W6, hW6⟩ : ∃ W6, w5.alloc (.cells #[.slice X0 p.stocks.length x0, .slice X1 p.lines.length x1] 30) = W6 := ⟨_, rfl⟩
  have hb6 : Below w5.heap.size w5 W6 := by rw [← hW6]; exact (Below.refl _ _).alloc (Nat.le_refl _) _
  have hbx : W6.heap[BX]? = some (.cells #[.slice X0 p.stocks.length x0, .slice X1 p.lines.length x1] 30) := by rw [hBX, ← hW6]; exact World.alloc_heap_new _ _
  have s5 := hb5.size
  have s6 : W6.heap.size = w5.heap.size + 1 := by rw [← hW6]; simp
  have HN : Hid (W4.heap.size ≤ sx ∧ W4.heap.size ≤ lx ∧ sx < BX ∧ lx < BX ∧ W6.heap.size = BX + 1) := ⟨hsx, hlx, by omega, by omega, by omega⟩
  have H6 : Hid (Below W4.heap.size W4 W6 ∧ W6.heap[BX]? = some (.cells #[.slice X0 p.stocks.length x0, .slice X1 p.lines.length x1] 30) ∧ LBk sx lx W6 (.slice X0 p.stocks.length x0) (.slice X1 p.lines.length x1) p) := ⟨hb5.trans (hb6.mono s5), hbx, LX0.below hb6⟩
  have HWE : Hid (w5.alloc (.cells #[.slice X0 p.stocks.length x0, .slice X1 p.lines.length x1] 30) = W6 ∧ BX = w5.heap.size) := ⟨hW6, hBX⟩
  clear hsx hlx hsx5 hlx5 oS oL hb5 hb6 hbx s5 s6 LX0 hW6 hBX k0 k1
  go_upto_region 9 with fail
  try rw [HWE.out.1]
  try rw [← HWE.out.2]
  clear HWE
  obtain ⟨k0, k1⟩ := box2 H6.out.2.1
  go_wp2_with fail
  refine (bookMove_impl p _ _ t z _ H6.out.2.2.row HP.out (by omega)).mono ?_
  rintro e w7 ⟨gs, gl, sg, lg, rfl, hsg, hlg, LS, LL, hb7⟩
  obtain ⟨G0, q0, rfl⟩ := LS.val
  obtain ⟨G1, q1, rfl⟩ := LL.val
  obtain ⟨BG, hBG⟩ : ∃ BG, BG = w7.heap.size := ⟨_, rfl⟩
  obtain ⟨W8, hW8⟩ : ∃ W8, w7.alloc (.cells #[.slice G0 (moveT p t z).stocks.length q0, .slice G1 (moveT p t z).lines.length q1] 30) = W8 := ⟨_, rfl⟩
  have hb8 : Below w7.heap.size w7 W8 := by rw [← hW8]; exact (Below.refl _ _).alloc (Nat.le_refl _) _
  have hbg : W8.heap[BG]? = some (.cells #[.slice G0 (moveT p t z).stocks.length q0, .slice G1 (moveT p t z).lines.length q1] 30) := by rw [hBG, ← hW8]; exact World.alloc_heap_new _ _
  have s7 := hb7.size
  have hb68 : Below W6.heap.size W6 W8 := hb7.trans (hb8.mono s7)
  have HM : Hid (W6.heap.size ≤ sg ∧ W6.heap.size ≤ lg ∧ BX < BG ∧ sx < BG ∧ lx < BG ∧ ((moveT p t z).stocks ≠ [] → sg < BG) ∧ ((moveT p t z).lines ≠ [] → lg < BG)) := by
    obtain ⟨n1, n2, n3, n4, n5⟩ := HN.out
    exact ⟨hsg, hlg, by omega, by omega, by omega, fun e => by rw [hBG]; exact LS.lt e, fun e => by rw [hBG]; exact LL.lt e⟩
  have H8 : Hid (LQ W4 W8 BX BG (.slice X0 p.stocks.length x0) (.slice X1 p.lines.length x1) (.slice G0 (moveT p t z).stocks.length q0) (.slice G1 (moveT p t z).lines.length q1) ∧ LBk sx lx W8 (.slice X0 p.stocks.length x0) (.slice X1 p.lines.length x1) p ∧ LSt sg W8 (.slice G0 (moveT p t z).stocks.length q0) (moveT p t z).stocks ∧ LOl lg W8 (.slice G1 (moveT p t z).lines.length q1) (moveT p t z).lines) := ⟨⟨H6.out.1.trans (hb68.mono H6.out.1.size), (hb68.block _ (Array.getElem?_eq_some_iff.1 H6.out.2.1).1).trans H6.out.2.1, hbg⟩, H6.out.2.2.below hb68, LS.below hb8, LL.below hb8⟩
  have HWE : Hid (w7.alloc (.cells #[.slice G0 (moveT p t z).stocks.length q0, .slice G1 (moveT p t z).lines.length q1] 30) = W8 ∧ BG = w7.heap.size) := ⟨hW8, hBG⟩
  clear hsg hlg LS LL hb7 hb8 hbg s7 hb68 hW8 hBG k0 k1 H6
  go_upto_region 10 with fail
  try rw [HWE.out.1]
  try rw [← HWE.out.2]
  clear HWE
  obtain ⟨k0, k1⟩ := box2 H8.out.1.hg
  obtain ⟨_, _, ⟨l0, l1⟩, rW8⟩ := HW.out W8 H8.out.1.bel
  go_wp2_with fail
  refine (eqBk_any (moveT p t z) _ _ _ _ _ ⟨H8.out.2.2.1.row, H8.out.2.2.2.row⟩ rW8).mono ?_
  rintro e w9 ⟨rfl, hb9⟩
  have h9 : LQ W4 w9 BX BG (.slice X0 p.stocks.length x0) (.slice X1 p.lines.length x1) (.slice G0 (moveT p t z).stocks.length q0) (.slice G1 (moveT p t z).lines.length q1) := H8.out.1.below hb9
  have H9 : Hid (LBk sx lx w9 (.slice X0 p.stocks.length x0) (.slice X1 p.lines.length x1) p ∧ LSt sg w9 (.slice G0 (moveT p t z).stocks.length q0) (moveT p t z).stocks ∧ LOl lg w9 (.slice G1 (moveT p t z).lines.length q1) (moveT p t z).lines ∧ LQ W4 w9 BX BG (.slice X0 p.stocks.length x0) (.slice X1 p.lines.length x1) (.slice G0 (moveT p t z).stocks.length q0) (.slice G1 (moveT p t z).lines.length q1)) := ⟨H8.out.2.1.below hb9, H8.out.2.2.1.below hb9, H8.out.2.2.2.below hb9, h9⟩
  clear hb9 k0 k1 l0 l1 rW8 H8 h9
  obtain ⟨k0, k1⟩ := box2 H9.out.2.2.2.hx
  obtain ⟨hU, ⟨l0, l1⟩, _, _⟩ := HW.out w9 H9.out.2.2.2.bel
  have HU : Hid (LP w.heap.size 25 w w9 p (.slice A0 p.stocks.length c0) (.slice A1 p.lines.length c1)) := hU
  clear hU
  go_upto_region 12 with fail
  go_region_held3 (fun W => W.cell? ⟨w.heap.size, 0, none⟩ = some (.slice A0 p.stocks.length c0) ∧ W.cell? ⟨w.heap.size, 1, none⟩ = some (.slice A1 p.lines.length c1) ∧ W.cell? ⟨BX, 0, none⟩ = some (.slice X0 p.stocks.length x0) ∧ W.cell? ⟨BX, 1, none⟩ = some (.slice X1 p.lines.length x1)) (go_keep) (first | (go_at_call_of 6 (Value.agg #[.slice A0 p.stocks.length c0, .slice A1 p.lines.length c1]); refine (toBk_any p _ _ _ HU.out.drew.row HP.out).mono ?_; rintro e wj ⟨vaj, vbj, rfl, rj, hb⟩; have bj : Below w9.heap.size w9 wj := (Below.refl _ _).drew.trans hb; clear hb; obtain ⟨m0, m1⟩ := (HU.out.below bj).cells; obtain ⟨m2, m3⟩ := box2 ((bj.block _ (Array.getElem?_eq_some_iff.1 H9.out.2.2.2.hx).1).trans H9.out.2.2.2.hx)) | (go_at_call 8; refine (eqBk_any p _ _ _ _ _ (H9.out.1.row.below bj) rj).mono ?_; rintro e wg ⟨rfl, hb⟩; have bg : Below w9.heap.size w9 wg := bj.trans (hb.mono bj.size); clear hb; obtain ⟨n0, n1⟩ := (HU.out.below bg).cells; obtain ⟨n2, n3⟩ := box2 ((bg.block _ (Array.getElem?_eq_some_iff.1 H9.out.2.2.2.hx).1).trans H9.out.2.2.2.hx)))
  rename_i hHeld
  clear hHeld
  have H10 : Hid (LBk sx lx wg (.slice X0 p.stocks.length x0) (.slice X1 p.lines.length x1) p ∧ LSt sg wg (.slice G0 (moveT p t z).stocks.length q0) (moveT p t z).stocks ∧ LOl lg wg (.slice G1 (moveT p t z).lines.length q1) (moveT p t z).lines ∧ LQ W4 wg BX BG (.slice X0 p.stocks.length x0) (.slice X1 p.lines.length x1) (.slice G0 (moveT p t z).stocks.length q0) (.slice G1 (moveT p t z).lines.length q1)) := ⟨H9.out.1.below bg, H9.out.2.1.below bg, H9.out.2.2.1.below bg, H9.out.2.2.2.below bg⟩
  clear bg bj rj k0 k1 l0 l1 m0 m1 m2 m3 n0 n1 n2 n3 HU H9
  obtain ⟨k0, k1⟩ := box2 H10.out.2.2.2.hx
  have hls := moveT_lens p t z
  have hP0 := HP.out.1.len
  have hP1 := HP.out.2.len
  go_upto_region 14 with fail
  go_wp2_with fail
  refine (markBk_any sx lx _ _ p 1 _ H10.out.1 (by have h1 := HN.out; have h2 := H10.out.2.2.2.hx; have := (Array.getElem?_eq_some_iff.1 h2).1; omega) ⟨by omega, by omega⟩).mono ?_
  rintro e w11 ⟨rfl, _, hk11⟩
  have H11 : Hid (LSt sg w11 (.slice G0 (moveT p t z).stocks.length q0) (moveT p t z).stocks ∧ LOl lg w11 (.slice G1 (moveT p t z).lines.length q1) (moveT p t z).lines ∧ LQ W4 w11 BX BG (.slice X0 p.stocks.length x0) (.slice X1 p.lines.length x1) (.slice G0 (moveT p t z).stocks.length q0) (.slice G1 (moveT p t z).lines.length q1)) := by
    obtain ⟨n1, n2, n3, n4, n5⟩ := HN.out
    obtain ⟨m1, m2, m3, m4, m5, m6, m7⟩ := HM.out
    have h10 := H10.out
    refine ⟨h10.2.1.of_block fun e => hk11.block _ (h10.2.1.lt e) (by omega) (by omega), h10.2.2.1.of_block fun e => hk11.block _ (h10.2.2.1.lt e) (by omega) (by omega), h10.2.2.2.keep2 hk11 n1 n2 (by omega) (by omega) (by omega) (by omega)⟩
  clear hk11 k0 k1 H10
  obtain ⟨kx, hkx⟩ : ∃ kx, kx = 1 + p.stocks.length * 2 + p.lines.length * 8 := ⟨_, rfl⟩
  rw [← hkx]
  have hkx0 : ¬ (kx : Int) < 0 := by omega
  clear hkx
  obtain ⟨k0, k1⟩ := box2 H11.out.2.2.hg
  obtain ⟨_, _, ⟨l0, l1⟩, rW11⟩ := HW.out w11 H11.out.2.2.bel
  go_wp2_with fail
  refine (eqBk_any (moveT p t z) _ _ _ _ _ ⟨H11.out.1.row, H11.out.2.1.row⟩ rW11).mono ?_
  rintro e w12 ⟨rfl, hb12⟩
  have H12 : Hid (LSt sg w12 (.slice G0 (moveT p t z).stocks.length q0) (moveT p t z).stocks ∧ LOl lg w12 (.slice G1 (moveT p t z).lines.length q1) (moveT p t z).lines ∧ LQ W4 w12 BX BG (.slice X0 p.stocks.length x0) (.slice X1 p.lines.length x1) (.slice G0 (moveT p t z).stocks.length q0) (.slice G1 (moveT p t z).lines.length q1)) := ⟨H11.out.1.below hb12, H11.out.2.1.below hb12, H11.out.2.2.below hb12⟩
  clear hb12 k0 k1 l0 l1 rW11 H11
  obtain ⟨k0, k1⟩ := box2 H12.out.2.2.hg
  obtain ⟨bsg, blg, LG, hq1, hq2, hq3, hq4⟩ := LBk.of H12.out.1 H12.out.2.1
  go_wp2_with fail
  refine (markBk_any bsg blg _ _ (moveT p t z) 1 _ LG hq3 ⟨by omega, by omega⟩).mono ?_
  rintro e w13 ⟨rfl, LG13, hk13⟩
  have H13 : Hid (RBk w13 (.slice G0 (moveT p t z).stocks.length q0) (.slice G1 (moveT p t z).lines.length q1) (mkBk 1 (moveT p t z)) ∧ LQ W4 w13 BX BG (.slice X0 p.stocks.length x0) (.slice X1 p.lines.length x1) (.slice G0 (moveT p t z).stocks.length q0) (.slice G1 (moveT p t z).lines.length q1)) := by
    obtain ⟨n1, n2, n3, n4, n5⟩ := HN.out
    obtain ⟨m1, m2, m3, m4, m5, m6, m7⟩ := HM.out
    have h12 := H12.out.2.2
    have sx1 := (Array.getElem?_eq_some_iff.1 h12.hx).1
    have sg1 := (Array.getElem?_eq_some_iff.1 h12.hg).1
    have g1 : BG ≠ bsg := by
      rcases hq1 with ⟨h, e⟩ | h
      · have := m6 e; omega
      · omega
    have g2 : BG ≠ blg := by
      rcases hq2 with ⟨h, e⟩ | h
      · have := m7 e; omega
      · omega
    refine ⟨LG13.row, h12.keep2 hk13 ?_ ?_ ?_ ?_ g1 g2⟩
    · rcases hq1 with h | h <;> omega
    · rcases hq2 with h | h <;> omega
    · rcases hq1 with h | h <;> omega
    · rcases hq2 with h | h <;> omega
  clear k0 k1 LG LG13 hk13 hq1 hq2 hq3 hq4 H12
  obtain ⟨kg, hkg⟩ : ∃ kg, kg = 1 + (moveT p t z).stocks.length * 2 + (moveT p t z).lines.length * 8 := ⟨_, rfl⟩
  have hkg0 : ¬ (kg : Int) < 0 := by omega
  have QH := fun W h => heldBk_any (.slice G0 (moveT p t z).stocks.length q0) (.slice G1 (moveT p t z).lines.length q1) (moveT p t z) 1 W h ⟨by omega, by omega⟩
  rw [← hkg] at QH ⊢
  have HKG : Hid (kg = 1 + (moveT p t z).stocks.length * 2 + (moveT p t z).lines.length * 8) := hkg
  clear hkg
  obtain ⟨k0, k1⟩ := box2 H13.out.2.hg
  go_wp2_with fail
  refine (QH _ H13.out.1).mono ?_
  rintro e w14 ⟨rfl, hb14⟩
  have H14 : Hid (RBk w14 (.slice G0 (moveT p t z).stocks.length q0) (.slice G1 (moveT p t z).lines.length q1) (mkBk 1 (moveT p t z)) ∧ LQ W4 w14 BX BG (.slice X0 p.stocks.length x0) (.slice X1 p.lines.length x1) (.slice G0 (moveT p t z).stocks.length q0) (.slice G1 (moveT p t z).lines.length q1)) := ⟨H13.out.1.below hb14, H13.out.2.below hb14⟩
  clear hb14 k0 k1 H13
  obtain ⟨hU, ⟨l0, l1⟩, _, _⟩ := HW.out w14 H14.out.2.bel
  have HU : Hid (LP w.heap.size 25 w w14 p (.slice A0 p.stocks.length c0) (.slice A1 p.lines.length c1)) := hU
  clear hU
  go_wp2_with fail
  refine (toBk_any p _ _ _ HU.out.row HP.out).mono ?_
  rintro e w15 ⟨v15, v15', rfl, r15, hb15⟩
  have b15 : Below w14.heap.size w14 w15 := hb15
  clear hb15 l0 l1
  go_wp2_with fail
  refine (bookMove_impl p _ _ t z _ r15 HP.out (by omega)).mono ?_
  rintro e w16 ⟨hs16, hl16, s16, l16, rfl, _, _, LS16, LL16, hb16⟩
  have b16 : Below w14.heap.size w14 w16 := b15.trans (hb16.mono b15.size)
  obtain ⟨J0, j0, rfl⟩ := LS16.val
  obtain ⟨J1, j1, rfl⟩ := LL16.val
  obtain ⟨BH, hBH⟩ : ∃ BH, BH = w16.heap.size := ⟨_, rfl⟩
  obtain ⟨W17, hW17⟩ : ∃ W17, w16.alloc (.cells #[.slice J0 (moveT p t z).stocks.length j0, .slice J1 (moveT p t z).lines.length j1] 30) = W17 := ⟨_, rfl⟩
  have hb17 : Below w16.heap.size w16 W17 := by rw [← hW17]; exact (Below.refl _ _).alloc (Nat.le_refl _) _
  have hbh : W17.heap[BH]? = some (.cells #[.slice J0 (moveT p t z).stocks.length j0, .slice J1 (moveT p t z).lines.length j1] 30) := by rw [hBH, ← hW17]; exact World.alloc_heap_new _ _
  have b17 : Below w14.heap.size w14 W17 := b16.trans (hb17.mono b16.size)
  have H17 : Hid (RBk W17 (.slice G0 (moveT p t z).stocks.length q0) (.slice G1 (moveT p t z).lines.length q1) (mkBk 1 (moveT p t z)) ∧ LQ W4 W17 BX BG (.slice X0 p.stocks.length x0) (.slice X1 p.lines.length x1) (.slice G0 (moveT p t z).stocks.length q0) (.slice G1 (moveT p t z).lines.length q1) ∧ RBk W17 (.slice J0 (moveT p t z).stocks.length j0) (.slice J1 (moveT p t z).lines.length j1) (moveT p t z)) := ⟨H14.out.1.below b17, H14.out.2.below b17, RBk.below ⟨LS16.row, LL16.row⟩ hb17⟩
  have HWE : Hid (w16.alloc (.cells #[.slice J0 (moveT p t z).stocks.length j0, .slice J1 (moveT p t z).lines.length j1] 30) = W17 ∧ BH = w16.heap.size) := ⟨hW17, hBH⟩
  obtain ⟨y0, y1⟩ := box2 hbh
  clear r15 b15 hb16 b16 b17 hb17 hbh LS16 LL16 hW17 hBH H14 HU
  go_upto_region 27 with fail
  try rw [HWE.out.1]
  try rw [← HWE.out.2]
  clear HWE
  obtain ⟨_, _, ⟨l0, l1⟩, rW17⟩ := HW.out W17 H17.out.2.1.bel
  go_wp2_with fail
  refine (eqBk_any (moveT p t z) _ _ _ _ _ H17.out.2.2 rW17).mono ?_
  rintro e w18 ⟨rfl, hb18⟩
  have H18 : Hid (RBk w18 (.slice G0 (moveT p t z).stocks.length q0) (.slice G1 (moveT p t z).lines.length q1) (mkBk 1 (moveT p t z)) ∧ LQ W4 w18 BX BG (.slice X0 p.stocks.length x0) (.slice X1 p.lines.length x1) (.slice G0 (moveT p t z).stocks.length q0) (.slice G1 (moveT p t z).lines.length q1)) := ⟨H17.out.1.below hb18, H17.out.2.1.below hb18⟩
  clear hb18 l0 l1 rW17 y0 y1 H17
  obtain ⟨k0, k1⟩ := box2 H18.out.2.hg
  go_wp2_with fail
  refine (QH _ H18.out.1).mono ?_
  rintro e w19 ⟨rfl, hb19⟩
  have H19 : Hid (Below w.heap.size w w19) := (HW.out w19 (H18.out.2.below hb19).bel).1.bel
  clear hb19 k0 k1 H18 QH
  go_wp2
  go_ret
  exact ⟨rfl, H19.out⟩
theorem own : ownKnob Try.prog.godebug = none := by kernel_rfl
theorem laidOut : laidOutB Try.prog = true := by kernel_rfl
set_option maxRecDepth 100000 in
theorem lifted (os : Os) (started : os.Started) (H : Type) (enc : TypeId × Value → H) :
    ReturnsInHanded {} Try.checked os 3 .any (Rows.fnExactBookMoveSpec.pre6 enc Try.prog Try.f3 Rows.fnExactBookMoveRow.domain false) (Rows.fnExactBookMoveSpec.post enc Try.prog Try.f3 false true false false) := by
  refine returnsInHanded_of_change (C := Try.checked) own started (by kernel_rfl) Try.func3
    (ChangeSpec.witness6 (enc := enc) (C := Try.checked) false ⟨#[], #[.agg #[.slice none 0 0, .slice none 0 0], .string ⟨#[]⟩, .int .i64 0], []⟩ 8 (by kernel_rfl) (by kernel_rfl) (by kernel_rfl) (by kernel_rfl)) ?_
  intro W base args ds gs before hval0 hW hcnd _
  have hval : ∀ (j : Nat) t v, Try.f3.params[j]? = some t → args[j]? = some v → Value.okWide Try.prog W .any base t v := hval0
  have hW' := hW
  obtain ⟨p, q, hA0, hV, rfl, hfz, hnd⟩ := hW
  have hA : DataW.TrodAll enc Try.prog W 0 (fun _ => true) true Try.f3.params.toList args.toList ds p := hA0
  rw [Try.params3] at hA hval
  obtain ⟨v0, vs0, d0, ds0, p0, q0, hargs, rfl, rfl, h0, r0⟩ := trodAll_cons hA
  obtain ⟨v1, vs1, d1, ds1, p1, q1, rfl, rfl, rfl, h1, r1⟩ := trodAll_cons r0
  obtain ⟨v2, vs2, d2, ds2, p2, q2, rfl, rfl, rfl, h2, r2⟩ := trodAll_cons r1
  obtain ⟨rfl, rfl, rfl⟩ := trodAll_nil r2
  obtain rfl : args = #[v0, v1, v2] := by cases args; simp_all
  obtain ⟨rfl, rfl⟩ := trodVars_none hV
  have k0 := h0
  have lt0 : ∀ x ∈ p0, x.block < W.heap.size := by obtain ⟨m, hm⟩ := k0; exact DataW.trod_lt m _ _ _ hm
  obtain ⟨q0, us0, ul0, rfl, hr0⟩ := openBka (hval 0 25 v0 rfl rfl) h0
  have k1 := h1
  have lt1 : ∀ x ∈ p1, x.block < W.heap.size := by obtain ⟨m, hm⟩ := k1; exact DataW.trod_lt m _ _ _ hm
  obtain ⟨s1, rfl, hs1⟩ : ∃ s : ByteArray, v1 = .string s ∧ s.size ≤ maxLen := by
    obtain ⟨s, rfl, _, _, hs⟩ := open_string Try.underlying9 (hval 1 9 v1 rfl rfl) h1
    exact ⟨s, rfl, hs⟩
  have k2 := h2
  have lt2 : ∀ x ∈ p2, x.block < W.heap.size := by obtain ⟨m, hm⟩ := k2; exact DataW.trod_lt m _ _ _ hm
  obtain ⟨n2, rfl⟩ : ∃ n : Int, v2 = .int .i64 n := by
    obtain ⟨n, rfl, _, _, _⟩ := open_int Try.underlying2 (hval 2 2 v2 rfl rfl) h2
    exact ⟨n, rfl⟩
  clear hA0 hval0
  refine (walk q0 us0 ul0 s1 n2 W hr0 hs1).mono fun e W' ⟨he, bel⟩ => ?_
  subst he
  exact ⟨_, rfl, _, _, _, [], _, [], hW', trodAll_mk1 (shut_bool Try.underlying4 _), (trodAll_cons_mk (Below.trod laidOut (by kernel_rfl) (of_decide_eq_true (by kernel_rfl)) k0 bel lt0) (trodAll_cons_mk (Below.trod laidOut (by kernel_rfl) (of_decide_eq_true (by kernel_rfl)) k1 bel lt1) (trodAll_cons_mk (Below.trod laidOut (by kernel_rfl) (of_decide_eq_true (by kernel_rfl)) k2 bel lt2) trodAll_mk0))), rfl, bel.frame _, fun h => by cases h⟩
theorem over : Rows.fnExactBookMoveRow.holds Try.pinned (OpenSpec.ofChange Rows.fnExactBookMoveSpec) :=
  OpenClaim.holds_of_wide 3 Try.f3 rfl rfl rfl rfl rfl rfl rfl ⟨rfl, rfl, rfl, rfl, rfl⟩ rfl rfl rfl rfl rfl (by kernel_rfl) Try.func3 (by kernel_rfl)
    (of_decide_eq_true (by kernel_rfl)) (by unfold Func.isWrapper; first | (rw [if_pos (by decide +kernel)]; kernel_rfl) | (rw [if_neg (by decide +kernel)]; exact ⟨rfl, rfl⟩))
    (fun os started H enc _ => lifted os started H enc)
end fnExactBookMove
theorem fnExactBookMove_holds : Rows.FnExactBookMoveSaid := fnExactBookMove.over
#print axioms fnExactBookMove_holds
end Go.Proofs.Ytolblghcdekhbaa
