/- FnExactBookItems returns true at every book and leaves it as it was: BookItems answers as its model, writes into no argument, keeps nothing of one, and its answer owns its memory; no condition. -/
import Derived.Test.YtkhnobipjckkiaaSzBk
import Derived.Test.YtkhnobipjckkiaaToBk
import Derived.Test.YtkhnobipjckkiaaEqBk
import Derived.Test.YtkhnobipjckkiaaOpenBk
import Derived.Test.YtkhnobipjckkiaaBiI
import Derived.Test.YtkhnobipjckkiaaBiS
import Derived.Test.YtkhnobipjckkiaaMkBk
import Derived.Test.YtkhnobipjckkiaaMarks
import Derived.Deep.RegionHeld3
import Derived.Lib.SmallJoins
namespace Go.Proofs.Ytkhnobipjckkiaa
open Go.ChangeShapes Go.WideShapes Go.ChangeAt Go.RowKit Go.Joins
open Go.ChangeMaps (open_string shut_string)
set_option linter.unusedVariables false
namespace fnExactBookItems
/-- Block B holds the book. -/
structure LP (B t : Nat) (w W : World) (p : Bk) (us ul : Value) : Prop where
  bel : Below w.heap.size w W
  blk : W.heap[B]? = some (.cells #[us, ul] t)
  row : RBk W us ul p
theorem LP.below {B t : Nat} {w W W' : World} {p : Bk} {us ul : Value} (h : LP B t w W p us ul) (hb : Below W.heap.size W W') : LP B t w W' p us ul :=
  ⟨h.bel.trans (hb.mono h.bel.size), (hb.block B (Array.getElem?_eq_some_iff.1 h.blk).1).trans h.blk, h.row.below hb⟩
theorem LP.drew {B t : Nat} {w W : World} {p : Bk} {us ul : Value} (h : LP B t w W p us ul) : LP B t w W.drew p us ul := h.below (Below.refl _ _).drew
theorem LP.cells {B t : Nat} {w W : World} {p : Bk} {us ul : Value} (h : LP B t w W p us ul) : W.cell? ⟨B, 0, none⟩ = some us ∧ W.cell? ⟨B, 1, none⟩ = some ul := box2 h.blk
theorem LP.made {B t : Nat} {w W : World} {p q : Bk} {us ul : Value} (h : LP B t w W p us ul) (t' : Nat) {us' ul' : Value} (h' : RBk W us' ul' q) :
    LP W.heap.size t' w (W.alloc (.cells #[us', ul'] t')) q us' ul' :=
  ⟨h.bel.alloc h.bel.size _, World.alloc_heap_new W _, h'.below ((Below.refl _ _).alloc (Nat.le_refl _) _)⟩
theorem ownX {B B' : Nat} {W : World} {v v' : Value} {p : Bk} (h : OwnSt B W v p.stocks) (h' : OwnOl B' W v' p.lines) (hG : BdBk 1048576 p) : ∃ b c, B ≤ b ∧ b < W.heap.size ∧ B' ≤ c ∧ c < W.heap.size ∧ LBk b c W v v' p := by
  obtain ⟨b, f, h1, h2, h3, h4⟩ := h
  obtain ⟨c, f', k1, k2, k3, k4⟩ := h'
  have hl := hG.1.len
  have hl' := hG.2.len
  refine ⟨b, c, h1, h3.lt, k1, k3.lt, ⟨⟨⟨_, _, h2, fun _ => ⟨rfl, _, f, h3, Nat.le_refl _, h4⟩⟩, by omega, fun i g hi => by have := hG.1.2 i g hi; omega⟩, ⟨⟨_, _, k2, fun _ => ⟨rfl, _, f', k3, Nat.le_refl _, k4⟩⟩, by omega, fun i g hi => by have := hG.2.2 i g hi; omega⟩, fun e => ?_⟩⟩
  subst e
  obtain ⟨x1, y1, _⟩ := h3
  obtain ⟨x2, y2, _⟩ := k3
  have y3 := y1.symm.trans y2
  simp at y3
theorem srow_of {W W' : World} {n₀ g : Nat} {ad : Option Addr} {T : List ByteArray} (h : SRow W n₀ g ad T) (hb : 0 < T.length → g < W.heap.size → W'.heap[g]? = W.heap[g]?) : SRow W' n₀ g ad T :=
  ⟨h.at_, h.base, fun i hi => (World.cell?_of_block (w := W) (a := ⟨g, i, none⟩) (hb (by omega) (cell_lt (h.cell i hi)))).trans (h.cell i hi), fun g0 o => (World.frozen?_of_block (w := W) (a := ⟨g, o, none⟩) (hb g0 (cell_lt (h.cell 0 g0)))).trans (h.fz g0 o)⟩
theorem srow_lt {W : World} {n₀ g : Nat} {ad : Option Addr} {T : List ByteArray} (h : SRow W n₀ g ad T) (h0 : 0 < T.length) : g < W.heap.size := cell_lt (h.cell 0 h0)
theorem mark1 (ad : Option Addr) (cap g n₀ : Nat) (T : List ByteArray) (w : World) (hT : T.length ≤ 40001) (h : SRow w n₀ g ad T) :
    Calls Try.prog 27 #[.slice ad T.length cap, .int .i64 1] w fun e w' => e = .returned (.int .i64 ((1 + T.length : Nat) : Int)) ∧ (∀ i, i < T.length → w'.cell? ⟨g, i, none⟩ = some (.string (mt (1 + i)))) ∧ ∀ B, (0 < T.length → B = g) → Keep B w w' := markStrings_any ad cap g n₀ 1 T w hT (by omega) (by omega) h
theorem held1 (ad : Option Addr) (cap g n : Nat) (w : World) (hn : n ≤ 40001) (hat : 0 < n → ad = some ⟨g, 0, none⟩) (hc : ∀ i, i < n → w.cell? ⟨g, i, none⟩ = some (.string (mt (1 + i)))) :
    Calls Try.prog 28 #[.slice ad n cap, .int .i64 1] w fun e w' => e = .returned (.int .i64 ((1 + n : Nat) : Int)) ∧ Below w.heap.size w w' := heldStrings_any ad cap g 1 n w hn (by omega) (by omega) hat hc
theorem bi_impl {p : Bk} {T : List ByteArray} (hT : itemsT p = T) (us ul : Value) (w : World) (h : RBk w us ul p) : Calls Try.prog 25 #[.agg #[us, ul]] w fun e w' => ∃ g ad cap, e = .returned (.slice ad T.length cap) ∧ SRow w' w.heap.size g ad T ∧ Below w.heap.size w w' := by
  subst hT
  refine (bookItems_impl p us ul w h).mono ?_
  rintro e w' ⟨v, rfl, ho, hb⟩
  obtain ⟨g, ad, cap, rfl, S⟩ := SRow.of_owns ho
  exact ⟨g, ad, cap, rfl, S, hb⟩
theorem bi_spec {p : Bk} {T : List ByteArray} (hT : itemsT p = T) (us ul : Value) (w : World) (h : RBk w us ul p) : Calls Try.prog 24 #[.agg #[us, ul]] w fun e w' => ∃ g ad cap, e = .returned (.slice ad T.length cap) ∧ SRow w' w.heap.size g ad T ∧ Below w.heap.size w w' := by
  subst hT
  refine (bookItems_spec p us ul w h).mono ?_
  rintro e w' ⟨v, rfl, ho, hb⟩
  obtain ⟨g, ad, cap, rfl, S⟩ := SRow.of_owns ho
  exact ⟨g, ad, cap, rfl, S, hb⟩
/-- A box beside all that lay in W4. -/
structure LQ (W4 W : World) (BX : Nat) (xs xl : Value) : Prop where
  bel : Below W4.heap.size W4 W
  hx : W.heap[BX]? = some (.cells #[xs, xl] 31)
theorem LQ.below {W4 W W' : World} {BX : Nat} {xs xl : Value} (h : LQ W4 W BX xs xl) (hb : Below W.heap.size W W') : LQ W4 W' BX xs xl :=
  ⟨h.bel.trans (hb.mono h.bel.size), (hb.block _ (Array.getElem?_eq_some_iff.1 h.hx).1).trans h.hx⟩
theorem LQ.keep2 {W4 W W' : World} {BX b c : Nat} {xs xl : Value} (h : LQ W4 W BX xs xl) (hk : Keep2 b c W W') (h1 : W4.heap.size ≤ b) (h2 : W4.heap.size ≤ c) (h3 : BX ≠ b) (h4 : BX ≠ c) : LQ W4 W' BX xs xl :=
  ⟨h.bel.trans (hk.below h1 h2 h.bel.size), (hk.block _ (Array.getElem?_eq_some_iff.1 h.hx).1 h3 h4).trans h.hx⟩
set_option maxHeartbeats 16000000 in
theorem walk (p : Bk) (us ul : Value) (w : World) (h : RBk w us ul p) :
    Calls Try.prog 8 #[.agg #[us, ul]] w fun e w' => e = .returned (.bool true) ∧ Below w.heap.size w w' := by
  obtain ⟨A0, c0, A1, c1, rfl, rfl⟩ := h.val
  have b1 : Below w.heap.size w (w.alloc (.cells #[.slice A0 p.stocks.length c0, .slice A1 p.lines.length c1] 25)) := (Below.refl _ _).alloc (Nat.le_refl _) _
  have h0 : LP w.heap.size 25 w (w.alloc (.cells #[.slice A0 p.stocks.length c0, .slice A1 p.lines.length c1] 25)) p (.slice A0 p.stocks.length c0) (.slice A1 p.lines.length c1) := ⟨b1, World.alloc_heap_new w _, h.below b1⟩
  have H0 : Hid (LP w.heap.size 25 w (w.alloc (.cells #[.slice A0 p.stocks.length c0, .slice A1 p.lines.length c1] 25)) p (.slice A0 p.stocks.length c0) (.slice A1 p.lines.length c1)) := h0
  clear h b1 h0
  go_enter Try.func8, Try.ntmps8
  go_wp2_with fail
  refine (szBk_any p _ _ 1048576 _ H0.out.row (by omega)).mono ?_
  rintro e w1 ⟨r, rfl, hr, hb1⟩
  have h1 := H0.out.below hb1
  clear hb1 H0
  rcases hr with rfl | ⟨g0, g1, hP⟩
  · have H1 : Hid (Below w.heap.size w w1) := h1.bel
    clear h1
    go_wp2
    go_ret
    exact ⟨rfl, H1.out⟩
  have g0' : ¬ r < 0 := by omega
  have HP : Hid (BdBk 1048576 p) := hP
  clear hP
  obtain ⟨T, hT⟩ : ∃ T, itemsT p = T := ⟨_, rfl⟩
  have hT3 : T.length ≤ 300 := by rw [← hT]; exact itemsT_len
  have HT : Hid (itemsT p = T) := hT
  clear hT
  obtain ⟨k0, k1⟩ := h1.cells
  go_wp2_with fail
  refine (toBk_any p _ _ _ h1.row HP.out).mono ?_
  rintro e w2 ⟨v2, v2', rfl, r2, hb2⟩
  have h2 := h1.below hb2
  clear hb2 h1 k0 k1
  go_wp2_with fail
  refine (bi_spec HT.out _ _ _ r2).mono ?_
  rintro e w3 ⟨g0, ad0, cap0, rfl, S0, hb3⟩
  have h3 := h2.below hb3
  have H3 : Hid (LP w.heap.size 25 w w3 p (.slice A0 p.stocks.length c0) (.slice A1 p.lines.length c1) ∧ SRow w3 w2.heap.size g0 ad0 T) := ⟨h3, S0⟩
  have HW : Hid (∀ W, Below w3.heap.size w3 W → LP w.heap.size 25 w W p (.slice A0 p.stocks.length c0) (.slice A1 p.lines.length c1) ∧ (W.cell? ⟨w.heap.size, 0, none⟩ = some (.slice A0 p.stocks.length c0) ∧ W.cell? ⟨w.heap.size, 1, none⟩ = some (.slice A1 p.lines.length c1))) := fun W hW => ⟨H3.out.1.below hW, (H3.out.1.below hW).cells⟩
  clear hb3 h2 r2 h3 S0
  obtain ⟨k0, k1⟩ := H3.out.1.cells
  go_wp2_with fail
  refine (toBk_own p _ _ _ H3.out.1.row HP.out).mono ?_
  rintro e w5 ⟨xs, xl, rfl, oS, oL, hb5⟩
  obtain ⟨sx, lx, hsx, hsx5, hlx, hlx5, LX0⟩ := ownX oS oL HP.out
  obtain ⟨X0, x0, X1, x1, rfl, rfl⟩ := LX0.row.val
  obtain ⟨BX, hBX⟩ : ∃ BX, BX = w5.heap.size := ⟨_, rfl⟩
  obtain ⟨W6, hW6⟩ : ∃ W6, w5.alloc (.cells #[.slice X0 p.stocks.length x0, .slice X1 p.lines.length x1] 31) = W6 := ⟨_, rfl⟩
  have hb6 : Below w5.heap.size w5 W6 := by rw [← hW6]; exact (Below.refl _ _).alloc (Nat.le_refl _) _
  have hbx : W6.heap[BX]? = some (.cells #[.slice X0 p.stocks.length x0, .slice X1 p.lines.length x1] 31) := by rw [hBX, ← hW6]; exact World.alloc_heap_new _ _
  have s5 := hb5.size
  have s6 : W6.heap.size = w5.heap.size + 1 := by rw [← hW6]; simp
  have HN : Hid (w3.heap.size ≤ sx ∧ w3.heap.size ≤ lx ∧ sx < BX ∧ lx < BX ∧ W6.heap.size = BX + 1 ∧ w3.heap.size ≤ BX) := ⟨hsx, hlx, by omega, by omega, by omega, by omega⟩
  have hb36 : Below w3.heap.size w3 W6 := hb5.trans (hb6.mono s5)
  have H6 : Hid (LQ w3 W6 BX (.slice X0 p.stocks.length x0) (.slice X1 p.lines.length x1) ∧ LBk sx lx W6 (.slice X0 p.stocks.length x0) (.slice X1 p.lines.length x1) p ∧ SRow W6 w2.heap.size g0 ad0 T) := ⟨⟨hb36, hbx⟩, LX0.below hb6, H3.out.2.below hb36⟩
  have HG0 : Hid (0 < T.length → g0 < w3.heap.size) := fun h0 => srow_lt H3.out.2 h0
  have HWE : Hid (w5.alloc (.cells #[.slice X0 p.stocks.length x0, .slice X1 p.lines.length x1] 31) = W6 ∧ BX = w5.heap.size) := ⟨hW6, hBX⟩
  clear hsx hlx hsx5 hlx5 oS oL hb5 hb6 hbx s5 s6 LX0 hW6 hBX k0 k1 hb36 H3
  go_upto_region 7 with fail
  try rw [HWE.out.1]
  try rw [← HWE.out.2]
  clear HWE
  obtain ⟨k0, k1⟩ := box2 H6.out.1.hx
  go_wp2_with fail
  refine (bi_impl HT.out _ _ _ H6.out.2.1.row).mono ?_
  rintro e w7 ⟨g1, ad1, cap1, rfl, S1, hb7⟩
  have HG1 : Hid (0 < T.length → W6.heap.size ≤ g1) := fun h0 => S1.base h0
  have H7 : Hid (LBk sx lx w7 (.slice X0 p.stocks.length x0) (.slice X1 p.lines.length x1) p ∧ SRow w7 w2.heap.size g0 ad0 T ∧ SRow w7 W6.heap.size g1 ad1 T ∧ LQ w3 w7 BX (.slice X0 p.stocks.length x0) (.slice X1 p.lines.length x1)) := ⟨H6.out.2.1.below hb7, H6.out.2.2.below hb7, S1, H6.out.1.below hb7⟩
  clear hb7 S1 k0 k1 H6
  go_wp2_with fail
  refine (eqStrings_same ad1 ad0 cap1 cap0 g1 g0 W6.heap.size w2.heap.size T _ (by omega) H7.out.2.2.1 H7.out.2.1).mono ?_
  rintro e w9 ⟨rfl, hb9⟩
  have H9 : Hid (LBk sx lx w9 (.slice X0 p.stocks.length x0) (.slice X1 p.lines.length x1) p ∧ SRow w9 w2.heap.size g0 ad0 T ∧ SRow w9 W6.heap.size g1 ad1 T ∧ LQ w3 w9 BX (.slice X0 p.stocks.length x0) (.slice X1 p.lines.length x1)) := by
    obtain ⟨q, rfl⟩ := hb9
    have hb : Below w7.heap.size w7 (w7.drewN q) := below_drewN (Below.refl _ _) q
    exact ⟨H7.out.1.below hb, H7.out.2.1.below hb, H7.out.2.2.1.below hb, H7.out.2.2.2.below hb⟩
  clear hb9 H7
  obtain ⟨k0, k1⟩ := box2 H9.out.2.2.2.hx
  obtain ⟨hU, l0, l1⟩ := HW.out w9 H9.out.2.2.2.bel
  have HU : Hid (LP w.heap.size 25 w w9 p (.slice A0 p.stocks.length c0) (.slice A1 p.lines.length c1)) := hU
  clear hU
  go_upto_region 10 with fail
  go_region_held3 (fun W => W.cell? ⟨w.heap.size, 0, none⟩ = some (.slice A0 p.stocks.length c0) ∧ W.cell? ⟨w.heap.size, 1, none⟩ = some (.slice A1 p.lines.length c1) ∧ W.cell? ⟨BX, 0, none⟩ = some (.slice X0 p.stocks.length x0) ∧ W.cell? ⟨BX, 1, none⟩ = some (.slice X1 p.lines.length x1)) (go_keep) (first | (go_at_call_of 11 (Value.agg #[.slice A0 p.stocks.length c0, .slice A1 p.lines.length c1]); refine (toBk_any p _ _ _ HU.out.drew.row HP.out).mono ?_; rintro e wj ⟨vaj, vbj, rfl, rj, hb⟩; have bj : Below w9.heap.size w9 wj := (Below.refl _ _).drew.trans hb; clear hb; obtain ⟨m0, m1⟩ := (HU.out.below bj).cells; obtain ⟨m2, m3⟩ := box2 ((bj.block _ (Array.getElem?_eq_some_iff.1 H9.out.2.2.2.hx).1).trans H9.out.2.2.2.hx)) | (go_at_call 13; refine (eqBk_any p _ _ _ _ _ (H9.out.1.row.below bj) rj).mono ?_; rintro e wg ⟨rfl, hb⟩; have bg : Below w9.heap.size w9 wg := bj.trans (hb.mono bj.size); clear hb; obtain ⟨n0, n1⟩ := (HU.out.below bg).cells; obtain ⟨n2, n3⟩ := box2 ((bg.block _ (Array.getElem?_eq_some_iff.1 H9.out.2.2.2.hx).1).trans H9.out.2.2.2.hx)))
  rename_i hHeld
  clear hHeld
  have H10 : Hid (LBk sx lx wg (.slice X0 p.stocks.length x0) (.slice X1 p.lines.length x1) p ∧ SRow wg w2.heap.size g0 ad0 T ∧ SRow wg W6.heap.size g1 ad1 T ∧ LQ w3 wg BX (.slice X0 p.stocks.length x0) (.slice X1 p.lines.length x1)) := ⟨H9.out.1.below bg, H9.out.2.1.below bg, H9.out.2.2.1.below bg, H9.out.2.2.2.below bg⟩
  clear bg bj rj k0 k1 l0 l1 m0 m1 m2 m3 n0 n1 n2 n3 HU H9
  obtain ⟨k0, k1⟩ := box2 H10.out.2.2.2.hx
  have hP0 := HP.out.1.len
  have hP1 := HP.out.2.len
  go_upto_region 12 with fail
  go_wp2_with fail
  refine (markBk_any sx lx _ _ p 1 _ H10.out.1 (by have h1 := HN.out; have h2 := H10.out.2.2.2.hx; have := (Array.getElem?_eq_some_iff.1 h2).1; omega) ⟨by omega, by omega⟩).mono ?_
  rintro e w11 ⟨rfl, _, hk11⟩
  have H11 : Hid (SRow w11 w2.heap.size g0 ad0 T ∧ SRow w11 W6.heap.size g1 ad1 T ∧ LQ w3 w11 BX (.slice X0 p.stocks.length x0) (.slice X1 p.lines.length x1)) := by
    obtain ⟨n1, n2, n3, n4, n5, n6⟩ := HN.out
    have h10 := H10.out
    have y0 := HG0.out
    have y1 := HG1.out
    refine ⟨srow_of h10.2.1 fun e e' => hk11.block _ e' (by have := y0 e; omega) (by have := y0 e; omega), srow_of h10.2.2.1 fun e e' => hk11.block _ e' (by have := y1 e; omega) (by have := y1 e; omega), h10.2.2.2.keep2 hk11 n1 n2 (by omega) (by omega)⟩
  clear hk11 k0 k1 H10
  obtain ⟨kx, hkx⟩ : ∃ kx, kx = 1 + p.stocks.length * 2 + p.lines.length * 8 := ⟨_, rfl⟩
  rw [← hkx]
  have hkx0 : ¬ (kx : Int) < 0 := by omega
  clear hkx
  go_wp2_with fail
  refine (eqStrings_same ad1 ad0 cap1 cap0 g1 g0 W6.heap.size w2.heap.size T _ (by omega) H11.out.2.1 H11.out.1).mono ?_
  rintro e w12 ⟨rfl, hb12⟩
  have H12 : Hid (SRow w12 w2.heap.size g0 ad0 T ∧ SRow w12 W6.heap.size g1 ad1 T ∧ LQ w3 w12 BX (.slice X0 p.stocks.length x0) (.slice X1 p.lines.length x1)) := by
    obtain ⟨q, rfl⟩ := hb12
    have hb : Below w11.heap.size w11 (w11.drewN q) := below_drewN (Below.refl _ _) q
    exact ⟨H11.out.1.below hb, H11.out.2.1.below hb, H11.out.2.2.below hb⟩
  clear hb12 H11
  go_wp2_with fail
  refine (mark1 ad1 cap1 g1 W6.heap.size T _ (by omega) H12.out.2.1).mono ?_
  rintro e w13 ⟨rfl, hm13, hk13⟩
  have H13 : Hid (SRow w13 w2.heap.size g0 ad0 T ∧ (0 < T.length → ad1 = some ⟨g1, 0, none⟩) ∧ (∀ i, i < T.length → w13.cell? ⟨g1, i, none⟩ = some (.string (mt (1 + i)))) ∧ Below w3.heap.size w3 w13) := by
    obtain ⟨n1, n2, n3, n4, n5, n6⟩ := HN.out
    have y0 := HG0.out
    have y1 := HG1.out
    have h12 := H12.out
    obtain ⟨B, hBg, hBw⟩ : ∃ B, (0 < T.length → B = g1) ∧ w3.heap.size ≤ B := by
      by_cases h0 : 0 < T.length
      · exact ⟨g1, fun _ => rfl, by have := y1 h0; omega⟩
      · exact ⟨w3.heap.size, fun h => absurd h h0, by omega⟩
    have hK := hk13 B hBg
    exact ⟨h12.1.keep hK (fun h0 => by rw [hBg h0]; have := y0 h0; have := y1 h0; omega), h12.2.1.at_, hm13, h12.2.2.bel.trans (hK.below hBw h12.2.2.bel.size)⟩
  clear H12 hm13 hk13
  have QH := fun W h => held1 ad1 cap1 g1 T.length W (by omega) H13.out.2.1 h
  obtain ⟨kg, hkg⟩ : ∃ kg, kg = 1 + T.length := ⟨_, rfl⟩
  rw [← hkg] at QH ⊢
  have hkg0 : ¬ (kg : Int) < 0 := by omega
  clear hkg
  go_wp2_with fail
  refine (QH _ H13.out.2.2.1).mono ?_
  rintro e w14 ⟨rfl, hb14⟩
  have H14 : Hid (SRow w14 w2.heap.size g0 ad0 T ∧ (∀ i, i < T.length → w14.cell? ⟨g1, i, none⟩ = some (.string (mt (1 + i)))) ∧ Below w3.heap.size w3 w14) := ⟨H13.out.1.below hb14, fun i hi => (hb14.cell (p := ⟨g1, i, none⟩) (cell_lt (H13.out.2.2.1 i hi))).trans (H13.out.2.2.1 i hi), H13.out.2.2.2.trans (hb14.mono H13.out.2.2.2.size)⟩
  clear hb14 H13
  obtain ⟨hU, l0, l1⟩ := HW.out w14 H14.out.2.2
  have HU : Hid (LP w.heap.size 25 w w14 p (.slice A0 p.stocks.length c0) (.slice A1 p.lines.length c1)) := hU
  clear hU
  go_wp2_with fail
  refine (toBk_any p _ _ _ HU.out.row HP.out).mono ?_
  rintro e w15 ⟨v15, v15', rfl, r15, hb15⟩
  have b15 : Below w14.heap.size w14 w15 := hb15
  clear hb15 l0 l1
  go_wp2_with fail
  refine (bi_impl HT.out _ _ _ r15).mono ?_
  rintro e w16 ⟨g2, ad2, cap2, rfl, S2, hb16⟩
  have b16 : Below w14.heap.size w14 w16 := b15.trans (hb16.mono b15.size)
  have H16 : Hid (SRow w16 w2.heap.size g0 ad0 T ∧ SRow w16 w15.heap.size g2 ad2 T ∧ (∀ i, i < T.length → w16.cell? ⟨g1, i, none⟩ = some (.string (mt (1 + i)))) ∧ Below w3.heap.size w3 w16) := ⟨H14.out.1.below b16, S2, fun i hi => (b16.cell (p := ⟨g1, i, none⟩) (cell_lt (H14.out.2.1 i hi))).trans (H14.out.2.1 i hi), H14.out.2.2.trans (b16.mono H14.out.2.2.size)⟩
  clear r15 b15 hb16 b16 S2 H14 HU
  go_wp2_with fail
  refine (eqStrings_same ad2 ad0 cap2 cap0 g2 g0 w15.heap.size w2.heap.size T _ (by omega) H16.out.2.1 H16.out.1).mono ?_
  rintro e w17 ⟨rfl, hb17⟩
  have H17 : Hid ((∀ i, i < T.length → w17.cell? ⟨g1, i, none⟩ = some (.string (mt (1 + i)))) ∧ Below w3.heap.size w3 w17) := by
    obtain ⟨q, rfl⟩ := hb17
    exact ⟨fun i hi => H16.out.2.2.1 i hi, below_drewN H16.out.2.2.2 q⟩
  clear hb17 H16
  go_wp2_with fail
  refine (QH _ H17.out.1).mono ?_
  rintro e w18 ⟨rfl, hb18⟩
  have H18 : Hid (Below w.heap.size w w18) := (HW.out w18 (H17.out.2.trans (hb18.mono H17.out.2.size))).1.bel
  clear hb18 H17 QH
  go_wp2
  go_ret
  exact ⟨rfl, H18.out⟩
theorem own : ownKnob Try.prog.godebug = none := by kernel_rfl
theorem laidOut : laidOutB Try.prog = true := by kernel_rfl
set_option maxRecDepth 100000 in
theorem lifted (os : Os) (started : os.Started) (H : Type) (enc : TypeId × Value → H) :
    ReturnsInHanded {} Try.checked os 8 .any (Rows.fnExactBookItemsSpec.pre6 enc Try.prog Try.f8 Rows.fnExactBookItemsRow.domain false) (Rows.fnExactBookItemsSpec.post enc Try.prog Try.f8 false true false false) := by
  refine returnsInHanded_of_change (C := Try.checked) own started (by kernel_rfl) Try.func8
    (ChangeSpec.witness6 (enc := enc) (C := Try.checked) false ⟨#[], #[.agg #[.slice none 0 0, .slice none 0 0]], []⟩ 8 (by kernel_rfl) (by kernel_rfl) (by kernel_rfl) (by kernel_rfl)) ?_
  intro W base args ds gs before hval0 hW hcnd _
  have hval : ∀ (j : Nat) t v, Try.f8.params[j]? = some t → args[j]? = some v → Value.okWide Try.prog W .any base t v := hval0
  have hW' := hW
  obtain ⟨p, q, hA0, hV, rfl, hfz, hnd⟩ := hW
  have hA : DataW.TrodAll enc Try.prog W 0 (fun _ => true) true Try.f8.params.toList args.toList ds p := hA0
  rw [Try.params8] at hA hval
  obtain ⟨v0, vs0, d0, ds0, p0, q0, hargs, rfl, rfl, h0, r0⟩ := trodAll_cons hA
  obtain ⟨rfl, rfl, rfl⟩ := trodAll_nil r0
  obtain rfl : args = #[v0] := by cases args; simp_all
  obtain ⟨rfl, rfl⟩ := trodVars_none hV
  have k0 := h0
  have lt0 : ∀ x ∈ p0, x.block < W.heap.size := by obtain ⟨m, hm⟩ := k0; exact DataW.trod_lt m _ _ _ hm
  obtain ⟨q0, us0, ul0, rfl, hr0⟩ := openBka (hval 0 25 v0 rfl rfl) h0
  clear hA0 hval0
  refine (walk q0 us0 ul0 W hr0).mono fun e W' ⟨he, bel⟩ => ?_
  subst he
  exact ⟨_, rfl, _, _, _, [], _, [], hW', trodAll_mk1 (shut_bool Try.underlying4 _), (trodAll_cons_mk (Below.trod laidOut (by kernel_rfl) (of_decide_eq_true (by kernel_rfl)) k0 bel lt0) trodAll_mk0), rfl, bel.frame _, fun h => by cases h⟩
theorem over : Rows.fnExactBookItemsRow.holds Try.pinned (OpenSpec.ofChange Rows.fnExactBookItemsSpec) :=
  OpenClaim.holds_of_wide 8 Try.f8 rfl rfl rfl rfl rfl rfl rfl ⟨rfl, rfl, rfl, rfl, rfl⟩ rfl rfl rfl rfl rfl (by kernel_rfl) Try.func8 (by kernel_rfl)
    (of_decide_eq_true (by kernel_rfl)) (by unfold Func.isWrapper; first | (rw [if_pos (by decide +kernel)]; kernel_rfl) | (rw [if_neg (by decide +kernel)]; exact ⟨rfl, rfl⟩))
    (fun os started H enc _ => lifted os started H enc)
end fnExactBookItems
theorem fnExactBookItems_holds : Rows.FnExactBookItemsSaid := fnExactBookItems.over
#print axioms fnExactBookItems_holds
end Go.Proofs.Ytkhnobipjckkiaa
