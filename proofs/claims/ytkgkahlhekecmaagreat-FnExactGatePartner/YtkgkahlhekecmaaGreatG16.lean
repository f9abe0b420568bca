/- Texts of ours put together: MkGt, GtO, AppSn, OwnD, PtP, AppNSn, ShClone. -/
import Derived.Test.YtkgkahlhekecmaaGreatG13
import Derived.Test.YtkgkahlhekecmaaGreatG14
import Derived.Test.YtkgkahlhekecmaaGreatG15
import Derived.Test.YtkgkahlhekecmaaGreatG06
import Derived.Test.YtkgkahlhekecmaaGreatG00
import Derived.Laws.AppendOwn
import Derived.Maps.AppendAt
import Derived.Deep.AppendLies
import Derived.BigFrame
import Derived.Shelf.LaysM
import Derived.Shelf.Strconv.Clone
namespace Go.Proofs.YtkgkahlhekecmaaGreat
open Go.ChangeShapes Go.WideShapes Go.ChangeAt Go.RowKit
set_option maxRecDepth 20000 in
set_option maxHeartbeats 8000000 in
theorem heldGt_any (g : Gat) (up uc us ul ud uo : Value) (k : Nat) (w : World) (h : RGt w up uc us ul ud uo (mkG k g)) (hk : 0 < k ∧ k + cntG g < 100000000000) :
    Calls Tryz.prog 43 #[.agg #[.string g.name, .int .i64 g.day, up, uc, us, ul, ud, uo], .int .i64 (k : Int)] w fun e w' => e = .returned (.int .i64 ((k + cntG g : Nat) : Int)) ∧ Below w.heap.size w w' := by
  unfold cntG at hk
  obtain ⟨k1, hk1⟩ : ∃ k1, k1 = k + cntP g.ptns := ⟨_, rfl⟩
  obtain ⟨k2, hk2⟩ : ∃ k2, k2 = k1 + g.crss.length * 3 := ⟨_, rfl⟩
  obtain ⟨k3, hk3⟩ : ∃ k3, k3 = k2 + g.book.stocks.length * 2 + g.book.lines.length * 8 := ⟨_, rfl⟩
  obtain ⟨k4, hk4⟩ : ∃ k4, k4 = k3 + g.dffs.length * 6 := ⟨_, rfl⟩
  obtain ⟨k5, hk5⟩ : ∃ k5, k5 = k4 + g.outs.length * 5 := ⟨_, rfl⟩
  have hG : mkG k g = ⟨g.name, g.day, mkPts k g.ptns, mkCss k1 g.crss.length, mkBk k2 g.book, mkDfs k3 g.dffs.length, mkOus k4 g.outs.length⟩ := by
    rw [hk4, hk3, hk2, hk1]
    rfl
  rw [hG] at h
  obtain ⟨q, hq⟩ : ∃ q : Gat, q = ⟨g.name, g.day, mkPts k g.ptns, mkCss k1 g.crss.length, mkBk k2 g.book, mkDfs k3 g.dffs.length, mkOus k4 g.outs.length⟩ := ⟨_, rfl⟩
  obtain ⟨a0, c0, a1, c1, a2, c2, a3, c3, a4, c4, a5, c5, e0, e1, e2, e3, e4, e5⟩ := h.val
  dsimp only at e0 e1 e2 e3 e4 e5
  rw [mkPts_len] at e0
  rw [mkCss_len] at e1
  rw [show (mkBk k2 g.book).stocks.length = g.book.stocks.length from mkSts_len _ _] at e2
  rw [show (mkBk k2 g.book).lines.length = g.book.lines.length from mkOls_len _ _] at e3
  rw [mkDfs_len] at e4
  rw [mkOus_len] at e5
  subst e0 e1 e2 e3 e4 e5
  obtain ⟨W0, hW0⟩ : ∃ W0, w.alloc (.cells #[.string g.name, .int .i64 g.day, (.slice a0 g.ptns.length c0), (.slice a1 g.crss.length c1), (.slice a2 g.book.stocks.length c2), (.slice a3 g.book.lines.length c3), (.slice a4 g.dffs.length c4), (.slice a5 g.outs.length c5)] 42) = W0 := ⟨_, rfl⟩
  have hb0 : Below w.heap.size w W0 := by rw [← hW0]; exact (Below.refl _ _).alloc (Nat.le_refl _) _
  have hx0 : W0.heap[w.heap.size]? = some (.cells #[.string g.name, .int .i64 g.day, (.slice a0 g.ptns.length c0), (.slice a1 g.crss.length c1), (.slice a2 g.book.stocks.length c2), (.slice a3 g.book.lines.length c3), (.slice a4 g.dffs.length c4), (.slice a5 g.outs.length c5)] 42) := by rw [← hW0]; exact World.alloc_heap_new _ _
  have h0 := h.below hb0
  have QP : Hid (∀ W, Below W0.heap.size W0 W → RowPt W (.slice a0 g.ptns.length c0) (mkPts k g.ptns)) := fun W hW => h0.pt.below hW
  have QC : Hid (∀ W, Below W0.heap.size W0 W → RowCs W (.slice a1 g.crss.length c1) (mkCss k1 g.crss.length)) := fun W hW => h0.cs.below hW
  have QB : Hid (∀ W, Below W0.heap.size W0 W → RBk W (.slice a2 g.book.stocks.length c2) (.slice a3 g.book.lines.length c3) (mkBk k2 g.book)) := fun W hW => h0.bk.below hW
  have QD : Hid (∀ W, Below W0.heap.size W0 W → RowDf W (.slice a4 g.dffs.length c4) (mkDfs k3 g.dffs.length)) := fun W hW => h0.df.below hW
  have QO : Hid (∀ W, Below W0.heap.size W0 W → RowOu W (.slice a5 g.outs.length c5) (mkOus k4 g.outs.length)) := fun W hW => h0.ou.below hW
  have HX : Hid (∀ W, Below W0.heap.size W0 W → W.heap[w.heap.size]? = some (.cells #[.string g.name, .int .i64 g.day, (.slice a0 g.ptns.length c0), (.slice a1 g.crss.length c1), (.slice a2 g.book.stocks.length c2), (.slice a3 g.book.lines.length c3), (.slice a4 g.dffs.length c4), (.slice a5 g.outs.length c5)] 42)) := fun W hW => (hW.block _ (Array.getElem?_eq_some_iff.1 hx0).1).trans hx0
  have HW : Hid (Below w.heap.size w W0) := hb0
  have hq1 : 0 < k ∧ k + cntP g.ptns < 1000000000000 := by omega
  have hq2 : 0 < k1 ∧ k1 + g.crss.length * 3 < 1000000000000 := by omega
  have hq3 : 0 < k2 ∧ k2 + g.book.stocks.length * 2 + g.book.lines.length * 8 < 100000000000 := by omega
  have hq4 : 0 < k3 ∧ k3 + g.dffs.length * 6 < 1000000000000 := by omega
  have hq5 : 0 < k4 ∧ k4 + g.outs.length * 5 < 1000000000000 := by omega
  have HQ : Hid (k1 = k + cntP g.ptns ∧ k2 = k1 + g.crss.length * 3 ∧ k3 = k2 + g.book.stocks.length * 2 + g.book.lines.length * 8 ∧ k4 = k3 + g.dffs.length * 6 ∧ k5 = k4 + g.outs.length * 5) := ⟨hk1, hk2, hk3, hk4, hk5⟩
  have H0 : Hid (Below W0.heap.size W0 W0) := Below.refl _ _
  clear h hb0 hx0 h0 hk1 hk2 hk3 hk4 hk5 hk hG hq q
  go_enter Tryz.func43, Tryz.ntmps43
  go_upto_region 1 with fail
  try rw [hW0]
  clear hW0
  obtain ⟨x0, x1, x2, x3, x4, x5, x6, x7⟩ := bx8 (HX.out _ H0.out)
  go_wp2_with fail
  refine (heldPts_any _ g.ptns k _ (QP.out _ H0.out) hq1).mono ?_
  rintro e w1 ⟨rfl, hb⟩
  have H1 : Hid (Below W0.heap.size W0 w1) := H0.out.trans (hb.mono H0.out.size)
  clear hb x0 x1 x2 x3 x4 x5 x6 x7
  rw [← HQ.out.1]
  have hn1 : ¬ (k1 : Int) < 0 := by omega
  obtain ⟨x0, x1, x2, x3, x4, x5, x6, x7⟩ := bx8 (HX.out _ H1.out)
  go_wp2_with fail
  refine (heldCs_any _ k1 g.crss.length _ (QC.out _ H1.out) hq2).mono ?_
  rintro e w2 ⟨rfl, hb⟩
  have H2 : Hid (Below W0.heap.size W0 w2) := H1.out.trans (hb.mono H1.out.size)
  clear hb x0 x1 x2 x3 x4 x5 x6 x7
  rw [← HQ.out.2.1]
  have hn2 : ¬ (k2 : Int) < 0 := by omega
  obtain ⟨x0, x1, x2, x3, x4, x5, x6, x7⟩ := bx8 (HX.out _ H2.out)
  go_wp2_with fail
  refine (heldBk_any _ _ g.book k2 _ (QB.out _ H2.out) hq3).mono ?_
  rintro e w3 ⟨rfl, hb⟩
  have H3 : Hid (Below W0.heap.size W0 w3) := H2.out.trans (hb.mono H2.out.size)
  clear hb x0 x1 x2 x3 x4 x5 x6 x7
  rw [← HQ.out.2.2.1]
  have hn3 : ¬ (k3 : Int) < 0 := by omega
  obtain ⟨x0, x1, x2, x3, x4, x5, x6, x7⟩ := bx8 (HX.out _ H3.out)
  go_wp2_with fail
  refine (heldDf_any _ k3 g.dffs.length _ (QD.out _ H3.out) hq4).mono ?_
  rintro e w4 ⟨rfl, hb⟩
  have H4 : Hid (Below W0.heap.size W0 w4) := H3.out.trans (hb.mono H3.out.size)
  clear hb x0 x1 x2 x3 x4 x5 x6 x7
  rw [← HQ.out.2.2.2.1]
  have hn4 : ¬ (k4 : Int) < 0 := by omega
  obtain ⟨x0, x1, x2, x3, x4, x5, x6, x7⟩ := bx8 (HX.out _ H4.out)
  go_wp2_with fail
  refine (heldOu_any _ k4 g.outs.length _ (QO.out _ H4.out) hq5).mono ?_
  rintro e w5 ⟨rfl, hb⟩
  have H5 : Hid (Below W0.heap.size W0 w5) := H4.out.trans (hb.mono H4.out.size)
  clear hb x0 x1 x2 x3 x4 x5 x6 x7
  rw [← HQ.out.2.2.2.2]
  have hn5 : ¬ (k5 : Int) < 0 := by omega
  go_wp2
  go_ret
  have e := HQ.out
  have E5 : k + cntG g = k5 := by unfold cntG; omega
  exact ⟨by rw [E5]; rfl, HW.out.trans (H5.out.mono HW.out.size)⟩
end Go.Proofs.YtkgkahlhekecmaaGreat
namespace Go.Proofs.YtkgkahlhekecmaaGreat
open Go.ChangeShapes Go.WideShapes Go.ChangeAt Go.RowKit
theorem lgCs {B : Nat} {W : World} {v : Value} {rs : List Crs} (h : OwnCs B W v rs) (hG : BdCs 1048576 rs) : ∃ b, B ≤ b ∧ LCs b W v rs := by
  obtain ⟨b, f, h1, h2, h3, h4⟩ := h
  have hl := hG.1
  exact ⟨b, h1, ⟨_, _, h2, fun _ => ⟨rfl, _, f, h3, Nat.le_refl _, h4⟩⟩, by omega, fun i g hi => by have := hG.2 i g hi; omega⟩
theorem lgSt {B : Nat} {W : World} {v : Value} {rs : List Stk} (h : OwnSt B W v rs) (hG : BdSt 1048576 rs) : ∃ b, B ≤ b ∧ LSt b W v rs := by
  obtain ⟨b, f, h1, h2, h3, h4⟩ := h
  have hl := hG.1
  exact ⟨b, h1, ⟨_, _, h2, fun _ => ⟨rfl, _, f, h3, Nat.le_refl _, h4⟩⟩, by omega, fun i g hi => by have := hG.2 i g hi; omega⟩
theorem lgOl {B : Nat} {W : World} {v : Value} {rs : List OLn} (h : OwnOl B W v rs) (hG : BdOl 1048576 rs) : ∃ b, B ≤ b ∧ LOl b W v rs := by
  obtain ⟨b, f, h1, h2, h3, h4⟩ := h
  have hl := hG.1
  exact ⟨b, h1, ⟨_, _, h2, fun _ => ⟨rfl, _, f, h3, Nat.le_refl _, h4⟩⟩, by omega, fun i g hi => by have := hG.2 i g hi; omega⟩
theorem lgDf {B : Nat} {W : World} {v : Value} {rs : List Dff} (h : OwnDf B W v rs) (hG : BdDf 1048576 rs) : ∃ b, B ≤ b ∧ LDf b W v rs := by
  obtain ⟨b, f, h1, h2, h3, h4⟩ := h
  have hl := hG.1
  exact ⟨b, h1, ⟨_, _, h2, fun _ => ⟨rfl, _, f, h3, Nat.le_refl _, h4⟩⟩, by omega, fun i g hi => by have := hG.2 i g hi; omega⟩
theorem lgOu {B : Nat} {W : World} {v : Value} {rs : List OutR} (h : OwnOu B W v rs) (hG : BdOu 1048576 rs) : ∃ b, B ≤ b ∧ LOu b W v rs := by
  obtain ⟨b, f, h1, h2, h3, h4⟩ := h
  have hl := hG.1
  exact ⟨b, h1, ⟨_, _, h2, fun _ => ⟨rfl, _, f, h3, Nat.le_refl _, h4⟩⟩, by omega, fun i g hi => by have := hG.2 i g hi; omega⟩
theorem lpt_of_own {B : Nat} {W : World} {v : Value} {ps : List Ptn} (h : OwnsPt B W v ps) (hG : BdsPt 1048576 ps) : ∃ b f β, LPt W v ps b f β ∧ ∀ k, blkP ps b β k → B ≤ k := by
  obtain ⟨b, f, h1, h2, h3, h4, h5⟩ := h
  have hl := hG.1
  have hsn : ∀ (i : Nat) (p : Ptn), ps[i]? = some p → LSn (blkS (f (i * 4 + 3))) W (f (i * 4 + 3)) p.seen ∧ b + 1 ≤ blkS (f (i * 4 + 3)) := fun i p hi => by
    obtain ⟨_, _, _, b', g, k1, k2, k3, k4⟩ := h4 i p hi
    have hb := (hG.2 i p hi).2
    rw [k2]
    have hb' : p.seen.length ≤ 1048576 := hb
    exact ⟨⟨⟨_, _, rfl, fun _ => ⟨rfl, _, g, k3, Nat.le_refl _, k4⟩⟩, by omega⟩, k1⟩
  refine ⟨b, fun i => f (i * 4 + 3), fun i => blkS (f (i * 4 + 3)), ⟨⟨_, _, h2, fun _ => ⟨rfl, _, f, h3, Nat.le_refl _, fun i p hi => ?_⟩⟩, fun i p hi => (hsn i p hi).1, fun i j p q hij hi hj _ _ => ?_, by omega, fun i p hi => by have := (hG.2 i p hi).1; omega⟩, fun k hk => ?_⟩
  · obtain ⟨e0, e1, e2, _⟩ := h4 i p hi
    exact ⟨e0, e1, e2, rfl⟩
  · have li := (List.getElem?_eq_some_iff.1 hi).1
    have lj := (List.getElem?_eq_some_iff.1 hj).1
    rcases Nat.lt_or_gt_of_ne hij with g | g
    · have := h5 i j g lj
      omega
    · have := h5 j i g li
      omega
  · rcases hk with ⟨rfl, _⟩ | ⟨i, p, hi, _, rfl⟩
    · exact h1
    · have := (hsn i p hi).2
      show B ≤ blkS (f (i * 4 + 3))
      omega
theorem lgt_of_own {B : Nat} {W : World} {up uc us ul ud uo : Value} {g : Gat} (hn : g.name.size ≤ 9223372036854775807) (hP : BdGt 1048576 g) (h0 : OwnsPt B W up g.ptns) (h1 : OwnCs B W uc g.crss) (h2 : OwnSt B W us g.book.stocks) (h3 : OwnOl B W ul g.book.lines) (h4 : OwnDf B W ud g.dffs) (h5 : OwnOu B W uo g.outs) :
    ∃ b f β bc bs bl bd bo, LGt W up uc us ul ud uo g b f β bc bs bl bd bo ∧ ∀ k, blkG g b β bc bs bl bd bo k → B ≤ k := by
  obtain ⟨b, f, β, k0, l0⟩ := lpt_of_own h0 hP.2.1
  obtain ⟨bc, l1, k1⟩ := lgCs h1 hP.2.2.1
  obtain ⟨bs, l2, k2⟩ := lgSt h2 hP.2.2.2.1.1
  obtain ⟨bl, l3, k3⟩ := lgOl h3 hP.2.2.2.1.2
  obtain ⟨bd, l4, k4⟩ := lgDf h4 hP.2.2.2.2.1
  obtain ⟨bo, l5, k5⟩ := lgOu h5 hP.2.2.2.2.2
  refine ⟨b, f, β, bc, bs, bl, bd, bo, ⟨hn, k0, k1, k2, k3, k4, k5⟩, fun k hk => ?_⟩
  rcases hk with hk | ⟨rfl, _⟩ | ⟨rfl, _⟩ | ⟨rfl, _⟩ | ⟨rfl, _⟩ | ⟨rfl, _⟩
  · exact l0 k hk
  all_goals assumption
theorem cntP_eq : ∀ ps : List Ptn, cntP ps = ps.length * 3 + snP ps * 3
  | [] => rfl
  | p :: r => by
    simp only [cntP, snP, List.length_cons]
    rw [cntP_eq r]
    omega
theorem cntG_le {g : Gat} (hP : BdGt 1048576 g) (hs : snP g.ptns ≤ 1048576) : 1 + cntG g < 100000000000 := by
  have h0 := hP.2.1.1
  have h1 := hP.2.2.1.1
  have h2 := hP.2.2.2.1.1.1
  have h3 := hP.2.2.2.1.2.1
  have h4 := hP.2.2.2.2.1.1
  have h5 := hP.2.2.2.2.2.1
  unfold cntG
  rw [cntP_eq]
  omega
end Go.Proofs.YtkgkahlhekecmaaGreat
namespace Go.Proofs.YtkgkahlhekecmaaGreat
open Go.ChangeShapes Go.WideShapes Go.ChangeAt Go.RowKit
theorem infoSnA : (Tryz.prog.info? 148).map (fun i => (i.zero, i.size, i.bytes)) = some (some (.agg #[.int .i64 0, .int .i64 0, .int .i64 0]), 3, 24) := by kernel_rfl
/-- Its cells, one behind the other. -/
def clSn (g : Sn) : List Value := [.int .i64 g.number, .int .i64 g.answer, .int .i64 g.code]
def clSns (rs : List Sn) : List Value := rs.flatMap clSn
theorem clSns_len (rs : List Sn) : (clSns rs).length = rs.length * 3 := by
  induction rs with
  | nil => rfl
  | cons g r ih =>
    have : clSns (g :: r) = clSn g ++ clSns r := rfl
    rw [this, List.length_append, ih, List.length_cons]
    have : (clSn g).length = 3 := rfl
    omega
theorem clSns_app (rs : List Sn) (g : Sn) : clSns (rs ++ [g]) = clSns rs ++ clSn g := by simp [clSns]
theorem clSns_at : ∀ {rs : List Sn} {i : Nat} {g : Sn}, rs[i]? = some g → (clSns rs)[i * 3]? = some (.int .i64 g.number) ∧ (clSns rs)[i * 3 + 1]? = some (.int .i64 g.answer) ∧ (clSns rs)[i * 3 + 2]? = some (.int .i64 g.code)
  | [], i, g, h => by simp at h
  | x :: r, 0, g, h => by
    simp only [List.getElem?_cons_zero, Option.some.injEq] at h
    subst h
    refine ⟨rfl, rfl, rfl⟩
  | x :: r, i + 1, g, h => by
    rw [List.getElem?_cons_succ] at h
    obtain ⟨e0, e1, e2⟩ := clSns_at h
    have hc : clSns (x :: r) = clSn x ++ clSns r := rfl
    have hl : (clSn x).length = 3 := rfl
    refine ⟨?_, ?_, ?_⟩
    · rw [hc, List.getElem?_append_right (by omega), hl, ← e0]
      congr 1
      omega
    · rw [hc, List.getElem?_append_right (by omega), hl, ← e1]
      congr 1
      omega
    · rw [hc, List.getElem?_append_right (by omega), hl, ← e2]
      congr 1
      omega
/-- A list that the call has made by appends, read. -/
theorem LSn.of_owns {W : World} {base : Nat} {v : Value} {rs : List Sn} (h : W.ownsRow base 148 3 v rs.length (clSns rs)) (hl : rs.length ≤ 9223372036854775807) : ∃ b, base ≤ b ∧ LSn b W v rs := by
  rcases h.2 with ⟨rfl, h0⟩ | ⟨b, cap, cur, rfl, hb, hh, hc, hm, hs, ht⟩
  · refine ⟨base, Nat.le_refl _, ⟨none, 0, by rw [h0], fun hn => absurd (List.eq_nil_of_length_eq_zero h0) hn⟩, hl⟩
  · refine ⟨b, hb, ⟨_, _, rfl, fun _ => ⟨rfl, cap * 3, fun i => cur[i]?.getD undef, ⟨cur, hh, hs, fun i hi => by simp [hs, hi]⟩, Nat.mul_le_mul_right _ hc, fun i g hi => ?_⟩⟩, hl⟩
    obtain ⟨e0, e1, e2⟩ := clSns_at hi
    have hlt := (List.getElem?_eq_some_iff.1 hi).1
    rw [← ht] at e0 e1 e2
    have get : ∀ (j : Nat) (x : Value), j < rs.length * 3 → (cur.toList.take (rs.length * 3))[j]? = some x → cur[j]?.getD undef = x := fun j x hj hx => by
      rw [List.getElem?_take_of_lt hj, Array.getElem?_toList] at hx
      rw [hx]
      rfl
    exact ⟨get _ _ (by omega) e0, get _ _ (by omega) e1, get _ _ (by omega) e2⟩
/-- An append of one, at the list of a plain region's operations. -/
theorem wpList_appSn {ops : Array Oper} {rest : List Oper} {o : Oper} {a : Act} {Q : Exit → Act → World → Prop} {W : World} {base c C : Nat} {lv : Value} {rs : List Sn} {g : Sn} (hgd : o.guard = none) (s x : Operand)
    (ho : o.op = .call { callee := .builtin .append, args := #[s, x], argTypes := #[61, 61] })
    (hs' : a.eval s = lv) (hx : a.eval x = .slice (some ⟨c, 0, none⟩) 1 C) (h : W.ownsRow base 148 3 lv rs.length (clSns rs)) (hg : AtSn W c 0 g) (hl : rs.length + 1 ≤ 1000000) (hbase : base ≤ W.heap.size)
    (k : ∀ v' w', w'.ownsRow base 148 3 v' (rs ++ [g]).length (clSns (rs ++ [g])) → W.grownBy w' lv.ownBlock → (∃ A C, v' = .slice A (rs ++ [g]).length C) → wpList Tryz.prog ops Q rest (a.put o.dst v') w') : wpList Tryz.prog ops Q (o :: rest) a W := by
  obtain ⟨i0, hi, hz0, hz1, hz2⟩ := info_parts infoSnA
  obtain ⟨q0, q1, q2⟩ := hg
  refine wpList_append_own W hgd s x 61 ho base 148 i0 (.agg #[.int .i64 0, .int .i64 0, .int .i64 0]) 3 24 Tryz.underlying61 hi hz0 hz1 hz2 rfl (by decide) lv rs.length (clSns rs) hs' h ⟨c, 0, none⟩ 1 C (clSn g) hx rfl (fun j u hu => ?_) (fun u hu => ?_) (by unfold maxLen; omega) (by omega) hbase ?_
  · rw [fl_addr]
    have hj := (List.getElem?_eq_some_iff.1 hu).1
    have hj3 : j < 3 := hj
    match j, hj3 with
    | 0, _ =>
      cases hu
      simpa using q0
    | 1, _ =>
      cases hu
      simpa using q1
    | 2, _ =>
      cases hu
      simpa using q2
  · simp only [clSn, List.mem_cons, List.not_mem_nil, or_false] at hu
    rcases hu with rfl | rfl | rfl <;> rfl
  · intro v' w' hown hgrow hnil
    have e1 : (rs ++ [g]).length = rs.length + 1 := by simp
    have hown' : w'.ownsRow base 148 3 v' (rs ++ [g]).length (clSns (rs ++ [g])) := by
      rw [e1, clSns_app]
      exact hown
    refine k v' w' hown' hgrow ?_
    rcases hown'.2 with ⟨rfl, h0⟩ | ⟨b, cap, cur, rfl, _⟩
    · exact ⟨none, 0, by rw [h0]⟩
    · exact ⟨_, _, rfl⟩
theorem clSns_get : ∀ {rs : List Sn} {j : Nat} {u : Value}, (clSns rs)[j]? = some u → ∃ (i : Nat) (g : Sn), rs[i]? = some g ∧ ((j = i * 3 ∧ u = .int .i64 g.number) ∨ (j = i * 3 + 1 ∧ u = .int .i64 g.answer) ∨ (j = i * 3 + 2 ∧ u = .int .i64 g.code))
  | [], j, u, h => by simp [clSns] at h
  | x :: r, j, u, h => by
    have hc : clSns (x :: r) = clSn x ++ clSns r := rfl
    have hl : (clSn x).length = 3 := rfl
    rw [hc] at h
    by_cases hj : j < 3
    · rw [List.getElem?_append_left (by omega)] at h
      refine ⟨0, x, rfl, ?_⟩
      match j, hj with
      | 0, _ => cases h; simp
      | 1, _ => cases h; simp
      | 2, _ => cases h; simp
    · rw [List.getElem?_append_right (by omega), hl] at h
      obtain ⟨i, g, hg, ho⟩ := clSns_get h
      refine ⟨i + 1, g, by simpa using hg, ?_⟩
      rcases ho with ⟨h1, h2⟩ | ⟨h1, h2⟩ | ⟨h1, h2⟩
      · exact .inl ⟨by omega, h2⟩
      · exact .inr (.inl ⟨by omega, h2⟩)
      · exact .inr (.inr (⟨by omega, h2⟩))
/-- An append of a list, at the list of a plain region's operations. -/
theorem wpList_appsSn {ops : Array Oper} {rest : List Oper} {o : Oper} {a : Act} {Q : Exit → Act → World → Prop} {W : World} {base C : Nat} {lv : Value} {ad : Addr} {rs ms : List Sn} (hgd : o.guard = none) (s x : Operand)
    (ho : o.op = .call { callee := .builtin .append, args := #[s, x], argTypes := #[61, 61] })
    (hs' : a.eval s = lv) (hx : a.eval x = .slice (some ad) ms.length C) (h : W.ownsRow base 148 3 lv rs.length (clSns rs)) (hg : RowSn W (.slice (some ad) ms.length C) ms) (hl : rs.length + ms.length ≤ 1000000) (hbase : base ≤ W.heap.size)
    (k : ∀ v' w', w'.ownsRow base 148 3 v' (rs ++ ms).length (clSns (rs ++ ms)) → W.grownBy w' lv.ownBlock → (∃ A C, v' = .slice A (rs ++ ms).length C) → wpList Tryz.prog ops Q rest (a.put o.dst v') w') : wpList Tryz.prog ops Q (o :: rest) a W := by
  obtain ⟨i0, hi, hz0, hz1, hz2⟩ := info_parts infoSnA
  refine wpList_append_own W hgd s x 61 ho base 148 i0 (.agg #[.int .i64 0, .int .i64 0, .int .i64 0]) 3 24 Tryz.underlying61 hi hz0 hz1 hz2 rfl (by decide) lv rs.length (clSns rs) hs' h ad ms.length C (clSns ms) hx (clSns_len ms) (fun j u hu => ?_) (fun u hu => ?_) (by unfold maxLen; omega) (by omega) hbase ?_
  · obtain ⟨i, g, hg', ho'⟩ := clSns_get hu
    obtain ⟨a', cap, e, hc⟩ := hg.shape
    simp only [Value.slice.injEq] at e
    obtain ⟨b, o', ea, hcell⟩ := hc (by intro e2; rw [e2] at hg'; simp at hg')
    rw [← e.1] at ea
    cases ea
    obtain ⟨q0, q1, q2⟩ := hcell i g hg'
    rw [fl_addr]
    rcases ho' with ⟨rfl, rfl⟩ | ⟨rfl, rfl⟩ | ⟨rfl, rfl⟩
    · first | exact q0 | (rw [← q0]; congr 2; omega)
    · first | exact q1 | (rw [← q1]; congr 2; omega)
    · first | exact q2 | (rw [← q2]; congr 2; omega)
  · obtain ⟨j, hj⟩ := List.getElem?_of_mem hu
    obtain ⟨i, g, _, ho'⟩ := clSns_get hj
    rcases ho' with ⟨_, rfl⟩ | ⟨_, rfl⟩ | ⟨_, rfl⟩ <;> rfl
  · intro v' w' hown hgrow hnil
    have e1 : (rs ++ ms).length = rs.length + ms.length := by simp
    have e2 : clSns (rs ++ ms) = clSns rs ++ clSns ms := by simp [clSns]
    have hown' : w'.ownsRow base 148 3 v' (rs ++ ms).length (clSns (rs ++ ms)) := by
      rw [e1, e2]
      exact hown
    refine k v' w' hown' hgrow ?_
    rcases hown'.2 with ⟨rfl, h0⟩ | ⟨b, cap, cur, rfl, _⟩
    · exact ⟨none, 0, by rw [h0]⟩
    · exact ⟨_, _, rfl⟩
end Go.Proofs.YtkgkahlhekecmaaGreat
namespace Go.Proofs.YtkgkahlhekecmaaGreat
open Go.ChangeShapes Go.WideShapes Go.ChangeAt Go.RowKit
theorem ownsRow_down {W : World} {base base' : Nat} {e : TypeId} {size : Nat} {v : Value} {k : Nat} {xs : List Value} (h : W.ownsRow base e size v k xs) (hb : base' ≤ base) : W.ownsRow base' e size v k xs := by
  obtain ⟨h1, h2⟩ := h
  refine ⟨h1, ?_⟩
  rcases h2 with h2 | ⟨g, cap, cur, e1, h3, h4⟩
  · exact .inl h2
  · exact .inr ⟨g, cap, cur, e1, by omega, h4⟩
theorem undrewS {a b : World} (h : Below a.drew.heap.size a.drew b) : Below a.heap.size a b := (Below.refl _ _).drew.trans h
end Go.Proofs.YtkgkahlhekecmaaGreat
namespace Go.Proofs.YtkgkahlhekecmaaGreat
open Go.ChangeShapes Go.WideShapes Go.ChangeAt Go.RowKit
theorem infoPtA : (Tryz.prog.info? 63).map (fun i => (i.zero, i.size, i.bytes)) = some (some (.agg #[.string ⟨#[]⟩, .int .i64 0, .int .i64 0, .slice none 0 0]), 4, 56) := by kernel_rfl
def clP (q : Ptn × Value) : List Value := [.string q.1.name, .int .i64 q.1.low, .int .i64 q.1.next, q.2]
def clPs (qs : List (Ptn × Value)) : List Value := qs.flatMap clP
theorem clPs_len (qs : List (Ptn × Value)) : (clPs qs).length = qs.length * 4 := by
  induction qs with
  | nil => rfl
  | cons q r ih =>
    have : clPs (q :: r) = clP q ++ clPs r := rfl
    rw [this, List.length_append, ih]
    simp only [clP, List.length_cons, List.length_nil]
    omega
theorem clPs_app (qs : List (Ptn × Value)) (q : Ptn × Value) : clPs (qs ++ [q]) = clPs qs ++ clP q := by simp [clPs]
theorem clPs_at : ∀ {qs : List (Ptn × Value)} {i : Nat} {q : Ptn × Value}, qs[i]? = some q → (clPs qs)[i * 4]? = some (.string q.1.name) ∧ (clPs qs)[i * 4 + 1]? = some (.int .i64 q.1.low) ∧ (clPs qs)[i * 4 + 2]? = some (.int .i64 q.1.next) ∧ (clPs qs)[i * 4 + 3]? = some q.2
  | [], i, q, h => by simp at h
  | x :: r, 0, q, h => by
    simp at h
    subst h
    exact ⟨rfl, rfl, rfl, rfl⟩
  | x :: r, i + 1, q, h => by
    have hc : clPs (x :: r) = clP x ++ clPs r := rfl
    have hl : (clP x).length = 4 := rfl
    obtain ⟨e0, e1, e2, e3⟩ := clPs_at (qs := r) (i := i) (q := q) (by simpa using h)
    refine ⟨?_, ?_, ?_, ?_⟩
    · rw [hc, List.getElem?_append_right (by omega), hl, ← e0]
      congr 1
      omega
    · rw [hc, List.getElem?_append_right (by omega), hl, ← e1]
      congr 1
      omega
    · rw [hc, List.getElem?_append_right (by omega), hl, ← e2]
      congr 1
      omega
    · rw [hc, List.getElem?_append_right (by omega), hl, ← e3]
      congr 1
      omega
/-- A list of partners in memory of the call's own: its row, and each one's list in a block for itself. -/
structure OwnP (base : Nat) (W : World) (v : Value) (qs : List (Ptn × Value)) : Prop where
  row : W.ownsRow base 63 4 v qs.length (clPs qs)
  sn : ∀ q ∈ qs, W.ownsRow base 148 3 q.2 q.1.seen.length (clSns q.1.seen)
  ap : qs.Pairwise fun a b => ∀ g, a.2.ownBlock = some g → b.2.ownBlock ≠ some g
theorem OwnP.nil (base : Nat) (W : World) : OwnP base W (.slice none 0 0) [] := ⟨World.ownsRow_nil W base 63 4, fun q hq => by simp at hq, List.Pairwise.nil⟩
theorem own_belowP {W W' : World} {base : Nat} {e : TypeId} {size : Nat} {v : Value} {n : Nat} {xs : List Value} (h : W.ownsRow base e size v n xs) (hb : Below W.heap.size W W') : W'.ownsRow base e size v n xs := by
  refine h.kept (row := none) ⟨hb.os, hb.tape, hb.output, hb.size, fun j hj _ => hb.block j hj⟩ ?_
  rcases h.2 with ⟨e, _⟩ | ⟨g, cap, cur, e, _⟩
  · exact .inl (by rw [e]; rfl)
  · exact .inr (by rw [e]; simp [Value.ownBlock])
theorem OwnP.below {base : Nat} {W W' : World} {v : Value} {qs : List (Ptn × Value)} (h : OwnP base W v qs) (hb : Below W.heap.size W W') : OwnP base W' v qs := ⟨own_belowP h.row hb, fun q hq => own_belowP (h.sn q hq) hb, h.ap⟩
theorem OwnP.down {base base' : Nat} {W : World} {v : Value} {qs : List (Ptn × Value)} (h : OwnP base W v qs) (hb : base' ≤ base) : OwnP base' W v qs := ⟨ownsRow_down h.row hb, fun q hq => ownsRow_down (h.sn q hq) hb, h.ap⟩
/-- Blocks of unlike types are not one. -/
theorem own_ne {W : World} {b1 b2 e1 e2 s1 s2 : Nat} {v1 v2 : Value} {n1 n2 : Nat} {x1 x2 : List Value} (h1 : W.ownsRow b1 e1 s1 v1 n1 x1) (h2 : W.ownsRow b2 e2 s2 v2 n2 x2) (hne : e1 ≠ e2) : v1.ownBlock = none ∨ v1.ownBlock ≠ v2.ownBlock := by
  rcases h1.2 with ⟨rfl, _⟩ | ⟨g, cap, cur, rfl, _, hg, _⟩
  · exact .inl rfl
  · refine .inr ?_
    rcases h2.2 with ⟨rfl, _⟩ | ⟨g', cap', cur', rfl, _, hg', _⟩
    · simp [Value.ownBlock]
    · simp only [Value.ownBlock, ne_eq, Option.some.injEq]
      intro e
      subst e
      rw [hg] at hg'
      simp at hg'
      exact hne hg'.2
theorem OwnP.rows {base : Nat} {W : World} {v : Value} {qs : List (Ptn × Value)} (h : OwnP base W v qs) (hl : qs.length ≤ 9223372036854775807) (hz : ∀ q ∈ qs, q.1.name.size ≤ 9223372036854775807 ∧ q.1.seen.length ≤ 9223372036854775807) : RowPt W v (qs.map Prod.fst) := by
  rcases h.row.2 with ⟨rfl, h0⟩ | ⟨b, cap, cur, rfl, hb, hh, hc, hm, hs, ht⟩
  · have : qs = [] := List.eq_nil_of_length_eq_zero h0
    subst this
    exact ⟨⟨none, 0, rfl, fun hn => absurd rfl hn⟩, by simp⟩
  · refine ⟨⟨_, cap, by rw [List.length_map], fun _ => ⟨b, 0, rfl, fun i p hi => ?_⟩⟩, by simpa using hl⟩
    rw [List.getElem?_map] at hi
    obtain ⟨q, hq, rfl⟩ := Option.map_eq_some_iff.1 hi
    obtain ⟨e0, e1, e2, e3⟩ := clPs_at hq
    have hlt := (List.getElem?_eq_some_iff.1 hq).1
    rw [← ht] at e0 e1 e2 e3
    have get : ∀ (j : Nat) (x : Value), j < qs.length * 4 → (cur.toList.take (qs.length * 4))[j]? = some x → W.cell? ⟨b, j, none⟩ = some x := fun j x hj hx => by
      rw [List.getElem?_take_of_lt hj, Array.getElem?_toList] at hx
      simp [World.cell?, hh, hx]
    have hm := List.mem_of_getElem? hq
    obtain ⟨c, _, hL⟩ := LSn.of_owns (h.sn q hm) (hz q hm).2
    rw [Nat.zero_add]
    exact ⟨q.2, ⟨get _ _ (by omega) e0, get _ _ (by omega) e1, get _ _ (by omega) e2, get _ _ (by omega) e3⟩, ⟨hL.row, (hz q hm).1⟩⟩
/-- An append of one, at the list of a plain region's operations. -/
theorem wpList_appP {ops : Array Oper} {rest : List Oper} {o : Oper} {a : Act} {Q : Exit → Act → World → Prop} {W : World} {base c C : Nat} {lv : Value} {qs : List (Ptn × Value)} {q : Ptn × Value} (hgd : o.guard = none) (s x : Operand)
    (ho : o.op = .call { callee := .builtin .append, args := #[s, x], argTypes := #[33, 33] })
    (hs' : a.eval s = lv) (hx : a.eval x = .slice (some ⟨c, 0, none⟩) 1 C) (h : OwnP base W lv qs) (hg : W.cell? ⟨c, 0, none⟩ = some (.string q.1.name) ∧ W.cell? ⟨c, 1, none⟩ = some (.int .i64 q.1.low) ∧ W.cell? ⟨c, 2, none⟩ = some (.int .i64 q.1.next) ∧ W.cell? ⟨c, 3, none⟩ = some q.2)
    (hq : W.ownsRow base 148 3 q.2 q.1.seen.length (clSns q.1.seen)) (ha : ∀ y ∈ qs, ∀ g, y.2.ownBlock = some g → q.2.ownBlock ≠ some g) (hone : q.2.oneCell' = true) (hl : qs.length + 1 ≤ 2000000) (hbase : base ≤ W.heap.size)
    (k : ∀ v' w', OwnP base w' v' (qs ++ [q]) → W.grownBy w' lv.ownBlock → (∃ A C, v' = .slice A (qs ++ [q]).length C) → wpList Tryz.prog ops Q rest (a.put o.dst v') w') : wpList Tryz.prog ops Q (o :: rest) a W := by
  obtain ⟨i0, hi, hz0, hz1, hz2⟩ := info_parts infoPtA
  obtain ⟨q0, q1, q2, q3⟩ := hg
  refine wpList_append_own W hgd s x 33 ho base 63 i0 (.agg #[.string ⟨#[]⟩, .int .i64 0, .int .i64 0, .slice none 0 0]) 4 56 Tryz.underlying33 hi hz0 hz1 hz2 rfl (by decide) lv qs.length (clPs qs) hs' h.row ⟨c, 0, none⟩ 1 C (clP q) hx rfl (fun j u hu => ?_) (fun u hu => ?_) (by unfold maxLen; omega) (by omega) hbase ?_
  · rw [fl_addr]
    have hj := (List.getElem?_eq_some_iff.1 hu).1
    have hj3 : j < 4 := hj
    match j, hj3 with
    | 0, _ =>
      cases hu
      simpa using q0
    | 1, _ =>
      cases hu
      simpa using q1
    | 2, _ =>
      cases hu
      simpa using q2
    | 3, _ =>
      cases hu
      simpa using q3
  · simp only [clP, List.mem_cons, List.not_mem_nil, or_false] at hu
    rcases hu with rfl | rfl | rfl | rfl
    · rfl
    · rfl
    · rfl
    · exact hone
  · intro v' w' hown hgrow hnil
    have e1 : (qs ++ [q]).length = qs.length + 1 := by simp
    have hown' : w'.ownsRow base 63 4 v' (qs ++ [q]).length (clPs (qs ++ [q])) := by
      rw [e1, clPs_app]
      exact hown
    have hne : 148 ≠ 63 := by decide
    refine k v' w' ⟨hown', fun y hy => ?_, ?_⟩ hgrow ?_
    · rcases List.mem_append.1 hy with hy | hy
      · exact (h.sn y hy).kept hgrow (own_ne (h.sn y hy) h.row hne)
      · rw [List.mem_singleton] at hy
        subst hy
        exact hq.kept hgrow (own_ne hq h.row hne)
    · rw [List.pairwise_append]
      refine ⟨h.ap, List.pairwise_singleton _ _, fun y hy z hz => ?_⟩
      rw [List.mem_singleton] at hz
      subst hz
      exact ha y hy
    · rcases hown'.2 with ⟨rfl, h0⟩ | ⟨b, cap, cur, rfl, _⟩
      · exact ⟨none, 0, by rw [h0]⟩
      · exact ⟨_, _, rfl⟩
end Go.Proofs.YtkgkahlhekecmaaGreat
namespace Go.Proofs.YtkgkahlhekecmaaGreat
open Go.ChangeShapes Go.WideShapes Go.ChangeAt Go.RowKit
theorem run_append_nilSn (W : World) (ty c : Nat) (a : Option Addr) : (Builtin.append_ #[61, 61] ty #[.slice none 0 0, .slice a 0 c]).run Tryz.prog W = .ok (.slice none 0 0) W := by
  obtain ⟨i0, hi, hz0, hz1, hz2⟩ := info_parts infoSnA
  cases a with
  | none => simp [Builtin.append_, run_underlying Tryz.underlying61, sizeOf, typeInfo, hi, Builtin.lenOf, Builtin.firstCells]
  | some a => simp [Builtin.append_, run_underlying Tryz.underlying61, sizeOf, typeInfo, hi, Builtin.lenOf, Builtin.firstCells, loadCells, loadCellsFrom]
theorem wp_nilSn {o : Oper} {a : Act} {K : Act → World → Prop} {Q : Exit → Act → World → Prop} {W : World} {base : Nat} {xv : Value} {ms : List Sn} (s x : Operand)
    (ho : o.op = .call { callee := .builtin .append, args := #[s, x], argTypes := #[61, 61] })
    (hs : a.eval s = .slice none 0 0) (hx : a.eval x = xv) (hr : RowSn W xv ms) (hl : ms.length ≤ 2000000) (hbase : base ≤ W.heap.size)
    (k : ∀ A C w', w'.ownsRow base 148 3 (.slice A ms.length C) ms.length (clSns ms) → W.grownBy w' none → (∀ g, (Value.slice A ms.length C).ownBlock = some g → W.heap.size ≤ g) → K (a.put o.dst (.slice A ms.length C)) w') : o.wp Tryz.prog a W K Q := by
  obtain ⟨i0, hi, hz0, hz1, hz2⟩ := info_parts infoSnA
  obtain ⟨A, C, rfl⟩ := hr.val
  rcases Nat.eq_zero_or_pos ms.length with h0 | h0
  · obtain rfl : ms = [] := List.eq_nil_of_length_eq_zero h0
    have hrun := run_append_nilSn W o.type C A
    have hk := k none 0 W (World.ownsRow_nil W base 148 3) ⟨rfl, rfl, rfl, Nat.le_refl _, fun _ _ _ => rfl⟩ (fun g h => by simp [Value.ownBlock] at h)
    unfold Oper.wp
    simp only [List.length_nil] at hx hk
    simp [execOp, ho, resolve, invoke, builtin, hs, hx, hrun, Result.andThen]
    exact hk
  · obtain ⟨A', C', e, hc⟩ := hr.shape
    simp only [Value.slice.injEq, true_and] at e
    obtain ⟨rfl, rfl⟩ := e
    obtain ⟨b', o', rfl, hcell⟩ := hc (by intro e2; rw [e2] at h0; simp at h0)
    refine wp_append_lies W s x 61 ho base 148 i0 (.agg #[.int .i64 0, .int .i64 0, .int .i64 0]) 3 24 Tryz.underlying61 hi hz0 hz1 hz2 rfl (by decide) _ 0 [] hs (World.ownsRow_nil W base 148 3) ⟨b', o', none⟩ ms.length C (clSns ms) hx (clSns_len ms) (fun j u hu => ?_) (fun u hu => ?_) h0 (by unfold maxLen; omega) (by omega) hbase _ rfl ?_
    · obtain ⟨i, g, hg', ho'⟩ := clSns_get hu
      obtain ⟨q0, q1, q2⟩ := hcell i g hg'
      rw [fl_addr]
      rcases ho' with ⟨rfl, rfl⟩ | ⟨rfl, rfl⟩ | ⟨rfl, rfl⟩
      · first | exact q0 | (rw [← q0]; congr 2; omega)
      · first | exact q1 | (rw [← q1]; congr 2; omega)
      · first | exact q2 | (rw [← q2]; congr 2; omega)
    · obtain ⟨j, hj⟩ := List.getElem?_of_mem hu
      obtain ⟨i, g, _, ho'⟩ := clSns_get hj
      rcases ho' with ⟨_, rfl⟩ | ⟨_, rfl⟩ | ⟨_, rfl⟩ <;> rfl
    · intro gg cap w' hown' hgrow hat _
      have hown2 : w'.ownsRow base 148 3 (.slice (some ⟨gg, 0, none⟩) ms.length cap) ms.length (clSns ms) := by
        have := hown'
        rw [Nat.zero_add, List.nil_append] at this
        exact this
      have := k (some ⟨gg, 0, none⟩) cap w' hown2 hgrow (fun g h => by
        simp [Value.ownBlock] at h
        subst h
        rcases hat with h | h
        · simp [Value.ownBlock] at h
        · omega)
      rw [Nat.zero_add]
      exact this
theorem step_nilSn {ops : Array Oper} {o : Oper} {a : Act} {K : Act → World → Prop} {Q : Exit → Act → World → Prop} {E : Prop} {W : World} {base : Nat} {xv : Value} {ms : List Sn} (hw : Region.wanted o (yielded ops a.tmps) = true) (s x : Operand)
    (ho : o.op = .call { callee := .builtin .append, args := #[s, x], argTypes := #[61, 61] })
    (hs : a.eval s = .slice none 0 0) (hx : a.eval x = xv) (hr : RowSn W xv ms) (hl : ms.length ≤ 2000000) (hbase : base ≤ W.heap.size)
    (k : ∀ A C w', w'.ownsRow base 148 3 (.slice A ms.length C) ms.length (clSns ms) → W.grownBy w' none → (∀ g, (Value.slice A ms.length C).ownBlock = some g → W.heap.size ≤ g) → K (a.put o.dst (.slice A ms.length C)) w') : if Region.wanted o (yielded ops a.tmps) = true then o.wp Tryz.prog a W K Q else E := by
  rw [if_pos hw]
  exact wp_nilSn s x ho hs hx hr hl hbase k
end Go.Proofs.YtkgkahlhekecmaaGreat
namespace Go.Proofs.YtkgkahlhekecmaaGreat
open Go.Shelf Go.RowKit
def renClone : Go.Shelf.Ren := ⟨fun | 316 => 138 | n => n, fun | 9 => 9 | 3 => 3 | 4 => 4 | 37 => 174 | 0 => 0 | 127 => 201 | 5 => 5 | n => n, fun | n => n⟩
theorem laysClone : Go.Proofs.LaysM.n316 Tryz.prog renClone := {
  mixed := by kernel_rfl
  f316 := Tryz.func138.trans (congrArg some (by kernel_rfl))
  t0 := Tryz.underlying0
  a0 := Tryz.isAgg0
  z0 := Tryz.sizeOf0
  v0 := Tryz.zeroValue0
  t3 := Tryz.underlying3
  a3 := Tryz.isAgg3
  z3 := Tryz.sizeOf3
  v3 := Tryz.zeroValue3
  t4 := Tryz.underlying4
  a4 := Tryz.isAgg4
  z4 := Tryz.sizeOf4
  v4 := Tryz.zeroValue4
  t9 := Tryz.underlying9
  a9 := Tryz.isAgg9
  z9 := Tryz.sizeOf9
  v9 := Tryz.zeroValue9
  t37 := Tryz.underlying174
  a37 := Tryz.isAgg174
  z37 := Tryz.sizeOf174
  v37 := Tryz.zeroValue174
  t127 := Tryz.underlying201
  a127 := Tryz.isAgg201
  z127 := Tryz.sizeOf201
  v127 := Tryz.zeroValue201
  t5 := Tryz.underlying5
  a5 := Tryz.isAgg5
  z5 := Tryz.sizeOf5
  v5 := Tryz.zeroValue5
  i0 := by kernel_rfl
  i3 := by kernel_rfl
  i4 := by kernel_rfl
  i5 := by kernel_rfl
  i9 := by kernel_rfl
  i37 := by kernel_rfl
  i127 := by kernel_rfl }
theorem cloneLite (s : ByteArray) (w : World) (hlim : s.size ≤ 281474976710656) : Calls Tryz.prog 138 #[.string s] w fun e w' => e = .returned (.string s) ∧ Below w.heap.size w w' := Any.stringslite_Clone laysClone s w hlim
theorem clone_any (s : ByteArray) (w : World) (hlim : s.size ≤ 281474976710656) : Calls Tryz.prog 105 #[.string s] w fun e w' => e = .returned (.string s) ∧ Below w.heap.size w w' := by
  go_enter Tryz.func105, Tryz.ntmps105
  go_wp2_with fail
  refine (cloneLite s _ hlim).mono ?_
  rintro e w1 ⟨rfl, hb⟩
  go_wp2
  go_ret
  exact ⟨rfl, hb⟩
end Go.Proofs.YtkgkahlhekecmaaGreat
