/- Texts of ours put together: EqGt, OpenB. -/
import Derived.Test.YtagajindaipaeaaG06
import Derived.Test.YtagajindaipaeaaG17
import Derived.Test.YtagajindaipaeaaG18
import Derived.Test.YtagajindaipaeaaG19
import Derived.Test.YtagajindaipaeaaG20
import Derived.Deep.Slices
import Derived.SliceStrings
import Derived.Lib.SmallJoins
import Derived.Test.YtagajindaipaeaaG00
namespace Go.Proofs.Ytagajindaipaeaa
open Go.ChangeShapes Go.WideShapes Go.ChangeAt Go.RowKit
theorem fl_twoG (w : World) (a b : Obj) : ((w.alloc a).alloc b).heap[w.heap.size]? = some a ∧ ((w.alloc a).alloc b).heap[w.heap.size + 1]? = some b := by
  have e : ((w.alloc a).alloc b).heap = (w.heap.push a).push b := rfl
  rw [e]
  simp only [Array.getElem?_push, Array.size_push]
  refine ⟨?_, ?_⟩
  · rw [if_neg (by omega), if_pos trivial]
  · rw [if_pos trivial]
set_option maxHeartbeats 4000000 in
theorem eqGt_any (g : Gat) (up uc us ul ud uo : Value) (up' uc' us' ul' ud' uo' : Value) (w : World) (h : RGt w up uc us ul ud uo g) (h' : RGt w up' uc' us' ul' ud' uo' g) :
    Calls Try.prog 7 #[.agg #[.string g.name, .int .i64 g.day, up, uc, us, ul, ud, uo], .agg #[.string g.name, .int .i64 g.day, up', uc', us', ul', ud', uo']] w fun e w' => e = .returned (.bool true) ∧ Below w.heap.size w w' := by
  obtain ⟨a0, c0, a1, c1, a2, c2, a3, c3, a4, c4, a5, c5, rfl, rfl, rfl, rfl, rfl, rfl⟩ := h.val
  obtain ⟨b0, d0, b1, d1, b2, d2, b3, d3, b4, d4, b5, d5, rfl, rfl, rfl, rfl, rfl, rfl⟩ := h'.val
  obtain ⟨W0, hW0⟩ : ∃ W0, ((w.alloc (.cells #[.string g.name, .int .i64 g.day, (.slice a0 g.ptns.length c0), (.slice a1 g.crss.length c1), (.slice a2 g.book.stocks.length c2), (.slice a3 g.book.lines.length c3), (.slice a4 g.dffs.length c4), (.slice a5 g.outs.length c5)] 31)).alloc (.cells #[.string g.name, .int .i64 g.day, (.slice b0 g.ptns.length d0), (.slice b1 g.crss.length d1), (.slice b2 g.book.stocks.length d2), (.slice b3 g.book.lines.length d3), (.slice b4 g.dffs.length d4), (.slice b5 g.outs.length d5)] 31)) = W0 := ⟨_, rfl⟩
  have hb0 : Below w.heap.size w W0 := by rw [← hW0]; exact ((Below.refl _ _).alloc (Nat.le_refl _) _).alloc (by simp) _
  have h2 := fl_twoG w (.cells #[.string g.name, .int .i64 g.day, (.slice a0 g.ptns.length c0), (.slice a1 g.crss.length c1), (.slice a2 g.book.stocks.length c2), (.slice a3 g.book.lines.length c3), (.slice a4 g.dffs.length c4), (.slice a5 g.outs.length c5)] 31) (.cells #[.string g.name, .int .i64 g.day, (.slice b0 g.ptns.length d0), (.slice b1 g.crss.length d1), (.slice b2 g.book.stocks.length d2), (.slice b3 g.book.lines.length d3), (.slice b4 g.dffs.length d4), (.slice b5 g.outs.length d5)] 31)
  rw [hW0] at h2
  have HB : Hid (Below w.heap.size w W0) := hb0
  have HK : Hid (∀ W, Below W0.heap.size W0 W → W.heap[w.heap.size]? = some (.cells #[.string g.name, .int .i64 g.day, (.slice a0 g.ptns.length c0), (.slice a1 g.crss.length c1), (.slice a2 g.book.stocks.length c2), (.slice a3 g.book.lines.length c3), (.slice a4 g.dffs.length c4), (.slice a5 g.outs.length c5)] 31) ∧ W.heap[w.heap.size + 1]? = some (.cells #[.string g.name, .int .i64 g.day, (.slice b0 g.ptns.length d0), (.slice b1 g.crss.length d1), (.slice b2 g.book.stocks.length d2), (.slice b3 g.book.lines.length d3), (.slice b4 g.dffs.length d4), (.slice b5 g.outs.length d5)] 31)) := fun W hW => ⟨(hW.block _ (Array.getElem?_eq_some_iff.1 h2.1).1).trans h2.1, (hW.block _ (Array.getElem?_eq_some_iff.1 h2.2).1).trans h2.2⟩
  have H : Hid (RGt W0 (.slice a0 g.ptns.length c0) (.slice a1 g.crss.length c1) (.slice a2 g.book.stocks.length c2) (.slice a3 g.book.lines.length c3) (.slice a4 g.dffs.length c4) (.slice a5 g.outs.length c5) g ∧ RGt W0 (.slice b0 g.ptns.length d0) (.slice b1 g.crss.length d1) (.slice b2 g.book.stocks.length d2) (.slice b3 g.book.lines.length d3) (.slice b4 g.dffs.length d4) (.slice b5 g.outs.length d5) g) := ⟨h.below hb0, h'.below hb0⟩
  have H0 : Hid (Below W0.heap.size W0 W0) := Below.refl _ _
  clear h h' hb0 h2
  go_enter Try.func7, Try.ntmps7
  go_upto_region 1 with fail
  try rw [hW0]
  clear hW0
  obtain ⟨x0, x1, x2, x3, x4, x5, x6, x7⟩ := bx8 (HK.out _ H0.out).1
  obtain ⟨y0, y1, y2, y3, y4, y5, y6, y7⟩ := bx8 (HK.out _ H0.out).2
  go_wp2_with fail
  refine (eqsPt_any _ _ g.ptns _ (H.out.1.pt.below H0.out) (H.out.2.pt.below H0.out)).mono ?_
  rintro e w1 ⟨rfl, hb⟩
  have H1 : Hid (Below W0.heap.size W0 w1) := H0.out.trans (hb.mono H0.out.size)
  clear hb x0 x1 x2 x3 x4 x5 x6 x7 y0 y1 y2 y3 y4 y5 y6 y7
  obtain ⟨x0, x1, x2, x3, x4, x5, x6, x7⟩ := bx8 (HK.out _ H1.out).1
  obtain ⟨y0, y1, y2, y3, y4, y5, y6, y7⟩ := bx8 (HK.out _ H1.out).2
  go_wp2_with fail
  refine (eqCss_any _ _ g.crss _ (H.out.1.cs.below H1.out) (H.out.2.cs.below H1.out)).mono ?_
  rintro e w2 ⟨rfl, hb⟩
  have H2 : Hid (Below W0.heap.size W0 w2) := H1.out.trans (hb.mono H1.out.size)
  clear hb x0 x1 x2 x3 x4 x5 x6 x7 y0 y1 y2 y3 y4 y5 y6 y7
  obtain ⟨x0, x1, x2, x3, x4, x5, x6, x7⟩ := bx8 (HK.out _ H2.out).1
  obtain ⟨y0, y1, y2, y3, y4, y5, y6, y7⟩ := bx8 (HK.out _ H2.out).2
  go_wp2_with fail
  refine (eqBk_any g.book _ _ _ _ _ (H.out.1.bk.below H2.out) (H.out.2.bk.below H2.out)).mono ?_
  rintro e w3 ⟨rfl, hb⟩
  have H3 : Hid (Below W0.heap.size W0 w3) := H2.out.trans (hb.mono H2.out.size)
  clear hb x0 x1 x2 x3 x4 x5 x6 x7 y0 y1 y2 y3 y4 y5 y6 y7
  obtain ⟨x0, x1, x2, x3, x4, x5, x6, x7⟩ := bx8 (HK.out _ H3.out).1
  obtain ⟨y0, y1, y2, y3, y4, y5, y6, y7⟩ := bx8 (HK.out _ H3.out).2
  go_wp2_with fail
  refine (eqDfs_any _ _ g.dffs _ (H.out.1.df.below H3.out) (H.out.2.df.below H3.out)).mono ?_
  rintro e w4 ⟨rfl, hb⟩
  have H4 : Hid (Below W0.heap.size W0 w4) := H3.out.trans (hb.mono H3.out.size)
  clear hb x0 x1 x2 x3 x4 x5 x6 x7 y0 y1 y2 y3 y4 y5 y6 y7
  obtain ⟨x0, x1, x2, x3, x4, x5, x6, x7⟩ := bx8 (HK.out _ H4.out).1
  obtain ⟨y0, y1, y2, y3, y4, y5, y6, y7⟩ := bx8 (HK.out _ H4.out).2
  go_wp2_with fail
  refine (eqOus_any _ _ g.outs _ (H.out.1.ou.below H4.out) (H.out.2.ou.below H4.out)).mono ?_
  rintro e w5 ⟨rfl, hb⟩
  have H5 : Hid (Below W0.heap.size W0 w5) := H4.out.trans (hb.mono H4.out.size)
  clear hb x0 x1 x2 x3 x4 x5 x6 x7 y0 y1 y2 y3 y4 y5 y6 y7
  go_wp2
  go_ret
  exact ⟨rfl, HB.out.trans (H5.out.mono HB.out.size)⟩
end Go.Proofs.Ytagajindaipaeaa
namespace Go.Proofs.Ytagajindaipaeaa
open Go.ChangeShapes Go.WideShapes Go.ChangeAt Go.RowKit
theorem cellsI64 : Try.prog.cellsOf 2 = 1 := by kernel_rfl
theorem cellsString : Try.prog.cellsOf 9 = 1 := by kernel_rfl
end Go.Proofs.Ytagajindaipaeaa
