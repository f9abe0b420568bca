/- Texts of ours put together: ToGt, EqSn, EqPt, EqPts. -/
import Derived.Test.YtkgkahlhekecmaaGreatG01
import Derived.Test.YtkgkahlhekecmaaGreatG04
import Derived.Test.YtkgkahlhekecmaaGreatG05
import Derived.Test.YtkgkahlhekecmaaGreatG00
import Derived.Deep.RegionHeld3
import Derived.Deep.QuietTactic
import Derived.BigQuiet
import Derived.BigRegion
namespace Go.Proofs.YtkgkahlhekecmaaGreat
open Go.ChangeShapes Go.WideShapes Go.ChangeAt Go.RowKit
/-- The three boxes of toGate. -/
structure TG (w W : World) (A B C : Array Value) : Prop where
  bel : Below w.heap.size w W
  siz : w.heap.size + 3 ≤ W.heap.size
  b0 : W.heap[w.heap.size]? = some (.cells A 31)
  b1 : W.heap[w.heap.size + 1]? = some (.cells B 42)
  b2 : W.heap[w.heap.size + 1 + 1]? = some (.cells C 42)
theorem TG.below {w W W' : World} {A B C : Array Value} (h : TG w W A B C) (hb : Below W.heap.size W W') : TG w W' A B C := by
  have := h.siz
  have := hb.size
  exact ⟨h.bel.trans (hb.mono h.bel.size), by omega, (hb.block _ (by omega)).trans h.b0, (hb.block _ (by omega)).trans h.b1, (hb.block _ (by omega)).trans h.b2⟩
theorem TG.set {w W : World} {A B C C' : Array Value} (h : TG w W A B C) (i : Nat) (x : Value) (h' : (W.setCell ⟨w.heap.size + 1 + 1, i, none⟩ x).heap[w.heap.size + 1 + 1]? = some (.cells C' 42)) : TG w (W.setCell ⟨w.heap.size + 1 + 1, i, none⟩ x) A B C' :=
  ⟨h.bel.setCell (show w.heap.size ≤ w.heap.size + 1 + 1 by omega) x, by simpa using h.siz, (setNe x (by omega)).trans h.b0, (setNe x (by omega)).trans h.b1, h'⟩
set_option maxHeartbeats 8000000 in
theorem toGt_own (g : Gat) (up uc us ul ud uo : Value) (w : World) (h : RGt w up uc us ul ud uo g) (hP : BdGt 1048576 g) :
    Calls Tryz.prog 6 #[.agg #[.string g.name, .int .i64 g.day, up, uc, us, ul, ud, uo]] w fun e w' => ∃ p c s l d o, e = .returned (.agg #[.string g.name, .int .i64 g.day, p, c, s, l, d, o]) ∧ OwnsPt w.heap.size w' p g.ptns ∧ OwnCs w.heap.size w' c g.crss ∧ OwnSt w.heap.size w' s g.book.stocks ∧ OwnOl w.heap.size w' l g.book.lines ∧ OwnDf w.heap.size w' d g.dffs ∧ OwnOu w.heap.size w' o g.outs ∧ Below w.heap.size w w' := by
  obtain ⟨a0, c0, a1, c1, a2, c2, a3, c3, a4, c4, a5, c5, rfl, rfl, rfl, rfl, rfl, rfl⟩ := h.val
  have HR : Hid (RGt w (.slice a0 g.ptns.length c0) (.slice a1 g.crss.length c1) (.slice a2 g.book.stocks.length c2) (.slice a3 g.book.lines.length c3) (.slice a4 g.dffs.length c4) (.slice a5 g.outs.length c5) g ∧ BdGt 1048576 g) := ⟨h, hP⟩
  clear h hP
  have e0 := fl_three w (.cells #[.string g.name, .int .i64 g.day, (.slice a0 g.ptns.length c0), (.slice a1 g.crss.length c1), (.slice a2 g.book.stocks.length c2), (.slice a3 g.book.lines.length c3), (.slice a4 g.dffs.length c4), (.slice a5 g.outs.length c5)] 31) (.cells #[.string ⟨#[]⟩, .int .i64 0, .slice none 0 0, .slice none 0 0, .slice none 0 0, .slice none 0 0, .slice none 0 0, .slice none 0 0] 42) (.cells #[.string g.name, .int .i64 g.day, .slice none 0 0, .slice none 0 0, .slice none 0 0, .slice none 0 0, .slice none 0 0, .slice none 0 0] 42)
  have hb0 : Below w.heap.size w (((w.alloc (.cells #[.string g.name, .int .i64 g.day, (.slice a0 g.ptns.length c0), (.slice a1 g.crss.length c1), (.slice a2 g.book.stocks.length c2), (.slice a3 g.book.lines.length c3), (.slice a4 g.dffs.length c4), (.slice a5 g.outs.length c5)] 31)).alloc (.cells #[.string ⟨#[]⟩, .int .i64 0, .slice none 0 0, .slice none 0 0, .slice none 0 0, .slice none 0 0, .slice none 0 0, .slice none 0 0] 42)).alloc (.cells #[.string g.name, .int .i64 g.day, .slice none 0 0, .slice none 0 0, .slice none 0 0, .slice none 0 0, .slice none 0 0, .slice none 0 0] 42)) := (((Below.refl _ _).alloc (Nat.le_refl _) _).alloc (by simp) _).alloc (by simp; omega) _
  have hs0 : (((w.alloc (.cells #[.string g.name, .int .i64 g.day, (.slice a0 g.ptns.length c0), (.slice a1 g.crss.length c1), (.slice a2 g.book.stocks.length c2), (.slice a3 g.book.lines.length c3), (.slice a4 g.dffs.length c4), (.slice a5 g.outs.length c5)] 31)).alloc (.cells #[.string ⟨#[]⟩, .int .i64 0, .slice none 0 0, .slice none 0 0, .slice none 0 0, .slice none 0 0, .slice none 0 0, .slice none 0 0] 42)).alloc (.cells #[.string g.name, .int .i64 g.day, .slice none 0 0, .slice none 0 0, .slice none 0 0, .slice none 0 0, .slice none 0 0, .slice none 0 0] 42)).heap.size = w.heap.size + 3 := by simp
  go_enter Tryz.func6, Tryz.ntmps6
  go_wp2_with fail
  generalize (((w.alloc (.cells #[.string g.name, .int .i64 g.day, (.slice a0 g.ptns.length c0), (.slice a1 g.crss.length c1), (.slice a2 g.book.stocks.length c2), (.slice a3 g.book.lines.length c3), (.slice a4 g.dffs.length c4), (.slice a5 g.outs.length c5)] 31)).alloc (.cells #[.string ⟨#[]⟩, .int .i64 0, .slice none 0 0, .slice none 0 0, .slice none 0 0, .slice none 0 0, .slice none 0 0, .slice none 0 0] 42)).alloc (.cells #[.string g.name, .int .i64 g.day, .slice none 0 0, .slice none 0 0, .slice none 0 0, .slice none 0 0, .slice none 0 0, .slice none 0 0] 42)) = W0 at hb0 e0 hs0 ⊢
  have T0 : TG w W0 #[.string g.name, .int .i64 g.day, (.slice a0 g.ptns.length c0), (.slice a1 g.crss.length c1), (.slice a2 g.book.stocks.length c2), (.slice a3 g.book.lines.length c3), (.slice a4 g.dffs.length c4), (.slice a5 g.outs.length c5)] #[.string ⟨#[]⟩, .int .i64 0, .slice none 0 0, .slice none 0 0, .slice none 0 0, .slice none 0 0, .slice none 0 0, .slice none 0 0] #[.string g.name, .int .i64 g.day, .slice none 0 0, .slice none 0 0, .slice none 0 0, .slice none 0 0, .slice none 0 0, .slice none 0 0] := ⟨hb0, by omega, e0.1, e0.2.1, e0.2.2⟩
  have H0 : Hid (TG w W0 #[.string g.name, .int .i64 g.day, (.slice a0 g.ptns.length c0), (.slice a1 g.crss.length c1), (.slice a2 g.book.stocks.length c2), (.slice a3 g.book.lines.length c3), (.slice a4 g.dffs.length c4), (.slice a5 g.outs.length c5)] #[.string ⟨#[]⟩, .int .i64 0, .slice none 0 0, .slice none 0 0, .slice none 0 0, .slice none 0 0, .slice none 0 0, .slice none 0 0] #[.string g.name, .int .i64 g.day, .slice none 0 0, .slice none 0 0, .slice none 0 0, .slice none 0 0, .slice none 0 0, .slice none 0 0]) := T0
  clear hb0 e0 hs0 T0
  refine (tosPt_any _ g.ptns W0 (HR.out.1.pt.below ((H0.out).bel)) HR.out.2.2.1).mono ?_
  rintro e w1 ⟨v0, rfl, hO, hb⟩
  obtain ⟨A0, L0, C0, hv⟩ : ∃ A1 L1 C1, v0 = .slice A1 L1 C1 := by
    obtain ⟨b', _, _, h2, _⟩ := hO
    exact ⟨_, _, _, h2⟩
  subst hv
  have G1 : TG w w1 #[.string g.name, .int .i64 g.day, (.slice a0 g.ptns.length c0), (.slice a1 g.crss.length c1), (.slice a2 g.book.stocks.length c2), (.slice a3 g.book.lines.length c3), (.slice a4 g.dffs.length c4), (.slice a5 g.outs.length c5)] #[.string ⟨#[]⟩, .int .i64 0, .slice none 0 0, .slice none 0 0, .slice none 0 0, .slice none 0 0, .slice none 0 0, .slice none 0 0] #[.string g.name, .int .i64 g.day, .slice none 0 0, .slice none 0 0, .slice none 0 0, .slice none 0 0, .slice none 0 0, .slice none 0 0] ∧ OwnsPt (w.heap.size + 3) w1 (.slice A0 L0 C0) g.ptns := ⟨(H0.out).below hb, (hO.mono (H0.out).siz)⟩
  have HG : Hid (TG w w1 #[.string g.name, .int .i64 g.day, (.slice a0 g.ptns.length c0), (.slice a1 g.crss.length c1), (.slice a2 g.book.stocks.length c2), (.slice a3 g.book.lines.length c3), (.slice a4 g.dffs.length c4), (.slice a5 g.outs.length c5)] #[.string ⟨#[]⟩, .int .i64 0, .slice none 0 0, .slice none 0 0, .slice none 0 0, .slice none 0 0, .slice none 0 0, .slice none 0 0] #[.string g.name, .int .i64 g.day, .slice none 0 0, .slice none 0 0, .slice none 0 0, .slice none 0 0, .slice none 0 0, .slice none 0 0] ∧ OwnsPt (w.heap.size + 3) w1 (.slice A0 L0 C0) g.ptns) := G1
  clear hO hb H0
  obtain ⟨x0, x1, x2, x3, x4, x5, x6, x7⟩ := bx8 G1.1.b0
  obtain ⟨y0, y1, y2, y3, y4, y5, y6, y7⟩ := bx8 G1.1.b2
  have zf := fz8 G1.1.b2
  obtain ⟨W1, hW⟩ : ∃ W1, (w1.setCell ⟨w.heap.size + 1 + 1, 2, none⟩ (.slice A0 L0 C0)) = W1 := ⟨_, rfl⟩
  have T1 : TG w W1 #[.string g.name, .int .i64 g.day, (.slice a0 g.ptns.length c0), (.slice a1 g.crss.length c1), (.slice a2 g.book.stocks.length c2), (.slice a3 g.book.lines.length c3), (.slice a4 g.dffs.length c4), (.slice a5 g.outs.length c5)] #[.string ⟨#[]⟩, .int .i64 0, .slice none 0 0, .slice none 0 0, .slice none 0 0, .slice none 0 0, .slice none 0 0, .slice none 0 0] #[.string g.name, .int .i64 g.day, (.slice A0 L0 C0), .slice none 0 0, .slice none 0 0, .slice none 0 0, .slice none 0 0, .slice none 0 0] ∧ OwnsPt (w.heap.size + 3) W1 (.slice A0 L0 C0) g.ptns := by rw [← hW]; exact ⟨((G1.1).set 2 (.slice A0 L0 C0) (st8_2 _ (G1.1).b2)), ((G1.2).setAt (show w.heap.size + 1 + 1 < w.heap.size + 3 by omega) 2 (.slice A0 L0 C0))⟩
  have H1 : Hid (TG w W1 #[.string g.name, .int .i64 g.day, (.slice a0 g.ptns.length c0), (.slice a1 g.crss.length c1), (.slice a2 g.book.stocks.length c2), (.slice a3 g.book.lines.length c3), (.slice a4 g.dffs.length c4), (.slice a5 g.outs.length c5)] #[.string ⟨#[]⟩, .int .i64 0, .slice none 0 0, .slice none 0 0, .slice none 0 0, .slice none 0 0, .slice none 0 0, .slice none 0 0] #[.string g.name, .int .i64 g.day, (.slice A0 L0 C0), .slice none 0 0, .slice none 0 0, .slice none 0 0, .slice none 0 0, .slice none 0 0] ∧ OwnsPt (w.heap.size + 3) W1 (.slice A0 L0 C0) g.ptns) := T1
  have B0 := T1.1.b0
  rw [← hW] at B0
  obtain ⟨z0, z1, z2, z3, z4, z5, z6, z7⟩ := bx8 B0
  have HW : Hid ((w1.setCell ⟨w.heap.size + 1 + 1, 2, none⟩ (.slice A0 L0 C0)) = W1) := hW
  clear G1 T1 B0 hW
  go_wp2_with fail
  try rw [HW.out]
  clear HW x0 x1 x2 x3 x4 x5 x6 x7 y0 y1 y2 y3 y4 y5 y6 y7 z0 z1 z2 z3 z4 z5 z6 z7 zf HG
  refine (toCss_any _ g.crss W1 (HR.out.1.cs.below ((H1.out.1).bel)) HR.out.2.2.2.1).mono ?_
  rintro e w2 ⟨v1, rfl, hO, hb⟩
  obtain ⟨A1, L1, C1, hv⟩ : ∃ A1 L1 C1, v1 = .slice A1 L1 C1 := by
    obtain ⟨b', _, _, h2, _⟩ := hO
    exact ⟨_, _, _, h2⟩
  subst hv
  have G2 : TG w w2 #[.string g.name, .int .i64 g.day, (.slice a0 g.ptns.length c0), (.slice a1 g.crss.length c1), (.slice a2 g.book.stocks.length c2), (.slice a3 g.book.lines.length c3), (.slice a4 g.dffs.length c4), (.slice a5 g.outs.length c5)] #[.string ⟨#[]⟩, .int .i64 0, .slice none 0 0, .slice none 0 0, .slice none 0 0, .slice none 0 0, .slice none 0 0, .slice none 0 0] #[.string g.name, .int .i64 g.day, (.slice A0 L0 C0), .slice none 0 0, .slice none 0 0, .slice none 0 0, .slice none 0 0, .slice none 0 0] ∧ OwnsPt (w.heap.size + 3) w2 (.slice A0 L0 C0) g.ptns ∧ OwnCs (w.heap.size + 3) w2 (.slice A1 L1 C1) g.crss := ⟨(H1.out.1).below hb, (H1.out.2).below hb, (hO.mono (H1.out.1).siz)⟩
  have HG : Hid (TG w w2 #[.string g.name, .int .i64 g.day, (.slice a0 g.ptns.length c0), (.slice a1 g.crss.length c1), (.slice a2 g.book.stocks.length c2), (.slice a3 g.book.lines.length c3), (.slice a4 g.dffs.length c4), (.slice a5 g.outs.length c5)] #[.string ⟨#[]⟩, .int .i64 0, .slice none 0 0, .slice none 0 0, .slice none 0 0, .slice none 0 0, .slice none 0 0, .slice none 0 0] #[.string g.name, .int .i64 g.day, (.slice A0 L0 C0), .slice none 0 0, .slice none 0 0, .slice none 0 0, .slice none 0 0, .slice none 0 0] ∧ OwnsPt (w.heap.size + 3) w2 (.slice A0 L0 C0) g.ptns ∧ OwnCs (w.heap.size + 3) w2 (.slice A1 L1 C1) g.crss) := G2
  clear hO hb H1
  obtain ⟨x0, x1, x2, x3, x4, x5, x6, x7⟩ := bx8 G2.1.b0
  obtain ⟨y0, y1, y2, y3, y4, y5, y6, y7⟩ := bx8 G2.1.b2
  have zf := fz8 G2.1.b2
  obtain ⟨W2, hW⟩ : ∃ W2, (w2.setCell ⟨w.heap.size + 1 + 1, 3, none⟩ (.slice A1 L1 C1)) = W2 := ⟨_, rfl⟩
  have T2 : TG w W2 #[.string g.name, .int .i64 g.day, (.slice a0 g.ptns.length c0), (.slice a1 g.crss.length c1), (.slice a2 g.book.stocks.length c2), (.slice a3 g.book.lines.length c3), (.slice a4 g.dffs.length c4), (.slice a5 g.outs.length c5)] #[.string ⟨#[]⟩, .int .i64 0, .slice none 0 0, .slice none 0 0, .slice none 0 0, .slice none 0 0, .slice none 0 0, .slice none 0 0] #[.string g.name, .int .i64 g.day, (.slice A0 L0 C0), (.slice A1 L1 C1), .slice none 0 0, .slice none 0 0, .slice none 0 0, .slice none 0 0] ∧ OwnsPt (w.heap.size + 3) W2 (.slice A0 L0 C0) g.ptns ∧ OwnCs (w.heap.size + 3) W2 (.slice A1 L1 C1) g.crss := by rw [← hW]; exact ⟨((G2.1).set 3 (.slice A1 L1 C1) (st8_3 _ (G2.1).b2)), ((G2.2.1).setAt (show w.heap.size + 1 + 1 < w.heap.size + 3 by omega) 3 (.slice A1 L1 C1)), ((G2.2.2).setAt (show w.heap.size + 1 + 1 < w.heap.size + 3 by omega) 3 (.slice A1 L1 C1))⟩
  have H2 : Hid (TG w W2 #[.string g.name, .int .i64 g.day, (.slice a0 g.ptns.length c0), (.slice a1 g.crss.length c1), (.slice a2 g.book.stocks.length c2), (.slice a3 g.book.lines.length c3), (.slice a4 g.dffs.length c4), (.slice a5 g.outs.length c5)] #[.string ⟨#[]⟩, .int .i64 0, .slice none 0 0, .slice none 0 0, .slice none 0 0, .slice none 0 0, .slice none 0 0, .slice none 0 0] #[.string g.name, .int .i64 g.day, (.slice A0 L0 C0), (.slice A1 L1 C1), .slice none 0 0, .slice none 0 0, .slice none 0 0, .slice none 0 0] ∧ OwnsPt (w.heap.size + 3) W2 (.slice A0 L0 C0) g.ptns ∧ OwnCs (w.heap.size + 3) W2 (.slice A1 L1 C1) g.crss) := T2
  have B0 := T2.1.b0
  rw [← hW] at B0
  obtain ⟨z0, z1, z2, z3, z4, z5, z6, z7⟩ := bx8 B0
  have HW : Hid ((w2.setCell ⟨w.heap.size + 1 + 1, 3, none⟩ (.slice A1 L1 C1)) = W2) := hW
  clear G2 T2 B0 hW
  go_wp2_with fail
  try rw [HW.out]
  clear HW x0 x1 x2 x3 x4 x5 x6 x7 y0 y1 y2 y3 y4 y5 y6 y7 z0 z1 z2 z3 z4 z5 z6 z7 zf HG
  refine (toBk_own g.book _ _ W2 (HR.out.1.bk.below ((H2.out.1).bel)) HR.out.2.2.2.2.1).mono ?_
  rintro e w3 ⟨v2, v3, rfl, hO, hO', hb⟩
  obtain ⟨A2, L2, C2, hv⟩ : ∃ A1 L1 C1, v2 = .slice A1 L1 C1 := by
    obtain ⟨b', _, _, h2, _⟩ := hO
    exact ⟨_, _, _, h2⟩
  subst hv
  obtain ⟨A3, L3, C3, hv⟩ : ∃ A1 L1 C1, v3 = .slice A1 L1 C1 := by
    obtain ⟨b', _, _, h2, _⟩ := hO'
    exact ⟨_, _, _, h2⟩
  subst hv
  have G3 : TG w w3 #[.string g.name, .int .i64 g.day, (.slice a0 g.ptns.length c0), (.slice a1 g.crss.length c1), (.slice a2 g.book.stocks.length c2), (.slice a3 g.book.lines.length c3), (.slice a4 g.dffs.length c4), (.slice a5 g.outs.length c5)] #[.string ⟨#[]⟩, .int .i64 0, .slice none 0 0, .slice none 0 0, .slice none 0 0, .slice none 0 0, .slice none 0 0, .slice none 0 0] #[.string g.name, .int .i64 g.day, (.slice A0 L0 C0), (.slice A1 L1 C1), .slice none 0 0, .slice none 0 0, .slice none 0 0, .slice none 0 0] ∧ OwnsPt (w.heap.size + 3) w3 (.slice A0 L0 C0) g.ptns ∧ OwnCs (w.heap.size + 3) w3 (.slice A1 L1 C1) g.crss ∧ OwnSt (w.heap.size + 3) w3 (.slice A2 L2 C2) g.book.stocks ∧ OwnOl (w.heap.size + 3) w3 (.slice A3 L3 C3) g.book.lines := ⟨(H2.out.1).below hb, (H2.out.2.1).below hb, (H2.out.2.2).below hb, (hO.mono (H2.out.1).siz), (hO'.mono (H2.out.1).siz)⟩
  have HG : Hid (TG w w3 #[.string g.name, .int .i64 g.day, (.slice a0 g.ptns.length c0), (.slice a1 g.crss.length c1), (.slice a2 g.book.stocks.length c2), (.slice a3 g.book.lines.length c3), (.slice a4 g.dffs.length c4), (.slice a5 g.outs.length c5)] #[.string ⟨#[]⟩, .int .i64 0, .slice none 0 0, .slice none 0 0, .slice none 0 0, .slice none 0 0, .slice none 0 0, .slice none 0 0] #[.string g.name, .int .i64 g.day, (.slice A0 L0 C0), (.slice A1 L1 C1), .slice none 0 0, .slice none 0 0, .slice none 0 0, .slice none 0 0] ∧ OwnsPt (w.heap.size + 3) w3 (.slice A0 L0 C0) g.ptns ∧ OwnCs (w.heap.size + 3) w3 (.slice A1 L1 C1) g.crss ∧ OwnSt (w.heap.size + 3) w3 (.slice A2 L2 C2) g.book.stocks ∧ OwnOl (w.heap.size + 3) w3 (.slice A3 L3 C3) g.book.lines) := G3
  clear hO hO' hb H2
  obtain ⟨x0, x1, x2, x3, x4, x5, x6, x7⟩ := bx8 G3.1.b0
  obtain ⟨y0, y1, y2, y3, y4, y5, y6, y7⟩ := bx8 G3.1.b2
  have zf := fz8 G3.1.b2
  obtain ⟨W3, hW⟩ : ∃ W3, ((w3.setCell ⟨w.heap.size + 1 + 1, 4, none⟩ (.slice A2 L2 C2)).setCell ⟨w.heap.size + 1 + 1, 5, none⟩ (.slice A3 L3 C3)) = W3 := ⟨_, rfl⟩
  have T3 : TG w W3 #[.string g.name, .int .i64 g.day, (.slice a0 g.ptns.length c0), (.slice a1 g.crss.length c1), (.slice a2 g.book.stocks.length c2), (.slice a3 g.book.lines.length c3), (.slice a4 g.dffs.length c4), (.slice a5 g.outs.length c5)] #[.string ⟨#[]⟩, .int .i64 0, .slice none 0 0, .slice none 0 0, .slice none 0 0, .slice none 0 0, .slice none 0 0, .slice none 0 0] #[.string g.name, .int .i64 g.day, (.slice A0 L0 C0), (.slice A1 L1 C1), (.slice A2 L2 C2), (.slice A3 L3 C3), .slice none 0 0, .slice none 0 0] ∧ OwnsPt (w.heap.size + 3) W3 (.slice A0 L0 C0) g.ptns ∧ OwnCs (w.heap.size + 3) W3 (.slice A1 L1 C1) g.crss ∧ OwnSt (w.heap.size + 3) W3 (.slice A2 L2 C2) g.book.stocks ∧ OwnOl (w.heap.size + 3) W3 (.slice A3 L3 C3) g.book.lines := by rw [← hW]; exact ⟨((((G3.1).set 4 (.slice A2 L2 C2) (st8_4 _ (G3.1).b2))).set 5 (.slice A3 L3 C3) (st8_5 _ (((G3.1).set 4 (.slice A2 L2 C2) (st8_4 _ (G3.1).b2))).b2)), ((((G3.2.1).setAt (show w.heap.size + 1 + 1 < w.heap.size + 3 by omega) 4 (.slice A2 L2 C2))).setAt (show w.heap.size + 1 + 1 < w.heap.size + 3 by omega) 5 (.slice A3 L3 C3)), ((((G3.2.2.1).setAt (show w.heap.size + 1 + 1 < w.heap.size + 3 by omega) 4 (.slice A2 L2 C2))).setAt (show w.heap.size + 1 + 1 < w.heap.size + 3 by omega) 5 (.slice A3 L3 C3)), ((((G3.2.2.2.1).setAt (show w.heap.size + 1 + 1 < w.heap.size + 3 by omega) 4 (.slice A2 L2 C2))).setAt (show w.heap.size + 1 + 1 < w.heap.size + 3 by omega) 5 (.slice A3 L3 C3)), ((((G3.2.2.2.2).setAt (show w.heap.size + 1 + 1 < w.heap.size + 3 by omega) 4 (.slice A2 L2 C2))).setAt (show w.heap.size + 1 + 1 < w.heap.size + 3 by omega) 5 (.slice A3 L3 C3))⟩
  have H3 : Hid (TG w W3 #[.string g.name, .int .i64 g.day, (.slice a0 g.ptns.length c0), (.slice a1 g.crss.length c1), (.slice a2 g.book.stocks.length c2), (.slice a3 g.book.lines.length c3), (.slice a4 g.dffs.length c4), (.slice a5 g.outs.length c5)] #[.string ⟨#[]⟩, .int .i64 0, .slice none 0 0, .slice none 0 0, .slice none 0 0, .slice none 0 0, .slice none 0 0, .slice none 0 0] #[.string g.name, .int .i64 g.day, (.slice A0 L0 C0), (.slice A1 L1 C1), (.slice A2 L2 C2), (.slice A3 L3 C3), .slice none 0 0, .slice none 0 0] ∧ OwnsPt (w.heap.size + 3) W3 (.slice A0 L0 C0) g.ptns ∧ OwnCs (w.heap.size + 3) W3 (.slice A1 L1 C1) g.crss ∧ OwnSt (w.heap.size + 3) W3 (.slice A2 L2 C2) g.book.stocks ∧ OwnOl (w.heap.size + 3) W3 (.slice A3 L3 C3) g.book.lines) := T3
  have B0 := T3.1.b0
  rw [← hW] at B0
  obtain ⟨z0, z1, z2, z3, z4, z5, z6, z7⟩ := bx8 B0
  have zg : ∀ o, (w3.setCell ⟨w.heap.size + 1 + 1, 4, none⟩ (.slice A2 L2 C2)).frozen? ⟨w.heap.size + 1 + 1, o, none⟩ = false := fz8 (st8_4 (.slice A2 L2 C2) G3.1.b2)
  obtain ⟨s0, s1, s2, s3, s4, s5, s6, s7⟩ := bx8 (st8_4 (.slice A2 L2 C2) G3.1.b2)
  have HW : Hid (((w3.setCell ⟨w.heap.size + 1 + 1, 4, none⟩ (.slice A2 L2 C2)).setCell ⟨w.heap.size + 1 + 1, 5, none⟩ (.slice A3 L3 C3)) = W3) := hW
  clear G3 T3 B0 hW
  go_wp2_with fail
  try rw [HW.out]
  clear HW x0 x1 x2 x3 x4 x5 x6 x7 y0 y1 y2 y3 y4 y5 y6 y7 z0 z1 z2 z3 z4 z5 z6 z7 zf HG zg s0 s1 s2 s3 s4 s5 s6 s7
  refine (toDfs_any _ g.dffs W3 (HR.out.1.df.below ((H3.out.1).bel)) HR.out.2.2.2.2.2.1).mono ?_
  rintro e w4 ⟨v4, rfl, hO, hb⟩
  obtain ⟨A4, L4, C4, hv⟩ : ∃ A1 L1 C1, v4 = .slice A1 L1 C1 := by
    obtain ⟨b', _, _, h2, _⟩ := hO
    exact ⟨_, _, _, h2⟩
  subst hv
  have G4 : TG w w4 #[.string g.name, .int .i64 g.day, (.slice a0 g.ptns.length c0), (.slice a1 g.crss.length c1), (.slice a2 g.book.stocks.length c2), (.slice a3 g.book.lines.length c3), (.slice a4 g.dffs.length c4), (.slice a5 g.outs.length c5)] #[.string ⟨#[]⟩, .int .i64 0, .slice none 0 0, .slice none 0 0, .slice none 0 0, .slice none 0 0, .slice none 0 0, .slice none 0 0] #[.string g.name, .int .i64 g.day, (.slice A0 L0 C0), (.slice A1 L1 C1), (.slice A2 L2 C2), (.slice A3 L3 C3), .slice none 0 0, .slice none 0 0] ∧ OwnsPt (w.heap.size + 3) w4 (.slice A0 L0 C0) g.ptns ∧ OwnCs (w.heap.size + 3) w4 (.slice A1 L1 C1) g.crss ∧ OwnSt (w.heap.size + 3) w4 (.slice A2 L2 C2) g.book.stocks ∧ OwnOl (w.heap.size + 3) w4 (.slice A3 L3 C3) g.book.lines ∧ OwnDf (w.heap.size + 3) w4 (.slice A4 L4 C4) g.dffs := ⟨(H3.out.1).below hb, (H3.out.2.1).below hb, (H3.out.2.2.1).below hb, (H3.out.2.2.2.1).below hb, (H3.out.2.2.2.2).below hb, (hO.mono (H3.out.1).siz)⟩
  have HG : Hid (TG w w4 #[.string g.name, .int .i64 g.day, (.slice a0 g.ptns.length c0), (.slice a1 g.crss.length c1), (.slice a2 g.book.stocks.length c2), (.slice a3 g.book.lines.length c3), (.slice a4 g.dffs.length c4), (.slice a5 g.outs.length c5)] #[.string ⟨#[]⟩, .int .i64 0, .slice none 0 0, .slice none 0 0, .slice none 0 0, .slice none 0 0, .slice none 0 0, .slice none 0 0] #[.string g.name, .int .i64 g.day, (.slice A0 L0 C0), (.slice A1 L1 C1), (.slice A2 L2 C2), (.slice A3 L3 C3), .slice none 0 0, .slice none 0 0] ∧ OwnsPt (w.heap.size + 3) w4 (.slice A0 L0 C0) g.ptns ∧ OwnCs (w.heap.size + 3) w4 (.slice A1 L1 C1) g.crss ∧ OwnSt (w.heap.size + 3) w4 (.slice A2 L2 C2) g.book.stocks ∧ OwnOl (w.heap.size + 3) w4 (.slice A3 L3 C3) g.book.lines ∧ OwnDf (w.heap.size + 3) w4 (.slice A4 L4 C4) g.dffs) := G4
  clear hO hb H3
  obtain ⟨x0, x1, x2, x3, x4, x5, x6, x7⟩ := bx8 G4.1.b0
  obtain ⟨y0, y1, y2, y3, y4, y5, y6, y7⟩ := bx8 G4.1.b2
  have zf := fz8 G4.1.b2
  obtain ⟨W4, hW⟩ : ∃ W4, (w4.setCell ⟨w.heap.size + 1 + 1, 6, none⟩ (.slice A4 L4 C4)) = W4 := ⟨_, rfl⟩
  have T4 : TG w W4 #[.string g.name, .int .i64 g.day, (.slice a0 g.ptns.length c0), (.slice a1 g.crss.length c1), (.slice a2 g.book.stocks.length c2), (.slice a3 g.book.lines.length c3), (.slice a4 g.dffs.length c4), (.slice a5 g.outs.length c5)] #[.string ⟨#[]⟩, .int .i64 0, .slice none 0 0, .slice none 0 0, .slice none 0 0, .slice none 0 0, .slice none 0 0, .slice none 0 0] #[.string g.name, .int .i64 g.day, (.slice A0 L0 C0), (.slice A1 L1 C1), (.slice A2 L2 C2), (.slice A3 L3 C3), (.slice A4 L4 C4), .slice none 0 0] ∧ OwnsPt (w.heap.size + 3) W4 (.slice A0 L0 C0) g.ptns ∧ OwnCs (w.heap.size + 3) W4 (.slice A1 L1 C1) g.crss ∧ OwnSt (w.heap.size + 3) W4 (.slice A2 L2 C2) g.book.stocks ∧ OwnOl (w.heap.size + 3) W4 (.slice A3 L3 C3) g.book.lines ∧ OwnDf (w.heap.size + 3) W4 (.slice A4 L4 C4) g.dffs := by rw [← hW]; exact ⟨((G4.1).set 6 (.slice A4 L4 C4) (st8_6 _ (G4.1).b2)), ((G4.2.1).setAt (show w.heap.size + 1 + 1 < w.heap.size + 3 by omega) 6 (.slice A4 L4 C4)), ((G4.2.2.1).setAt (show w.heap.size + 1 + 1 < w.heap.size + 3 by omega) 6 (.slice A4 L4 C4)), ((G4.2.2.2.1).setAt (show w.heap.size + 1 + 1 < w.heap.size + 3 by omega) 6 (.slice A4 L4 C4)), ((G4.2.2.2.2.1).setAt (show w.heap.size + 1 + 1 < w.heap.size + 3 by omega) 6 (.slice A4 L4 C4)), ((G4.2.2.2.2.2).setAt (show w.heap.size + 1 + 1 < w.heap.size + 3 by omega) 6 (.slice A4 L4 C4))⟩
  have H4 : Hid (TG w W4 #[.string g.name, .int .i64 g.day, (.slice a0 g.ptns.length c0), (.slice a1 g.crss.length c1), (.slice a2 g.book.stocks.length c2), (.slice a3 g.book.lines.length c3), (.slice a4 g.dffs.length c4), (.slice a5 g.outs.length c5)] #[.string ⟨#[]⟩, .int .i64 0, .slice none 0 0, .slice none 0 0, .slice none 0 0, .slice none 0 0, .slice none 0 0, .slice none 0 0] #[.string g.name, .int .i64 g.day, (.slice A0 L0 C0), (.slice A1 L1 C1), (.slice A2 L2 C2), (.slice A3 L3 C3), (.slice A4 L4 C4), .slice none 0 0] ∧ OwnsPt (w.heap.size + 3) W4 (.slice A0 L0 C0) g.ptns ∧ OwnCs (w.heap.size + 3) W4 (.slice A1 L1 C1) g.crss ∧ OwnSt (w.heap.size + 3) W4 (.slice A2 L2 C2) g.book.stocks ∧ OwnOl (w.heap.size + 3) W4 (.slice A3 L3 C3) g.book.lines ∧ OwnDf (w.heap.size + 3) W4 (.slice A4 L4 C4) g.dffs) := T4
  have B0 := T4.1.b0
  rw [← hW] at B0
  obtain ⟨z0, z1, z2, z3, z4, z5, z6, z7⟩ := bx8 B0
  have HW : Hid ((w4.setCell ⟨w.heap.size + 1 + 1, 6, none⟩ (.slice A4 L4 C4)) = W4) := hW
  clear G4 T4 B0 hW
  go_wp2_with fail
  try rw [HW.out]
  clear HW x0 x1 x2 x3 x4 x5 x6 x7 y0 y1 y2 y3 y4 y5 y6 y7 z0 z1 z2 z3 z4 z5 z6 z7 zf HG
  refine (toOus_any _ g.outs W4 (HR.out.1.ou.below ((H4.out.1).bel)) HR.out.2.2.2.2.2.2).mono ?_
  rintro e w5 ⟨v5, rfl, hO, hb⟩
  obtain ⟨A5, L5, C5, hv⟩ : ∃ A1 L1 C1, v5 = .slice A1 L1 C1 := by
    obtain ⟨b', _, _, h2, _⟩ := hO
    exact ⟨_, _, _, h2⟩
  subst hv
  have G5 : TG w w5 #[.string g.name, .int .i64 g.day, (.slice a0 g.ptns.length c0), (.slice a1 g.crss.length c1), (.slice a2 g.book.stocks.length c2), (.slice a3 g.book.lines.length c3), (.slice a4 g.dffs.length c4), (.slice a5 g.outs.length c5)] #[.string ⟨#[]⟩, .int .i64 0, .slice none 0 0, .slice none 0 0, .slice none 0 0, .slice none 0 0, .slice none 0 0, .slice none 0 0] #[.string g.name, .int .i64 g.day, (.slice A0 L0 C0), (.slice A1 L1 C1), (.slice A2 L2 C2), (.slice A3 L3 C3), (.slice A4 L4 C4), .slice none 0 0] ∧ OwnsPt (w.heap.size + 3) w5 (.slice A0 L0 C0) g.ptns ∧ OwnCs (w.heap.size + 3) w5 (.slice A1 L1 C1) g.crss ∧ OwnSt (w.heap.size + 3) w5 (.slice A2 L2 C2) g.book.stocks ∧ OwnOl (w.heap.size + 3) w5 (.slice A3 L3 C3) g.book.lines ∧ OwnDf (w.heap.size + 3) w5 (.slice A4 L4 C4) g.dffs ∧ OwnOu (w.heap.size + 3) w5 (.slice A5 L5 C5) g.outs := ⟨(H4.out.1).below hb, (H4.out.2.1).below hb, (H4.out.2.2.1).below hb, (H4.out.2.2.2.1).below hb, (H4.out.2.2.2.2.1).below hb, (H4.out.2.2.2.2.2).below hb, (hO.mono (H4.out.1).siz)⟩
  have HG : Hid (TG w w5 #[.string g.name, .int .i64 g.day, (.slice a0 g.ptns.length c0), (.slice a1 g.crss.length c1), (.slice a2 g.book.stocks.length c2), (.slice a3 g.book.lines.length c3), (.slice a4 g.dffs.length c4), (.slice a5 g.outs.length c5)] #[.string ⟨#[]⟩, .int .i64 0, .slice none 0 0, .slice none 0 0, .slice none 0 0, .slice none 0 0, .slice none 0 0, .slice none 0 0] #[.string g.name, .int .i64 g.day, (.slice A0 L0 C0), (.slice A1 L1 C1), (.slice A2 L2 C2), (.slice A3 L3 C3), (.slice A4 L4 C4), .slice none 0 0] ∧ OwnsPt (w.heap.size + 3) w5 (.slice A0 L0 C0) g.ptns ∧ OwnCs (w.heap.size + 3) w5 (.slice A1 L1 C1) g.crss ∧ OwnSt (w.heap.size + 3) w5 (.slice A2 L2 C2) g.book.stocks ∧ OwnOl (w.heap.size + 3) w5 (.slice A3 L3 C3) g.book.lines ∧ OwnDf (w.heap.size + 3) w5 (.slice A4 L4 C4) g.dffs ∧ OwnOu (w.heap.size + 3) w5 (.slice A5 L5 C5) g.outs) := G5
  clear hO hb H4
  obtain ⟨x0, x1, x2, x3, x4, x5, x6, x7⟩ := bx8 G5.1.b0
  obtain ⟨y0, y1, y2, y3, y4, y5, y6, y7⟩ := bx8 G5.1.b2
  have zf := fz8 G5.1.b2
  obtain ⟨d0, d1, d2, d3, d4, d5, d6, d7⟩ := bx8 G5.1.b1
  have zd := fz8 G5.1.b1
  obtain ⟨s0, s1, s2, s3, s4, s5, s6, s7⟩ := bx8 (st8_7 (.slice A5 L5 C5) G5.1.b2)
  clear G5
  go_wp2
  have st : ∀ (W : World) (c i : Nat) (x : Value), w.heap.size ≤ c → c < w.heap.size + 3 → (Below w.heap.size w W ∧ OwnsPt (w.heap.size + 3) W (.slice A0 L0 C0) g.ptns ∧ OwnCs (w.heap.size + 3) W (.slice A1 L1 C1) g.crss ∧ OwnSt (w.heap.size + 3) W (.slice A2 L2 C2) g.book.stocks ∧ OwnOl (w.heap.size + 3) W (.slice A3 L3 C3) g.book.lines ∧ OwnDf (w.heap.size + 3) W (.slice A4 L4 C4) g.dffs ∧ OwnOu (w.heap.size + 3) W (.slice A5 L5 C5) g.outs) → (Below w.heap.size w (W.setCell ⟨c, i, none⟩ x) ∧ OwnsPt (w.heap.size + 3) (W.setCell ⟨c, i, none⟩ x) (.slice A0 L0 C0) g.ptns ∧ OwnCs (w.heap.size + 3) (W.setCell ⟨c, i, none⟩ x) (.slice A1 L1 C1) g.crss ∧ OwnSt (w.heap.size + 3) (W.setCell ⟨c, i, none⟩ x) (.slice A2 L2 C2) g.book.stocks ∧ OwnOl (w.heap.size + 3) (W.setCell ⟨c, i, none⟩ x) (.slice A3 L3 C3) g.book.lines ∧ OwnDf (w.heap.size + 3) (W.setCell ⟨c, i, none⟩ x) (.slice A4 L4 C4) g.dffs ∧ OwnOu (w.heap.size + 3) (W.setCell ⟨c, i, none⟩ x) (.slice A5 L5 C5) g.outs) := fun W c i x g1 g2 ⟨k, k0, k1, k2, k3, k4, k5⟩ => ⟨k.setCell g1 x, k0.setAt g2 i x, k1.setAt g2 i x, k2.setAt g2 i x, k3.setAt g2 i x, k4.setAt g2 i x, k5.setAt g2 i x⟩
  have hF := (st _ (w.heap.size + 1) 7 (.slice A5 L5 C5) (by omega) (by omega) (st _ (w.heap.size + 1) 6 (.slice A4 L4 C4) (by omega) (by omega) (st _ (w.heap.size + 1) 5 (.slice A3 L3 C3) (by omega) (by omega) (st _ (w.heap.size + 1) 4 (.slice A2 L2 C2) (by omega) (by omega) (st _ (w.heap.size + 1) 3 (.slice A1 L1 C1) (by omega) (by omega) (st _ (w.heap.size + 1) 2 (.slice A0 L0 C0) (by omega) (by omega) (st _ (w.heap.size + 1) 1 (.int .i64 g.day) (by omega) (by omega) (st _ (w.heap.size + 1) 0 (.string g.name) (by omega) (by omega) (st _ (w.heap.size + 1 + 1) 7 (.slice A5 L5 C5) (by omega) (by omega) ⟨HG.out.1.bel, HG.out.2⟩)))))))))
  exact bodyPost_ret (v := .agg #[.string g.name, .int .i64 g.day, (.slice A0 L0 C0), (.slice A1 L1 C1), (.slice A2 L2 C2), (.slice A3 L3 C3), (.slice A4 L4 C4), (.slice A5 L5 C5)]) (by simp [results, Tryz.results6, go_sem, d0, d1, d2, d3, d4, d5, d6, d7]) rfl ⟨_, _, _, _, _, _, rfl, hF.2.1.mono (by omega), hF.2.2.1.mono (by omega), hF.2.2.2.1.mono (by omega), hF.2.2.2.2.1.mono (by omega), hF.2.2.2.2.2.1.mono (by omega), hF.2.2.2.2.2.2.mono (by omega), hF.1⟩
theorem toGt_any (g : Gat) (up uc us ul ud uo : Value) (w : World) (h : RGt w up uc us ul ud uo g) (hP : BdGt 1048576 g) :
    Calls Tryz.prog 6 #[.agg #[.string g.name, .int .i64 g.day, up, uc, us, ul, ud, uo]] w fun e w' => ∃ p c s l d o, e = .returned (.agg #[.string g.name, .int .i64 g.day, p, c, s, l, d, o]) ∧ RGt w' p c s l d o g ∧ Below w.heap.size w w' :=
  (toGt_own g up uc us ul ud uo w h hP).mono fun _ _ ⟨p, c, s, l, d, o, he, h1, h2, h3, h4, h5, h6, hb⟩ => ⟨p, c, s, l, d, o, he, ⟨h.nm, h1.row hP.2.1, h2.row hP.2.2.1, ⟨h3.row hP.2.2.2.1.1, h4.row hP.2.2.2.1.2⟩, h5.row hP.2.2.2.2.1, h6.row hP.2.2.2.2.2⟩, hb⟩
end Go.Proofs.YtkgkahlhekecmaaGreat
namespace Go.Proofs.YtkgkahlhekecmaaGreat
open Go.ChangeShapes Go.WideShapes Go.ChangeAt Go.RowKit
set_option maxHeartbeats 1000000 in
theorem eqSn_any (g : Sn) (w : World) :
    Calls Tryz.prog 151 #[.agg #[.int .i64 g.number, .int .i64 g.answer, .int .i64 g.code], .agg #[.int .i64 g.number, .int .i64 g.answer, .int .i64 g.code]] w fun e w' => e = .returned (.bool true) ∧ Below w.heap.size w w' := by
  obtain ⟨number, answer, code⟩ := g
  dsimp only
  have b0 : Below w.heap.size w ((w.alloc (.cells #[.int .i64 number, .int .i64 answer, .int .i64 code] 148)).alloc (.cells #[.int .i64 number, .int .i64 answer, .int .i64 code] 148)) := ((Below.refl _ _).alloc (Nat.le_refl _) _).alloc (by simp) _
  go_enter Tryz.func151, Tryz.ntmps151
  go_wp2
  go_ret
  exact ⟨rfl, b0⟩
set_option maxHeartbeats 2000000 in
theorem eqSns_any (v v' : Value) (rs : List Sn) (w : World) (h : RowSn w v rs) (h' : RowSn w v' rs) :
    Calls Tryz.prog 118 #[v, v'] w fun e w' => e = .returned (.bool true) ∧ Below w.heap.size w w' := by
  have hlen := h.len
  obtain ⟨a, cap, rfl⟩ := h.val
  obtain ⟨a', cap', rfl⟩ := h'.val
  have H : Hid (RowSn w (.slice a rs.length cap) rs ∧ RowSn w (.slice a' rs.length cap') rs) := ⟨h, h'⟩
  clear h h'
  go_enter Tryz.func118, Tryz.ntmps118
  go_wp2
  go_loopw [5] (fun i wr => ∃ k : Nat, i = .int .i64 (k : Int) ∧ k ≤ rs.length ∧ Below w.heap.size w wr) (fun i _ => rs.length - (intOf i).toNat)
  case atStart => exact ⟨0, rfl, by omega, Below.refl _ _⟩
  case round =>
    obtain ⟨k, rfl, hk, hb⟩ := hrel
    by_cases hlt : k < rs.length
    · have hlt' : (k : Int) < (rs.length : Int) := by omega
      obtain ⟨b, o, c1, g, e, hs, ⟨q0, q1, q2⟩⟩ := (H.out.1.below hb).at hlt
      obtain ⟨b', o', c2, g', e', hs', ⟨p0, p1, p2⟩⟩ := (H.out.2.below hb).at hlt
      simp only [Value.slice.injEq, true_and] at e e'
      obtain ⟨rfl, rfl⟩ := e
      obtain ⟨rfl, rfl⟩ := e'
      obtain rfl : g = g' := by rw [hs] at hs'; exact Option.some.inj hs'
      have HB : Hid (Below w.heap.size w wr) := hb
      clear hs hs' hb
      have l1 := cell_lt q0
      have l2 := cell_lt p0
      go_wp2_with fail
      go_region_held3 (fun W => W.cell? ⟨b, o + k * 3, none⟩ = some (.int .i64 g.number) ∧ W.cell? ⟨b, o + k * 3 + 1, none⟩ = some (.int .i64 g.answer) ∧ W.cell? ⟨b, o + k * 3 + 2, none⟩ = some (.int .i64 g.code) ∧ W.cell? ⟨b', o' + k * 3, none⟩ = some (.int .i64 g.number) ∧ W.cell? ⟨b', o' + k * 3 + 1, none⟩ = some (.int .i64 g.answer) ∧ W.cell? ⟨b', o' + k * 3 + 2, none⟩ = some (.int .i64 g.code)) (go_keep) (first | (go_at_call 151; refine (eqSn_any g _).mono ?_; rintro e w2 ⟨rfl, hb2⟩; have yb0 := (hb2.cell (p := ⟨b, o + k * 3, none⟩) l1).trans q0; have yb1 := (hb2.cell (p := ⟨b, o + k * 3 + 1, none⟩) l1).trans q1; have yb2 := (hb2.cell (p := ⟨b, o + k * 3 + 2, none⟩) l1).trans q2; have yp0 := (hb2.cell (p := ⟨b', o' + k * 3, none⟩) l2).trans p0; have yp1 := (hb2.cell (p := ⟨b', o' + k * 3 + 1, none⟩) l2).trans p1; have yp2 := (hb2.cell (p := ⟨b', o' + k * 3 + 2, none⟩) l2).trans p2))
      have HB2 : Hid (Below w.heap.size w w2) := HB.out.drew.trans (hb2.mono HB.out.size)
      clear hb2
      rename_i hHeld
      clear hHeld
      go_wp2
      go_roundw
      case rel => exact ⟨k + 1, by go_num, by omega, HB2.out⟩
      case measure => simp [intOf]; omega
    · obtain rfl : k = rs.length := by omega
      have HB : Hid (Below w.heap.size w wr) := hb
      clear hb
      go_wp2
      go_ret
      exact ⟨rfl, HB.out⟩
end Go.Proofs.YtkgkahlhekecmaaGreat
namespace Go.Proofs.YtkgkahlhekecmaaGreat
open Go.ChangeShapes Go.WideShapes Go.ChangeAt Go.RowKit
set_option maxHeartbeats 2000000 in
theorem eqPt_any (r : Ptn) (v v' : Value) (w : World) (h : RPt w v r) (h' : RPt w v' r) :
    Calls Tryz.prog 73 #[.agg #[.string r.name, .int .i64 r.low, .int .i64 r.next, v], .agg #[.string r.name, .int .i64 r.low, .int .i64 r.next, v']] w fun e w' => e = .returned (.bool true) ∧ Below w.heap.size w w' := by
  obtain ⟨name, low, next, seen⟩ := r
  obtain ⟨a, cap, rfl⟩ := h.ls.val
  obtain ⟨a', cap', rfl⟩ := h'.ls.val
  dsimp only at h h' ⊢
  have b0 : Below w.heap.size w ((w.alloc (.cells #[.string name, .int .i64 low, .int .i64 next, (.slice a seen.length cap)] 63)).alloc (.cells #[.string name, .int .i64 low, .int .i64 next, (.slice a' seen.length cap')] 63)) := ((Below.refl _ _).alloc (Nat.le_refl _) _).alloc (by simp) _
  have H : Hid (RowSn ((w.alloc (.cells #[.string name, .int .i64 low, .int .i64 next, (.slice a seen.length cap)] 63)).alloc (.cells #[.string name, .int .i64 low, .int .i64 next, (.slice a' seen.length cap')] 63)) (.slice a seen.length cap) seen ∧ RowSn ((w.alloc (.cells #[.string name, .int .i64 low, .int .i64 next, (.slice a seen.length cap)] 63)).alloc (.cells #[.string name, .int .i64 low, .int .i64 next, (.slice a' seen.length cap')] 63)) (.slice a' seen.length cap') seen) := ⟨h.ls.below b0, h'.ls.below b0⟩
  clear h h'
  go_enter Tryz.func73, Tryz.ntmps73
  go_wp2_with fail
  refine (eqSns_any _ _ seen _ H.out.1 H.out.2).mono ?_
  rintro e w1 ⟨rfl, hb⟩
  have HC : Hid (Below w.heap.size w w1) := b0.trans (hb.mono (by simp; omega))
  clear hb
  go_wp2
  go_ret
  exact ⟨rfl, HC.out⟩
end Go.Proofs.YtkgkahlhekecmaaGreat
namespace Go.Proofs.YtkgkahlhekecmaaGreat
open Go.ChangeShapes Go.WideShapes Go.ChangeAt Go.RowKit
set_option maxHeartbeats 4000000 in
theorem eqsPt_any (v v' : Value) (rs : List Ptn) (w : World) (h : RowPt w v rs) (h' : RowPt w v' rs) :
    Calls Tryz.prog 33 #[v, v'] w fun e w' => e = .returned (.bool true) ∧ Below w.heap.size w w' := by
  have hlen := h.len
  obtain ⟨a, cap, rfl⟩ := h.val
  obtain ⟨a', cap', rfl⟩ := h'.val
  have H : Hid (RowPt w (.slice a rs.length cap) rs ∧ RowPt w (.slice a' rs.length cap') rs) := ⟨h, h'⟩
  clear h h'
  go_enter Tryz.func33, Tryz.ntmps33
  go_wp2
  go_loopw [5] (fun i wr => ∃ k : Nat, i = .int .i64 (k : Int) ∧ k ≤ rs.length ∧ Below w.heap.size w wr) (fun i _ => rs.length - (intOf i).toNat)
  case atStart => exact ⟨0, rfl, by omega, Below.refl _ _⟩
  case round =>
    obtain ⟨k, rfl, hk, hb⟩ := hrel
    by_cases hlt : k < rs.length
    · have hlt' : (k : Int) < (rs.length : Int) := by omega
      obtain ⟨b, o, c1, g, u, e, hs, A, hR⟩ := (H.out.1.below hb).at hlt
      obtain ⟨b', o', c2, g', u', e', hs', A', hR'⟩ := (H.out.2.below hb).at hlt
      simp only [Value.slice.injEq, true_and] at e e'
      obtain ⟨rfl, rfl⟩ := e
      obtain ⟨rfl, rfl⟩ := e'
      obtain rfl : g = g' := by rw [hs] at hs'; exact Option.some.inj hs'
      have HB : Hid (Below w.heap.size w wr ∧ RPt wr u g ∧ RPt wr u' g ∧ AtPt wr b (o + k * 4) u g ∧ AtPt wr b' (o' + k * 4) u' g) := ⟨hb, hR, hR', A, A'⟩
      clear hs hs' hb hR hR'
      obtain ⟨q0, q1, q2, q3⟩ := A
      obtain ⟨p0, p1, p2, p3⟩ := A'
      go_wp2_with fail
      go_region_held3 (fun W => W.cell? ⟨b, o + k * 4, none⟩ = some (.string g.name) ∧ W.cell? ⟨b, o + k * 4 + 1, none⟩ = some (.int .i64 g.low) ∧ W.cell? ⟨b, o + k * 4 + 2, none⟩ = some (.int .i64 g.next) ∧ W.cell? ⟨b, o + k * 4 + 3, none⟩ = some (u) ∧ W.cell? ⟨b', o' + k * 4, none⟩ = some (.string g.name) ∧ W.cell? ⟨b', o' + k * 4 + 1, none⟩ = some (.int .i64 g.low) ∧ W.cell? ⟨b', o' + k * 4 + 2, none⟩ = some (.int .i64 g.next) ∧ W.cell? ⟨b', o' + k * 4 + 3, none⟩ = some (u')) (go_keep) (first | (go_at_call 73; refine (eqPt_any g u u' _ (HB.out.2.1.below (Below.refl _ _).drew) (HB.out.2.2.1.below (Below.refl _ _).drew)).mono ?_; rintro e w2 ⟨rfl, hb2⟩; obtain ⟨y0, y1, y2, y3⟩ := (HB.out.2.2.2.1.below (Below.refl _ _).drew).below hb2; obtain ⟨z0, z1, z2, z3⟩ := (HB.out.2.2.2.2.below (Below.refl _ _).drew).below hb2))
      have HB2 : Hid (Below w.heap.size w w2) := HB.out.1.drew.trans (hb2.mono HB.out.1.size)
      clear hb2
      rename_i hHeld
      clear hHeld
      go_wp2
      go_roundw
      case rel => exact ⟨k + 1, by go_num, by omega, HB2.out⟩
      case measure => simp [intOf]; omega
    · obtain rfl : k = rs.length := by omega
      have HB : Hid (Below w.heap.size w wr) := hb
      clear hb
      go_wp2
      go_ret
      exact ⟨rfl, HB.out⟩
end Go.Proofs.YtkgkahlhekecmaaGreat
