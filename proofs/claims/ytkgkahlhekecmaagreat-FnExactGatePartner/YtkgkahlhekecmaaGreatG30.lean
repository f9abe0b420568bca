/- Texts of ours put together: GoM, GtKo, NewP, Mu. -/
import Derived.Test.YtkgkahlhekecmaaGreatG08
import Derived.Test.YtkgkahlhekecmaaGreatG16
import Derived.Test.YtkgkahlhekecmaaGreatG27
import Derived.Deep.RegionHeld3
import Derived.Test.YtkgkahlhekecmaaGreatG28
import Derived.Test.YtkgkahlhekecmaaGreatG00
import Derived.Conc.MuLone
import Derived.KernelRfl
namespace Go.Proofs.YtkgkahlhekecmaaGreat
open Go.ChangeShapes Go.WideShapes Go.ChangeAt Go.RowKit
theorem bx14 {W : World} {b t : Nat} {x0 x1 x2 x3 x4 x5 x6 x7 x8 x9 x10 x11 x12 x13 : Value} (h : W.heap[b]? = some (.cells #[x0, x1, x2, x3, x4, x5, x6, x7, x8, x9, x10, x11, x12, x13] t)) : W.cell? ⟨b, 0, none⟩ = some x0 ∧ W.cell? ⟨b, 1, none⟩ = some x1 ∧ W.cell? ⟨b, 2, none⟩ = some x2 ∧ W.cell? ⟨b, 3, none⟩ = some x3 ∧ W.cell? ⟨b, 4, none⟩ = some x4 ∧ W.cell? ⟨b, 5, none⟩ = some x5 ∧ W.cell? ⟨b, 6, none⟩ = some x6 ∧ W.cell? ⟨b, 7, none⟩ = some x7 ∧ W.cell? ⟨b, 8, none⟩ = some x8 ∧ W.cell? ⟨b, 9, none⟩ = some x9 ∧ W.cell? ⟨b, 10, none⟩ = some x10 ∧ W.cell? ⟨b, 11, none⟩ = some x11 ∧ W.cell? ⟨b, 12, none⟩ = some x12 ∧ W.cell? ⟨b, 13, none⟩ = some x13 := by
  refine ⟨?_, ?_, ?_, ?_, ?_, ?_, ?_, ?_, ?_, ?_, ?_, ?_, ?_, ?_⟩ <;> simp [World.cell?, h]
set_option maxHeartbeats 4000000 in
theorem eqGo_any (q : Gat) (cd : Int) (up uc us ul ud uo up' uc' us' ul' ud' uo' : Value) (w : World) (h : RGt w up uc us ul ud uo q) (h' : RGt w up' uc' us' ul' ud' uo' q) :
    Calls Tryz.prog 8 #[.agg #[.string q.name, .int .i64 q.day, up, uc, us, ul, ud, uo, .string ⟨#[]⟩, .int .i64 0, .int .i64 0, .int .i64 0, .int .i64 0, .int .i64 cd], .agg #[.string q.name, .int .i64 q.day, up', uc', us', ul', ud', uo', .string ⟨#[]⟩, .int .i64 0, .int .i64 0, .int .i64 0, .int .i64 0, .int .i64 cd]] w fun e w' => e = .returned (.bool true) ∧ Below w.heap.size w w' := by
  obtain ⟨a0, ac0, a1, ac1, a2, ac2, a3, ac3, a4, ac4, a5, ac5, rfl, rfl, rfl, rfl, rfl, rfl⟩ := h.val
  obtain ⟨b0, bc0, b1, bc1, b2, bc2, b3, bc3, b4, bc4, b5, bc5, rfl, rfl, rfl, rfl, rfl, rfl⟩ := h'.val
  obtain ⟨W0, hW0⟩ : ∃ W0, (w.alloc (.cells #[.string q.name, .int .i64 q.day, .slice a0 q.ptns.length ac0, .slice a1 q.crss.length ac1, .slice a2 q.book.stocks.length ac2, .slice a3 q.book.lines.length ac3, .slice a4 q.dffs.length ac4, .slice a5 q.outs.length ac5, .string ⟨#[]⟩, .int .i64 0, .int .i64 0, .int .i64 0, .int .i64 0, .int .i64 cd] 44)).alloc (.cells #[.string q.name, .int .i64 q.day, .slice b0 q.ptns.length bc0, .slice b1 q.crss.length bc1, .slice b2 q.book.stocks.length bc2, .slice b3 q.book.lines.length bc3, .slice b4 q.dffs.length bc4, .slice b5 q.outs.length bc5, .string ⟨#[]⟩, .int .i64 0, .int .i64 0, .int .i64 0, .int .i64 0, .int .i64 cd] 44) = W0 := ⟨_, rfl⟩
  obtain ⟨k0, k1⟩ := fl_twoG w (.cells #[.string q.name, .int .i64 q.day, .slice a0 q.ptns.length ac0, .slice a1 q.crss.length ac1, .slice a2 q.book.stocks.length ac2, .slice a3 q.book.lines.length ac3, .slice a4 q.dffs.length ac4, .slice a5 q.outs.length ac5, .string ⟨#[]⟩, .int .i64 0, .int .i64 0, .int .i64 0, .int .i64 0, .int .i64 cd] 44) (.cells #[.string q.name, .int .i64 q.day, .slice b0 q.ptns.length bc0, .slice b1 q.crss.length bc1, .slice b2 q.book.stocks.length bc2, .slice b3 q.book.lines.length bc3, .slice b4 q.dffs.length bc4, .slice b5 q.outs.length bc5, .string ⟨#[]⟩, .int .i64 0, .int .i64 0, .int .i64 0, .int .i64 0, .int .i64 cd] 44)
  rw [hW0] at k0 k1
  have hb0 : Below w.heap.size w W0 := by rw [← hW0]; exact ((Below.refl _ _).alloc (Nat.le_refl _) _).alloc (by simp) _
  have H0 : Hid (Below w.heap.size w W0 ∧ RGt W0 (.slice a0 q.ptns.length ac0) (.slice a1 q.crss.length ac1) (.slice a2 q.book.stocks.length ac2) (.slice a3 q.book.lines.length ac3) (.slice a4 q.dffs.length ac4) (.slice a5 q.outs.length ac5) q ∧ RGt W0 (.slice b0 q.ptns.length bc0) (.slice b1 q.crss.length bc1) (.slice b2 q.book.stocks.length bc2) (.slice b3 q.book.lines.length bc3) (.slice b4 q.dffs.length bc4) (.slice b5 q.outs.length bc5) q ∧ W0.heap[w.heap.size]? = some (.cells #[.string q.name, .int .i64 q.day, .slice a0 q.ptns.length ac0, .slice a1 q.crss.length ac1, .slice a2 q.book.stocks.length ac2, .slice a3 q.book.lines.length ac3, .slice a4 q.dffs.length ac4, .slice a5 q.outs.length ac5, .string ⟨#[]⟩, .int .i64 0, .int .i64 0, .int .i64 0, .int .i64 0, .int .i64 cd] 44) ∧ W0.heap[w.heap.size + 1]? = some (.cells #[.string q.name, .int .i64 q.day, .slice b0 q.ptns.length bc0, .slice b1 q.crss.length bc1, .slice b2 q.book.stocks.length bc2, .slice b3 q.book.lines.length bc3, .slice b4 q.dffs.length bc4, .slice b5 q.outs.length bc5, .string ⟨#[]⟩, .int .i64 0, .int .i64 0, .int .i64 0, .int .i64 0, .int .i64 cd] 44)) := ⟨hb0, h.below hb0, h'.below hb0, k0, k1⟩
  clear h h' hb0
  go_enter Tryz.func8, Tryz.ntmps8
  go_upto_region 1 with fail
  try rw [hW0]
  clear hW0
  obtain ⟨x0, x1, x2, x3, x4, x5, x6, x7, x8, x9, x10, x11, x12, x13⟩ := bx14 k0
  obtain ⟨y0, y1, y2, y3, y4, y5, y6, y7, y8, y9, y10, y11, y12, y13⟩ := bx14 k1
  clear k0 k1
  go_wp2_with fail
  refine (eqGt_any q _ _ _ _ _ _ _ _ _ _ _ _ _ H0.out.2.1 H0.out.2.2.1).mono ?_
  rintro e w1 ⟨rfl, hb⟩
  have H1 : Hid (Below w.heap.size w w1) := H0.out.1.trans (hb.mono H0.out.1.size)
  clear x0 x1 x2 x3 x4 x5 x6 x7 x8 x9 x10 x11 x12 x13 y0 y1 y2 y3 y4 y5 y6 y7 y8 y9 y10 y11 y12 y13
  obtain ⟨x0, x1, x2, x3, x4, x5, x6, x7, x8, x9, x10, x11, x12, x13⟩ := bx14 ((hb.block _ (Array.getElem?_eq_some_iff.1 H0.out.2.2.2.1).1).trans H0.out.2.2.2.1)
  obtain ⟨y0, y1, y2, y3, y4, y5, y6, y7, y8, y9, y10, y11, y12, y13⟩ := bx14 ((hb.block _ (Array.getElem?_eq_some_iff.1 H0.out.2.2.2.2).1).trans H0.out.2.2.2.2)
  clear hb H0
  go_wp2
  go_ret
  exact ⟨rfl, H1.out⟩
set_option maxHeartbeats 4000000 in
theorem markGo_any (q : Gat) (cd : Int) (up uc us ul ud uo : Value) (b : Nat) (f : Nat → Value) (β : Nat → Nat) (bc bs bl bd bo : Nat) (k : Nat) (w : World) (h : LGt w up uc us ul ud uo q b f β bc bs bl bd bo) (hk : 0 < k ∧ k + cntG q < 100000000000) :
    Calls Tryz.prog 11 #[.agg #[.string q.name, .int .i64 q.day, up, uc, us, ul, ud, uo, .string ⟨#[]⟩, .int .i64 0, .int .i64 0, .int .i64 0, .int .i64 0, .int .i64 cd], .int .i64 (k : Int)] w fun e w' => e = .returned (.int .i64 ((k + cntG q : Nat) : Int)) ∧ LGt w' up uc us ul ud uo (mkG k q) b f β bc bs bl bd bo ∧ KeepP (blkG q b β bc bs bl bd bo) w w' := by
  obtain ⟨a0, ac0, a1, ac1, a2, ac2, a3, ac3, a4, ac4, a5, ac5, rfl, rfl, rfl, rfl, rfl, rfl⟩ := h.row.val
  obtain ⟨W0, hW0⟩ : ∃ W0, w.alloc (.cells #[.string q.name, .int .i64 q.day, .slice a0 q.ptns.length ac0, .slice a1 q.crss.length ac1, .slice a2 q.book.stocks.length ac2, .slice a3 q.book.lines.length ac3, .slice a4 q.dffs.length ac4, .slice a5 q.outs.length ac5, .string ⟨#[]⟩, .int .i64 0, .int .i64 0, .int .i64 0, .int .i64 0, .int .i64 cd] 44) = W0 := ⟨_, rfl⟩
  have hb0 : Below w.heap.size w W0 := by rw [← hW0]; exact (Below.refl _ _).alloc (Nat.le_refl _) _
  have k0 : W0.heap[w.heap.size]? = some (.cells #[.string q.name, .int .i64 q.day, .slice a0 q.ptns.length ac0, .slice a1 q.crss.length ac1, .slice a2 q.book.stocks.length ac2, .slice a3 q.book.lines.length ac3, .slice a4 q.dffs.length ac4, .slice a5 q.outs.length ac5, .string ⟨#[]⟩, .int .i64 0, .int .i64 0, .int .i64 0, .int .i64 0, .int .i64 cd] 44) := by rw [← hW0]; exact World.alloc_heap_new _ _
  have H0 : Hid (Below w.heap.size w W0 ∧ LGt W0 (.slice a0 q.ptns.length ac0) (.slice a1 q.crss.length ac1) (.slice a2 q.book.stocks.length ac2) (.slice a3 q.book.lines.length ac3) (.slice a4 q.dffs.length ac4) (.slice a5 q.outs.length ac5) q b f β bc bs bl bd bo) := ⟨hb0, h.below hb0⟩
  clear h hb0
  go_enter Tryz.func11, Tryz.ntmps11
  go_upto_region 1 with fail
  try rw [hW0]
  clear hW0
  obtain ⟨x0, x1, x2, x3, x4, x5, x6, x7, x8, x9, x10, x11, x12, x13⟩ := bx14 k0
  clear k0
  go_wp2_with fail
  refine (markGt_any q _ _ _ _ _ _ b f β bc bs bl bd bo k _ H0.out.2 hk).mono ?_
  rintro e w1 ⟨rfl, hL, hK⟩
  have H1 : Hid (LGt w1 (.slice a0 q.ptns.length ac0) (.slice a1 q.crss.length ac1) (.slice a2 q.book.stocks.length ac2) (.slice a3 q.book.lines.length ac3) (.slice a4 q.dffs.length ac4) (.slice a5 q.outs.length ac5) (mkG k q) b f β bc bs bl bd bo ∧ KeepP (blkG q b β bc bs bl bd bo) w w1) := ⟨hL, (KeepP.of_below H0.out.1).trans hK⟩
  clear hL hK x0 x1 x2 x3 x4 x5 x6 x7 x8 x9 x10 x11 x12 x13
  go_wp2
  go_ret
  exact ⟨rfl, H1.out⟩
set_option maxHeartbeats 4000000 in
theorem heldGo_any (q : Gat) (cd : Int) (up uc us ul ud uo : Value) (k : Nat) (w : World) (h : RGt w up uc us ul ud uo (mkG k q)) (hk : 0 < k ∧ k + cntG q < 100000000000) :
    Calls Tryz.prog 12 #[.agg #[.string q.name, .int .i64 q.day, up, uc, us, ul, ud, uo, .string ⟨#[]⟩, .int .i64 0, .int .i64 0, .int .i64 0, .int .i64 0, .int .i64 cd], .int .i64 (k : Int)] w fun e w' => e = .returned (.int .i64 ((k + cntG q : Nat) : Int)) ∧ Below w.heap.size w w' := by
  obtain ⟨W0, hW0⟩ : ∃ W0, w.alloc (.cells #[.string q.name, .int .i64 q.day, up, uc, us, ul, ud, uo, .string ⟨#[]⟩, .int .i64 0, .int .i64 0, .int .i64 0, .int .i64 0, .int .i64 cd] 44) = W0 := ⟨_, rfl⟩
  have hb0 : Below w.heap.size w W0 := by rw [← hW0]; exact (Below.refl _ _).alloc (Nat.le_refl _) _
  have k0 : W0.heap[w.heap.size]? = some (.cells #[.string q.name, .int .i64 q.day, up, uc, us, ul, ud, uo, .string ⟨#[]⟩, .int .i64 0, .int .i64 0, .int .i64 0, .int .i64 0, .int .i64 cd] 44) := by rw [← hW0]; exact World.alloc_heap_new _ _
  have H0 : Hid (Below w.heap.size w W0 ∧ RGt W0 up uc us ul ud uo (mkG k q)) := ⟨hb0, h.below hb0⟩
  have g0 : ¬ ((k + cntG q : Nat) : Int) < 0 := by omega
  obtain ⟨a0, ac0, a1, ac1, a2, ac2, a3, ac3, a4, ac4, a5, ac5, e0, e1, e2, e3, e4, e5⟩ := h.val
  subst e0 e1 e2 e3 e4 e5
  clear h hb0
  go_enter Tryz.func12, Tryz.ntmps12
  go_upto_region 1 with fail
  try rw [hW0]
  clear hW0
  obtain ⟨x0, x1, x2, x3, x4, x5, x6, x7, x8, x9, x10, x11, x12, x13⟩ := bx14 k0
  clear k0
  go_wp2_with fail
  refine (heldGt_any q _ _ _ _ _ _ k _ H0.out.2 hk).mono ?_
  rintro e w1 ⟨rfl, hb⟩
  have H1 : Hid (Below w.heap.size w w1) := H0.out.1.trans (hb.mono H0.out.1.size)
  clear hb x0 x1 x2 x3 x4 x5 x6 x7 x8 x9 x10 x11 x12 x13
  go_wp2
  go_ret
  exact ⟨rfl, H1.out⟩
end Go.Proofs.YtkgkahlhekecmaaGreat
namespace Go.Proofs.YtkgkahlhekecmaaGreat
open Go.ChangeShapes Go.WideShapes Go.ChangeAt Go.RowKit
theorem bx10 {W : World} {b t : Nat} {x0 x1 x2 x3 x4 x5 x6 x7 x8 x9 : Value} (h : W.heap[b]? = some (.cells #[x0, x1, x2, x3, x4, x5, x6, x7, x8, x9] t)) : W.cell? ⟨b, 0, none⟩ = some x0 ∧ W.cell? ⟨b, 1, none⟩ = some x1 ∧ W.cell? ⟨b, 2, none⟩ = some x2 ∧ W.cell? ⟨b, 3, none⟩ = some x3 ∧ W.cell? ⟨b, 4, none⟩ = some x4 ∧ W.cell? ⟨b, 5, none⟩ = some x5 ∧ W.cell? ⟨b, 6, none⟩ = some x6 ∧ W.cell? ⟨b, 7, none⟩ = some x7 ∧ W.cell? ⟨b, 8, none⟩ = some x8 ∧ W.cell? ⟨b, 9, none⟩ = some x9 := by
  refine ⟨?_, ?_, ?_, ?_, ?_, ?_, ?_, ?_, ?_, ?_⟩ <;> simp [World.cell?, h]
theorem st10_0 {W : World} {b t : Nat} {x0 x1 x2 x3 x4 x5 x6 x7 x8 x9 : Value} (y : Value) (h : W.heap[b]? = some (.cells #[x0, x1, x2, x3, x4, x5, x6, x7, x8, x9] t)) : (W.setCell ⟨b, 0, none⟩ y).heap[b]? = some (.cells #[y, x1, x2, x3, x4, x5, x6, x7, x8, x9] t) := by
  simp [World.setCell, Array.getElem?_modify, h]
set_option maxHeartbeats 4000000 in
theorem keeperOf_any (g : Gat) (up uc us ul ud uo : Value) (w : World) (h : RGt w up uc us ul ud uo g) (hP : BdGt 1048576 g) :
    Calls Tryz.prog 31 #[.agg #[.string g.name, .int .i64 g.day, up, uc, us, ul, ud, uo]] w fun e w' => ∃ P0 P1 C0 C1 S0 S1 L0 L1 D0 D1 O0 O1 qs bc bs bl bd bo w2, e = .returned (.pointer (some ⟨w2.heap.size, 0, none⟩)) ∧ w' = w2.alloc (.cells #[.int .i32 0, .int .u32 0, .string g.name, .int .i64 g.day, (.slice P0 qs.length P1), (.slice C0 g.crss.length C1), (.slice S0 g.book.stocks.length S1), (.slice L0 g.book.lines.length L1), (.slice D0 g.dffs.length D1), (.slice O0 g.outs.length O1)] 123) ∧ OGt w.heap.size w2 (.slice P0 qs.length P1) (.slice C0 g.crss.length C1) (.slice S0 g.book.stocks.length S1) (.slice L0 g.book.lines.length L1) (.slice D0 g.dffs.length D1) (.slice O0 g.outs.length O1) g qs bc bs bl bd bo ∧ Below w.heap.size w w2 := by
  obtain ⟨a0, c0, a1, c1, a2, c2, a3, c3, a4, c4, a5, c5, rfl, rfl, rfl, rfl, rfl, rfl⟩ := h.val
  obtain ⟨W0, hW0⟩ : ∃ W0, w.alloc (.cells #[.string g.name, .int .i64 g.day, (.slice a0 g.ptns.length c0), (.slice a1 g.crss.length c1), (.slice a2 g.book.stocks.length c2), (.slice a3 g.book.lines.length c3), (.slice a4 g.dffs.length c4), (.slice a5 g.outs.length c5)] 42) = W0 := ⟨_, rfl⟩
  have hb0 : Below w.heap.size w W0 := by rw [← hW0]; exact (Below.refl _ _).alloc (Nat.le_refl _) _
  have hx0 : W0.heap[w.heap.size]? = some (.cells #[.string g.name, .int .i64 g.day, (.slice a0 g.ptns.length c0), (.slice a1 g.crss.length c1), (.slice a2 g.book.stocks.length c2), (.slice a3 g.book.lines.length c3), (.slice a4 g.dffs.length c4), (.slice a5 g.outs.length c5)] 42) := by rw [← hW0]; exact World.alloc_heap_new _ _
  have H0 : Hid (Below w.heap.size w W0 ∧ RGt W0 (.slice a0 g.ptns.length c0) (.slice a1 g.crss.length c1) (.slice a2 g.book.stocks.length c2) (.slice a3 g.book.lines.length c3) (.slice a4 g.dffs.length c4) (.slice a5 g.outs.length c5) g ∧ W0.heap[w.heap.size]? = some (.cells #[.string g.name, .int .i64 g.day, (.slice a0 g.ptns.length c0), (.slice a1 g.crss.length c1), (.slice a2 g.book.stocks.length c2), (.slice a3 g.book.lines.length c3), (.slice a4 g.dffs.length c4), (.slice a5 g.outs.length c5)] 42) ∧ BdGt 1048576 g) := ⟨hb0, h.below hb0, hx0, hP⟩
  clear h hb0 hx0 hP
  go_enter Tryz.func31, Tryz.ntmps31
  go_upto_region 1 with fail
  try rw [hW0]
  clear hW0
  obtain ⟨x0, x1, x2, x3, x4, x5, x6, x7⟩ := bx8 H0.out.2.2.1
  go_wp2_with fail
  refine (copyGt_any g _ _ _ _ _ _ _ H0.out.2.1 H0.out.2.2.2).mono ?_
  rintro e w2 ⟨P0, P1, C0, C1, S0, S1, L0, L1, D0, D1, O0, O1, qs, bc, bs, bl, bd, bo, rfl, hO, hb⟩
  have H2 : Hid (OGt w.heap.size w2 (.slice P0 qs.length P1) (.slice C0 g.crss.length C1) (.slice S0 g.book.stocks.length S1) (.slice L0 g.book.lines.length L1) (.slice D0 g.dffs.length D1) (.slice O0 g.outs.length O1) g qs bc bs bl bd bo ∧ Below w.heap.size w w2) := ⟨hO.down H0.out.1.size, H0.out.1.trans (hb.mono H0.out.1.size)⟩
  clear hO hb H0 x0 x1 x2 x3 x4 x5 x6 x7
  go_wp2
  go_ret
  exact ⟨_, _, _, _, _, _, _, _, _, _, _, _, _, bc, bs, bl, bd, bo, w2, rfl, rfl, H2.out.1, H2.out.2⟩
end Go.Proofs.YtkgkahlhekecmaaGreat
namespace Go.Proofs.YtkgkahlhekecmaaGreat
open Go.ChangeShapes Go.WideShapes Go.ChangeAt Go.RowKit
/-- What PartnerNew tells. -/
def newP (t : ByteArray) : Ptn := if nameB t then ⟨t, 1, 1, []⟩ else ⟨⟨#[]⟩, 0, 0, []⟩
theorem newP_seen (t : ByteArray) : (newP t).seen = [] := by
  unfold newP
  split <;> rfl
theorem newP_size (t : ByteArray) : (newP t).name.size ≤ 12 := by
  unfold newP
  split
  · rename_i h
    dsimp only
    simp only [nameB, Bool.and_eq_true, decide_eq_true_eq] at h
    omega
  · show (0 : Nat) ≤ 12
    omega
theorem nameB_le {t : ByteArray} (h : nameB t = true) : t.size ≤ 12 := by
  simp only [nameB, Bool.and_eq_true, decide_eq_true_eq] at h
  omega
theorem newP_row (t : ByteArray) (W : World) : RPt W (.slice none 0 0) (newP t) := by
  refine ⟨?_, ?_⟩
  · rw [newP_seen]
    exact RowSn.nil W
  · have := newP_size t
    omega
set_option maxHeartbeats 2000000 in
theorem ptNew_impl (t : ByteArray) (w : World) : Calls Tryz.prog 72 #[.string t] w fun e w' => e = .returned (.agg #[.string (newP t).name, .int .i64 (newP t).low, .int .i64 (newP t).next, .slice none 0 0]) ∧ Below w.heap.size w w' := by
  go_enter Tryz.func72, Tryz.ntmps72
  go_wp2_with fail
  refine (isName_any t _).mono ?_
  rintro e w1 ⟨rfl, rfl⟩
  cases hn : nameB t
  · go_wp2
    exact bodyPost_ret (v := .agg #[.string ⟨#[]⟩, .int .i64 0, .int .i64 0, .slice none 0 0]) (by simp [results, Tryz.results72, go_sem]) rfl ⟨by simp [newP, hn], (Below.refl _ _).alloc (Nat.le_refl _) _⟩
  · have hs := nameB_le hn
    go_wp2_with fail
    have b0 : Below w.heap.size w (w.alloc (.cells #[.string ⟨#[]⟩, .int .i64 0, .int .i64 0, .slice none 0 0] 63)) := (Below.refl _ _).alloc (Nat.le_refl _) _
    refine (clone_any t _ (by omega)).mono ?_
    rintro e w2 ⟨rfl, hb2⟩
    have blk : w2.heap[w.heap.size]? = some (.cells #[.string ⟨#[]⟩, .int .i64 0, .int .i64 0, .slice none 0 0] 63) := (hb2.block _ (by simp)).trans (World.alloc_heap_new _ _)
    have c0 : w2.cell? ⟨w.heap.size, 0, none⟩ = some (.string ⟨#[]⟩) := by simp [World.cell?, blk]
    have c1 : w2.cell? ⟨w.heap.size, 1, none⟩ = some (.int .i64 0) := by simp [World.cell?, blk]
    have c2 : w2.cell? ⟨w.heap.size, 2, none⟩ = some (.int .i64 0) := by simp [World.cell?, blk]
    have c3 : w2.cell? ⟨w.heap.size, 3, none⟩ = some (.slice none 0 0) := by simp [World.cell?, blk]
    have z : ∀ o, w2.frozen? ⟨w.heap.size, o, none⟩ = false := fun o => by simp [World.frozen?, blk]
    have HB : Hid (Below w.heap.size w w2) := b0.trans (hb2.mono (by simp))
    clear hb2 blk b0
    go_wp2
    exact bodyPost_ret (v := .agg #[.string t, .int .i64 1, .int .i64 1, .slice none 0 0]) (by simp [results, Tryz.results72, go_sem, c0, c1, c2, c3]) rfl ⟨by simp [newP, hn], (((HB.out.setCell (Nat.le_refl _) _).setCell (Nat.le_refl _) _).setCell (Nat.le_refl _) _).setCell (Nat.le_refl _) _⟩
set_option maxHeartbeats 2000000 in
theorem ptNew_spec (t : ByteArray) (w : World) : Calls Tryz.prog 22 #[.string t] w fun e w' => e = .returned (.agg #[.string (newP t).name, .int .i64 (newP t).low, .int .i64 (newP t).next, .slice none 0 0]) ∧ Below w.heap.size w w' := by
  go_enter Tryz.func22, Tryz.ntmps22
  go_wp2_with fail
  refine (l01Name_any t _).mono ?_
  rintro e w1 ⟨rfl, rfl⟩
  cases hn : nameB t
  · go_wp2
    exact bodyPost_ret (v := .agg #[.string ⟨#[]⟩, .int .i64 0, .int .i64 0, .slice none 0 0]) (by simp [results, Tryz.results22, go_sem]) rfl ⟨by simp [newP, hn], (Below.refl _ _).alloc (Nat.le_refl _) _⟩
  · go_wp2
    exact bodyPost_ret (v := .agg #[.string t, .int .i64 1, .int .i64 1, .slice none 0 0]) (by simp [results, Tryz.results22, go_sem]) rfl ⟨by simp [newP, hn], (Below.refl _ _).alloc (Nat.le_refl _) _⟩
end Go.Proofs.YtkgkahlhekecmaaGreat
namespace Go.Proofs.YtkgkahlhekecmaaGreat
open Go.ChangeShapes Go.WideShapes Go.ChangeAt Go.RowKit
abbrev muLink : Go.Conc.Locks.MuLink := { lock := 68, unlock := 69, ilock := 111, iunlock := 112, lockSlow := 145, unlockSlow := 148, disable := 141, enable := 143, acquire := 144, relMerge := 146, cas32 := 142, add32 := 147, tMutex := 121, tIMutex := 119, tPMutex := 166, tPIMutex := 191, tPI32 := 193, tUP := 195, tNoCopy := 116, tU32 := 117 }
theorem muLib : Go.Conc.Locks.MuLib Tryz.prog muLink :=
  ⟨Tryz.func68, Tryz.func69, Tryz.func111, Tryz.func112, Tryz.func141, Tryz.func143, Tryz.func144, Tryz.func146, Tryz.func142, Tryz.func147, Tryz.underlying119, Tryz.runUnderlying119, Tryz.sizeOf119, Tryz.isAgg119, Tryz.zeroValue119, Tryz.underlying121, Tryz.runUnderlying121, Tryz.sizeOf121, Tryz.isAgg121, Tryz.zeroValue121, Tryz.underlying166, Tryz.runUnderlying166, Tryz.sizeOf166, Tryz.isAgg166, Tryz.zeroValue166, Tryz.underlying191, Tryz.runUnderlying191, Tryz.sizeOf191, Tryz.isAgg191, Tryz.zeroValue191, Tryz.underlying193, Tryz.runUnderlying193, Tryz.sizeOf193, Tryz.isAgg193, Tryz.zeroValue193, Tryz.underlying195, Tryz.runUnderlying195, Tryz.sizeOf195, Tryz.isAgg195, Tryz.zeroValue195, Tryz.underlying116, Tryz.runUnderlying116, Tryz.sizeOf116, Tryz.isAgg116, Tryz.zeroValue116, Tryz.underlying21, Tryz.runUnderlying21, Tryz.sizeOf21, Tryz.isAgg21, Tryz.zeroValue21, (by kernel_rfl)⟩
end Go.Proofs.YtkgkahlhekecmaaGreat
