/- Texts of ours put together: MkGt, GtO, AppSn, OwnD. -/
import Derived.Test.YtagajindaipaeaaGreatG16
import Derived.Test.YtagajindaipaeaaGreatG08
import Derived.Test.YtagajindaipaeaaGreatG00
import Derived.Laws.AppendOwn
import Derived.Maps.AppendAt
namespace Go.Proofs.YtagajindaipaeaaGreat
open Go.ChangeShapes Go.WideShapes Go.ChangeAt Go.RowKit
set_option maxRecDepth 20000 in
set_option maxHeartbeats 8000000 in
theorem markGt_any (g : Gat) (up uc us ul ud uo : Value) (b : Nat) (f : Nat → Value) (β : Nat → Nat) (bc bs bl bd bo : Nat) (k : Nat) (w : World) (h : LGt w up uc us ul ud uo g b f β bc bs bl bd bo) (hk : 0 < k ∧ k + cntG g < 100000000000) :
    Calls Tryz.prog 12 #[.agg #[.string g.name, .int .i64 g.day, up, uc, us, ul, ud, uo], .int .i64 (k : Int)] w fun e w' => e = .returned (.int .i64 ((k + cntG g : Nat) : Int)) ∧ LGt w' up uc us ul ud uo (mkG k g) b f β bc bs bl bd bo ∧ KeepP (blkG g b β bc bs bl bd bo) w w' := by
  obtain ⟨a0, c0, a1, c1, a2, c2, a3, c3, a4, c4, a5, c5, rfl, rfl, rfl, rfl, rfl, rfl⟩ := h.row.val
  obtain ⟨W0, hW0⟩ : ∃ W0, w.alloc (.cells #[.string g.name, .int .i64 g.day, (.slice a0 g.ptns.length c0), (.slice a1 g.crss.length c1), (.slice a2 g.book.stocks.length c2), (.slice a3 g.book.lines.length c3), (.slice a4 g.dffs.length c4), (.slice a5 g.outs.length c5)] 42) = W0 := ⟨_, rfl⟩
  have hb0 : Below w.heap.size w W0 := by rw [← hW0]; exact (Below.refl _ _).alloc (Nat.le_refl _) _
  have hx0 : W0.heap[w.heap.size]? = some (.cells #[.string g.name, .int .i64 g.day, (.slice a0 g.ptns.length c0), (.slice a1 g.crss.length c1), (.slice a2 g.book.stocks.length c2), (.slice a3 g.book.lines.length c3), (.slice a4 g.dffs.length c4), (.slice a5 g.outs.length c5)] 42) := by rw [← hW0]; exact World.alloc_heap_new _ _
  have h0 := h.below hb0
  have H0 : Hid (KeepP (blkG g b β bc bs bl bd bo) w W0 ∧ W0.heap[w.heap.size]? = some (.cells #[.string g.name, .int .i64 g.day, (.slice a0 g.ptns.length c0), (.slice a1 g.crss.length c1), (.slice a2 g.book.stocks.length c2), (.slice a3 g.book.lines.length c3), (.slice a4 g.dffs.length c4), (.slice a5 g.outs.length c5)] 42) ∧ LPt W0 (.slice a0 g.ptns.length c0) g.ptns b f β ∧ LCs bc W0 (.slice a1 g.crss.length c1) g.crss ∧ LSt bs W0 (.slice a2 g.book.stocks.length c2) g.book.stocks ∧ LOl bl W0 (.slice a3 g.book.lines.length c3) g.book.lines ∧ LDf bd W0 (.slice a4 g.dffs.length c4) g.dffs ∧ LOu bo W0 (.slice a5 g.outs.length c5) g.outs) := ⟨KeepP.of_below hb0, hx0, h0.pt, h0.cs, h0.st, h0.ln, h0.df, h0.ou⟩
  have HN : Hid (¬ blkG g b β bc bs bl bd bo w.heap.size ∧ g.name.size ≤ 9223372036854775807) := ⟨fun hs => by have := h.lt hs; omega, h.nm⟩
  unfold cntG at hk
  obtain ⟨k1, hk1⟩ : ∃ k1, k1 = k + cntP g.ptns := ⟨_, rfl⟩
  obtain ⟨k2, hk2⟩ : ∃ k2, k2 = k1 + g.crss.length * 3 := ⟨_, rfl⟩
  obtain ⟨k3, hk3⟩ : ∃ k3, k3 = k2 + g.book.stocks.length * 2 + g.book.lines.length * 8 := ⟨_, rfl⟩
  obtain ⟨k4, hk4⟩ : ∃ k4, k4 = k3 + g.dffs.length * 6 := ⟨_, rfl⟩
  obtain ⟨k5, hk5⟩ : ∃ k5, k5 = k4 + g.outs.length * 5 := ⟨_, rfl⟩
  have hq1 : 0 < k ∧ k + cntP g.ptns < 1000000000000 := by omega
  have hq2 : 0 < k1 ∧ k1 + g.crss.length * 3 < 1000000000000 := by omega
  have hq3 : 0 < k2 ∧ k2 + g.book.stocks.length * 2 + g.book.lines.length * 8 < 100000000000 := by omega
  have hq4 : 0 < k3 ∧ k3 + g.dffs.length * 6 < 1000000000000 := by omega
  have hq5 : 0 < k4 ∧ k4 + g.outs.length * 5 < 1000000000000 := by omega
  have HQ : Hid (k1 = k + cntP g.ptns ∧ k2 = k1 + g.crss.length * 3 ∧ k3 = k2 + g.book.stocks.length * 2 + g.book.lines.length * 8 ∧ k4 = k3 + g.dffs.length * 6 ∧ k5 = k4 + g.outs.length * 5) := ⟨hk1, hk2, hk3, hk4, hk5⟩
  clear h hb0 hx0 h0 hk1 hk2 hk3 hk4 hk5 hk
  go_enter Tryz.func12, Tryz.ntmps12
  go_upto_region 1 with fail
  try rw [hW0]
  clear hW0
  obtain ⟨x0, x1, x2, x3, x4, x5, x6, x7⟩ := bx8 H0.out.2.1
  go_wp2_with fail
  refine (markPts_any _ g.ptns b f β k _ H0.out.2.2.1 hq1).mono ?_
  rintro e w1 ⟨rfl, hL, hkp⟩
  have hkg : KeepP (blkG g b β bc bs bl bd bo) W0 w1 := KeepP.mono hkp (fun _ h => .inl h)
  have H1 : Hid (KeepP (blkG g b β bc bs bl bd bo) w w1 ∧ w1.heap[w.heap.size]? = some (.cells #[.string g.name, .int .i64 g.day, (.slice a0 g.ptns.length c0), (.slice a1 g.crss.length c1), (.slice a2 g.book.stocks.length c2), (.slice a3 g.book.lines.length c3), (.slice a4 g.dffs.length c4), (.slice a5 g.outs.length c5)] 42) ∧ LPt w1 (.slice a0 g.ptns.length c0) (mkPts k g.ptns) b f β ∧ LCs bc w1 (.slice a1 g.crss.length c1) g.crss ∧ LSt bs w1 (.slice a2 g.book.stocks.length c2) g.book.stocks ∧ LOl bl w1 (.slice a3 g.book.lines.length c3) g.book.lines ∧ LDf bd w1 (.slice a4 g.dffs.length c4) g.dffs ∧ LOu bo w1 (.slice a5 g.outs.length c5) g.outs) := ⟨H0.out.1.trans hkg, (hkg.block _ (Array.getElem?_eq_some_iff.1 H0.out.2.1).1 HN.out.1).trans H0.out.2.1, hL, H0.out.2.2.2.1.kp hkp (H0.out.2.2.1.typ (by decide) (by decide)), H0.out.2.2.2.2.1.kp hkp (H0.out.2.2.1.typ (by decide) (by decide)), H0.out.2.2.2.2.2.1.kp hkp (H0.out.2.2.1.typ (by decide) (by decide)), H0.out.2.2.2.2.2.2.1.kp hkp (H0.out.2.2.1.typ (by decide) (by decide)), H0.out.2.2.2.2.2.2.2.kp hkp (H0.out.2.2.1.typ (by decide) (by decide))⟩
  clear hL hkp hkg x0 x1 x2 x3 x4 x5 x6 x7 H0
  rw [← HQ.out.1]
  obtain ⟨x0, x1, x2, x3, x4, x5, x6, x7⟩ := bx8 H1.out.2.1
  go_wp2_with fail
  refine (markCs_k bc _ g.crss k1 _ H1.out.2.2.2.1 hq2).mono ?_
  rintro e w2 ⟨rfl, hL, hkp⟩
  have hkg : KeepP (blkG g b β bc bs bl bd bo) w1 w2 := KeepP.mono hkp (fun _ h => .inr (.inl h))
  have H2 : Hid (KeepP (blkG g b β bc bs bl bd bo) w w2 ∧ w2.heap[w.heap.size]? = some (.cells #[.string g.name, .int .i64 g.day, (.slice a0 g.ptns.length c0), (.slice a1 g.crss.length c1), (.slice a2 g.book.stocks.length c2), (.slice a3 g.book.lines.length c3), (.slice a4 g.dffs.length c4), (.slice a5 g.outs.length c5)] 42) ∧ LPt w2 (.slice a0 g.ptns.length c0) (mkPts k g.ptns) b f β ∧ LCs bc w2 (.slice a1 g.crss.length c1) (mkCss k1 g.crss.length) ∧ LSt bs w2 (.slice a2 g.book.stocks.length c2) g.book.stocks ∧ LOl bl w2 (.slice a3 g.book.lines.length c3) g.book.lines ∧ LDf bd w2 (.slice a4 g.dffs.length c4) g.dffs ∧ LOu bo w2 (.slice a5 g.outs.length c5) g.outs) := ⟨H1.out.1.trans hkg, (hkg.block _ (Array.getElem?_eq_some_iff.1 H1.out.2.1).1 HN.out.1).trans H1.out.2.1, H1.out.2.2.1.kp hkp (H1.out.2.2.2.1.typ (by decide)) (H1.out.2.2.2.1.typ (by decide)), hL, H1.out.2.2.2.2.1.kp hkp (H1.out.2.2.2.1.typ (by decide)), H1.out.2.2.2.2.2.1.kp hkp (H1.out.2.2.2.1.typ (by decide)), H1.out.2.2.2.2.2.2.1.kp hkp (H1.out.2.2.2.1.typ (by decide)), H1.out.2.2.2.2.2.2.2.kp hkp (H1.out.2.2.2.1.typ (by decide))⟩
  clear hL hkp hkg x0 x1 x2 x3 x4 x5 x6 x7 H1
  rw [← HQ.out.2.1]
  obtain ⟨x0, x1, x2, x3, x4, x5, x6, x7⟩ := bx8 H2.out.2.1
  go_wp2_with fail
  refine (markBkG_any bs bl _ _ g.book k2 _ H2.out.2.2.2.2.1 H2.out.2.2.2.2.2.1 hq3).mono ?_
  rintro e w3 ⟨rfl, hL, hL2, hkp⟩
  have hkg : KeepP (blkG g b β bc bs bl bd bo) w2 w3 := KeepP.mono hkp (fun _ h => h.elim (fun h => .inr (.inr (.inl h))) (fun h => .inr (.inr (.inr (.inl h)))))
  have H3 : Hid (KeepP (blkG g b β bc bs bl bd bo) w w3 ∧ w3.heap[w.heap.size]? = some (.cells #[.string g.name, .int .i64 g.day, (.slice a0 g.ptns.length c0), (.slice a1 g.crss.length c1), (.slice a2 g.book.stocks.length c2), (.slice a3 g.book.lines.length c3), (.slice a4 g.dffs.length c4), (.slice a5 g.outs.length c5)] 42) ∧ LPt w3 (.slice a0 g.ptns.length c0) (mkPts k g.ptns) b f β ∧ LCs bc w3 (.slice a1 g.crss.length c1) (mkCss k1 g.crss.length) ∧ LSt bs w3 (.slice a2 g.book.stocks.length c2) (mkBk k2 g.book).stocks ∧ LOl bl w3 (.slice a3 g.book.lines.length c3) (mkBk k2 g.book).lines ∧ LDf bd w3 (.slice a4 g.dffs.length c4) g.dffs ∧ LOu bo w3 (.slice a5 g.outs.length c5) g.outs) := ⟨H2.out.1.trans hkg, (hkg.block _ (Array.getElem?_eq_some_iff.1 H2.out.2.1).1 HN.out.1).trans H2.out.2.1, H2.out.2.2.1.kp hkp (fun j hj => hj.elim (H2.out.2.2.2.2.1.typ (by decide) j) (H2.out.2.2.2.2.2.1.typ (by decide) j)) (fun j hj => hj.elim (H2.out.2.2.2.2.1.typ (by decide) j) (H2.out.2.2.2.2.2.1.typ (by decide) j)), H2.out.2.2.2.1.kp hkp (fun j hj => hj.elim (H2.out.2.2.2.2.1.typ (by decide) j) (H2.out.2.2.2.2.2.1.typ (by decide) j)), hL, hL2, H2.out.2.2.2.2.2.2.1.kp hkp (fun j hj => hj.elim (H2.out.2.2.2.2.1.typ (by decide) j) (H2.out.2.2.2.2.2.1.typ (by decide) j)), H2.out.2.2.2.2.2.2.2.kp hkp (fun j hj => hj.elim (H2.out.2.2.2.2.1.typ (by decide) j) (H2.out.2.2.2.2.2.1.typ (by decide) j))⟩
  clear hL hL2 hkp hkg x0 x1 x2 x3 x4 x5 x6 x7 H2
  rw [← HQ.out.2.2.1]
  obtain ⟨x0, x1, x2, x3, x4, x5, x6, x7⟩ := bx8 H3.out.2.1
  go_wp2_with fail
  refine (markDf_k bd _ g.dffs k3 _ H3.out.2.2.2.2.2.2.1 hq4).mono ?_
  rintro e w4 ⟨rfl, hL, hkp⟩
  have hkg : KeepP (blkG g b β bc bs bl bd bo) w3 w4 := KeepP.mono hkp (fun _ h => .inr (.inr (.inr (.inr (.inl h)))))
  have H4 : Hid (KeepP (blkG g b β bc bs bl bd bo) w w4 ∧ w4.heap[w.heap.size]? = some (.cells #[.string g.name, .int .i64 g.day, (.slice a0 g.ptns.length c0), (.slice a1 g.crss.length c1), (.slice a2 g.book.stocks.length c2), (.slice a3 g.book.lines.length c3), (.slice a4 g.dffs.length c4), (.slice a5 g.outs.length c5)] 42) ∧ LPt w4 (.slice a0 g.ptns.length c0) (mkPts k g.ptns) b f β ∧ LCs bc w4 (.slice a1 g.crss.length c1) (mkCss k1 g.crss.length) ∧ LSt bs w4 (.slice a2 g.book.stocks.length c2) (mkBk k2 g.book).stocks ∧ LOl bl w4 (.slice a3 g.book.lines.length c3) (mkBk k2 g.book).lines ∧ LDf bd w4 (.slice a4 g.dffs.length c4) (mkDfs k3 g.dffs.length) ∧ LOu bo w4 (.slice a5 g.outs.length c5) g.outs) := ⟨H3.out.1.trans hkg, (hkg.block _ (Array.getElem?_eq_some_iff.1 H3.out.2.1).1 HN.out.1).trans H3.out.2.1, H3.out.2.2.1.kp hkp (H3.out.2.2.2.2.2.2.1.typ (by decide)) (H3.out.2.2.2.2.2.2.1.typ (by decide)), H3.out.2.2.2.1.kp hkp (H3.out.2.2.2.2.2.2.1.typ (by decide)), H3.out.2.2.2.2.1.kp hkp (H3.out.2.2.2.2.2.2.1.typ (by decide)), H3.out.2.2.2.2.2.1.kp hkp (H3.out.2.2.2.2.2.2.1.typ (by decide)), hL, H3.out.2.2.2.2.2.2.2.kp hkp (H3.out.2.2.2.2.2.2.1.typ (by decide))⟩
  clear hL hkp hkg x0 x1 x2 x3 x4 x5 x6 x7 H3
  rw [← HQ.out.2.2.2.1]
  obtain ⟨x0, x1, x2, x3, x4, x5, x6, x7⟩ := bx8 H4.out.2.1
  go_wp2_with fail
  refine (markOu_k bo _ g.outs k4 _ H4.out.2.2.2.2.2.2.2 hq5).mono ?_
  rintro e w5 ⟨rfl, hL, hkp⟩
  have hkg : KeepP (blkG g b β bc bs bl bd bo) w4 w5 := KeepP.mono hkp (fun _ h => .inr (.inr (.inr (.inr (.inr h)))))
  have H5 : Hid (KeepP (blkG g b β bc bs bl bd bo) w w5 ∧ w5.heap[w.heap.size]? = some (.cells #[.string g.name, .int .i64 g.day, (.slice a0 g.ptns.length c0), (.slice a1 g.crss.length c1), (.slice a2 g.book.stocks.length c2), (.slice a3 g.book.lines.length c3), (.slice a4 g.dffs.length c4), (.slice a5 g.outs.length c5)] 42) ∧ LPt w5 (.slice a0 g.ptns.length c0) (mkPts k g.ptns) b f β ∧ LCs bc w5 (.slice a1 g.crss.length c1) (mkCss k1 g.crss.length) ∧ LSt bs w5 (.slice a2 g.book.stocks.length c2) (mkBk k2 g.book).stocks ∧ LOl bl w5 (.slice a3 g.book.lines.length c3) (mkBk k2 g.book).lines ∧ LDf bd w5 (.slice a4 g.dffs.length c4) (mkDfs k3 g.dffs.length) ∧ LOu bo w5 (.slice a5 g.outs.length c5) (mkOus k4 g.outs.length)) := ⟨H4.out.1.trans hkg, (hkg.block _ (Array.getElem?_eq_some_iff.1 H4.out.2.1).1 HN.out.1).trans H4.out.2.1, H4.out.2.2.1.kp hkp (H4.out.2.2.2.2.2.2.2.typ (by decide)) (H4.out.2.2.2.2.2.2.2.typ (by decide)), H4.out.2.2.2.1.kp hkp (H4.out.2.2.2.2.2.2.2.typ (by decide)), H4.out.2.2.2.2.1.kp hkp (H4.out.2.2.2.2.2.2.2.typ (by decide)), H4.out.2.2.2.2.2.1.kp hkp (H4.out.2.2.2.2.2.2.2.typ (by decide)), H4.out.2.2.2.2.2.2.1.kp hkp (H4.out.2.2.2.2.2.2.2.typ (by decide)), hL⟩
  clear hL hkp hkg x0 x1 x2 x3 x4 x5 x6 x7 H4
  rw [← HQ.out.2.2.2.2]
  go_wp2
  go_ret
  have e := HQ.out
  obtain ⟨e1, e2, e3, e4, e5⟩ := e
  have E5 : k + cntG g = k5 := by unfold cntG; omega
  have hG : mkG k g = ⟨g.name, g.day, mkPts k g.ptns, mkCss k1 g.crss.length, mkBk k2 g.book, mkDfs k3 g.dffs.length, mkOus k4 g.outs.length⟩ := by
    rw [e4, e3, e2, e1]
    rfl
  refine ⟨by rw [E5]; rfl, ?_, H5.out.1⟩
  rw [hG]
  exact ⟨HN.out.2, H5.out.2.2.1, H5.out.2.2.2.1, H5.out.2.2.2.2.1, H5.out.2.2.2.2.2.1, H5.out.2.2.2.2.2.2.1, H5.out.2.2.2.2.2.2.2⟩
set_option maxRecDepth 20000 in
set_option maxHeartbeats 8000000 in
theorem heldGt_any (g : Gat) (up uc us ul ud uo : Value) (k : Nat) (w : World) (h : RGt w up uc us ul ud uo (mkG k g)) (hk : 0 < k ∧ k + cntG g < 100000000000) :
    Calls Tryz.prog 22 #[.agg #[.string g.name, .int .i64 g.day, up, uc, us, ul, ud, uo], .int .i64 (k : Int)] w fun e w' => e = .returned (.int .i64 ((k + cntG g : Nat) : Int)) ∧ Below w.heap.size w w' := by
  unfold cntG at hk
  obtain ⟨k1, hk1⟩ : ∃ k1, k1 = k + cntP g.ptns := ⟨_, rfl⟩
  obtain ⟨k2, hk2⟩ : ∃ k2, k2 = k1 + g.crss.length * 3 := ⟨_, rfl⟩
  obtain ⟨k3, hk3⟩ : ∃ k3, k3 = k2 + g.book.stocks.length * 2 + g.book.lines.length * 8 := ⟨_, rfl⟩
  obtain ⟨k4, hk4⟩ : ∃ k4, k4 = k3 + g.dffs.length * 6 := ⟨_, rfl⟩
  obtain ⟨k5, hk5⟩ : ∃ k5, k5 = k4 + g.outs.length * 5 := ⟨_, rfl⟩
  have hG : mkG k g = ⟨g.name, g.day, mkPts k g.ptns, mkCss k1 g.crss.length, mkBk k2 g.book, mkDfs k3 g.dffs.length, mkOus k4 g.outs.length⟩ := by
    rw [hk4, hk3, hk2, hk1]
    rfl
  rw [hG] at h
  obtain ⟨q, hq⟩ : ∃ q : Gat, q = ⟨g.name, g.day, mkPts k g.ptns, mkCss k1 g.crss.length, mkBk k2 g.book, mkDfs k3 g.dffs.length, mkOus k4 g.outs.length⟩ := ⟨_, rfl⟩
  obtain ⟨a0, c0, a1, c1, a2, c2, a3, c3, a4, c4, a5, c5, e0, e1, e2, e3, e4, e5⟩ := h.val
  dsimp only at e0 e1 e2 e3 e4 e5
  rw [mkPts_len] at e0
  rw [mkCss_len] at e1
  rw [show (mkBk k2 g.book).stocks.length = g.book.stocks.length from mkSts_len _ _] at e2
  rw [show (mkBk k2 g.book).lines.length = g.book.lines.length from mkOls_len _ _] at e3
  rw [mkDfs_len] at e4
  rw [mkOus_len] at e5
  subst e0 e1 e2 e3 e4 e5
  obtain ⟨W0, hW0⟩ : ∃ W0, w.alloc (.cells #[.string g.name, .int .i64 g.day, (.slice a0 g.ptns.length c0), (.slice a1 g.crss.length c1), (.slice a2 g.book.stocks.length c2), (.slice a3 g.book.lines.length c3), (.slice a4 g.dffs.length c4), (.slice a5 g.outs.length c5)] 42) = W0 := ⟨_, rfl⟩
  have hb0 : Below w.heap.size w W0 := by rw [← hW0]; exact (Below.refl _ _).alloc (Nat.le_refl _) _
  have hx0 : W0.heap[w.heap.size]? = some (.cells #[.string g.name, .int .i64 g.day, (.slice a0 g.ptns.length c0), (.slice a1 g.crss.length c1), (.slice a2 g.book.stocks.length c2), (.slice a3 g.book.lines.length c3), (.slice a4 g.dffs.length c4), (.slice a5 g.outs.length c5)] 42) := by rw [← hW0]; exact World.alloc_heap_new _ _
  have h0 := h.below hb0
  have QP : Hid (∀ W, Below W0.heap.size W0 W → RowPt W (.slice a0 g.ptns.length c0) (mkPts k g.ptns)) := fun W hW => h0.pt.below hW
  have QC : Hid (∀ W, Below W0.heap.size W0 W → RowCs W (.slice a1 g.crss.length c1) (mkCss k1 g.crss.length)) := fun W hW => h0.cs.below hW
  have QB : Hid (∀ W, Below W0.heap.size W0 W → RBk W (.slice a2 g.book.stocks.length c2) (.slice a3 g.book.lines.length c3) (mkBk k2 g.book)) := fun W hW => h0.bk.below hW
  have QD : Hid (∀ W, Below W0.heap.size W0 W → RowDf W (.slice a4 g.dffs.length c4) (mkDfs k3 g.dffs.length)) := fun W hW => h0.df.below hW
  have QO : Hid (∀ W, Below W0.heap.size W0 W → RowOu W (.slice a5 g.outs.length c5) (mkOus k4 g.outs.length)) := fun W hW => h0.ou.below hW
  have HX : Hid (∀ W, Below W0.heap.size W0 W → W.heap[w.heap.size]? = some (.cells #[.string g.name, .int .i64 g.day, (.slice a0 g.ptns.length c0), (.slice a1 g.crss.length c1), (.slice a2 g.book.stocks.length c2), (.slice a3 g.book.lines.length c3), (.slice a4 g.dffs.length c4), (.slice a5 g.outs.length c5)] 42)) := fun W hW => (hW.block _ (Array.getElem?_eq_some_iff.1 hx0).1).trans hx0
  have HW : Hid (Below w.heap.size w W0) := hb0
  have hq1 : 0 < k ∧ k + cntP g.ptns < 1000000000000 := by omega
  have hq2 : 0 < k1 ∧ k1 + g.crss.length * 3 < 1000000000000 := by omega
  have hq3 : 0 < k2 ∧ k2 + g.book.stocks.length * 2 + g.book.lines.length * 8 < 100000000000 := by omega
  have hq4 : 0 < k3 ∧ k3 + g.dffs.length * 6 < 1000000000000 := by omega
  have hq5 : 0 < k4 ∧ k4 + g.outs.length * 5 < 1000000000000 := by omega
  have HQ : Hid (k1 = k + cntP g.ptns ∧ k2 = k1 + g.crss.length * 3 ∧ k3 = k2 + g.book.stocks.length * 2 + g.book.lines.length * 8 ∧ k4 = k3 + g.dffs.length * 6 ∧ k5 = k4 + g.outs.length * 5) := ⟨hk1, hk2, hk3, hk4, hk5⟩
  have H0 : Hid (Below W0.heap.size W0 W0) := Below.refl _ _
  clear h hb0 hx0 h0 hk1 hk2 hk3 hk4 hk5 hk hG hq q
  go_enter Tryz.func22, Tryz.ntmps22
  go_upto_region 1 with fail
  try rw [hW0]
  clear hW0
  obtain ⟨x0, x1, x2, x3, x4, x5, x6, x7⟩ := bx8 (HX.out _ H0.out)
  go_wp2_with fail
  refine (heldPts_any _ g.ptns k _ (QP.out _ H0.out) hq1).mono ?_
  rintro e w1 ⟨rfl, hb⟩
  have H1 : Hid (Below W0.heap.size W0 w1) := H0.out.trans (hb.mono H0.out.size)
  clear hb x0 x1 x2 x3 x4 x5 x6 x7
  rw [← HQ.out.1]
  have hn1 : ¬ (k1 : Int) < 0 := by omega
  obtain ⟨x0, x1, x2, x3, x4, x5, x6, x7⟩ := bx8 (HX.out _ H1.out)
  go_wp2_with fail
  refine (heldCs_any _ k1 g.crss.length _ (QC.out _ H1.out) hq2).mono ?_
  rintro e w2 ⟨rfl, hb⟩
  have H2 : Hid (Below W0.heap.size W0 w2) := H1.out.trans (hb.mono H1.out.size)
  clear hb x0 x1 x2 x3 x4 x5 x6 x7
  rw [← HQ.out.2.1]
  have hn2 : ¬ (k2 : Int) < 0 := by omega
  obtain ⟨x0, x1, x2, x3, x4, x5, x6, x7⟩ := bx8 (HX.out _ H2.out)
  go_wp2_with fail
  refine (heldBk_any _ _ g.book k2 _ (QB.out _ H2.out) hq3).mono ?_
  rintro e w3 ⟨rfl, hb⟩
  have H3 : Hid (Below W0.heap.size W0 w3) := H2.out.trans (hb.mono H2.out.size)
  clear hb x0 x1 x2 x3 x4 x5 x6 x7
  rw [← HQ.out.2.2.1]
  have hn3 : ¬ (k3 : Int) < 0 := by omega
  obtain ⟨x0, x1, x2, x3, x4, x5, x6, x7⟩ := bx8 (HX.out _ H3.out)
  go_wp2_with fail
  refine (heldDf_any _ k3 g.dffs.length _ (QD.out _ H3.out) hq4).mono ?_
  rintro e w4 ⟨rfl, hb⟩
  have H4 : Hid (Below W0.heap.size W0 w4) := H3.out.trans (hb.mono H3.out.size)
  clear hb x0 x1 x2 x3 x4 x5 x6 x7
  rw [← HQ.out.2.2.2.1]
  have hn4 : ¬ (k4 : Int) < 0 := by omega
  obtain ⟨x0, x1, x2, x3, x4, x5, x6, x7⟩ := bx8 (HX.out _ H4.out)
  go_wp2_with fail
  refine (heldOu_any _ k4 g.outs.length _ (QO.out _ H4.out) hq5).mono ?_
  rintro e w5 ⟨rfl, hb⟩
  have H5 : Hid (Below W0.heap.size W0 w5) := H4.out.trans (hb.mono H4.out.size)
  clear hb x0 x1 x2 x3 x4 x5 x6 x7
  rw [← HQ.out.2.2.2.2]
  have hn5 : ¬ (k5 : Int) < 0 := by omega
  go_wp2
  go_ret
  have e := HQ.out
  have E5 : k + cntG g = k5 := by unfold cntG; omega
  exact ⟨by rw [E5]; rfl, HW.out.trans (H5.out.mono HW.out.size)⟩
end Go.Proofs.YtagajindaipaeaaGreat
namespace Go.Proofs.YtagajindaipaeaaGreat
open Go.ChangeShapes Go.WideShapes Go.ChangeAt Go.RowKit
theorem lgCs {B : Nat} {W : World} {v : Value} {rs : List Crs} (h : OwnCs B W v rs) (hG : BdCs 1048576 rs) : ∃ b, B ≤ b ∧ LCs b W v rs := by
  obtain ⟨b, f, h1, h2, h3, h4⟩ := h
  have hl := hG.1
  exact ⟨b, h1, ⟨_, _, h2, fun _ => ⟨rfl, _, f, h3, Nat.le_refl _, h4⟩⟩, by omega, fun i g hi => by have := hG.2 i g hi; omega⟩
theorem lgSt {B : Nat} {W : World} {v : Value} {rs : List Stk} (h : OwnSt B W v rs) (hG : BdSt 1048576 rs) : ∃ b, B ≤ b ∧ LSt b W v rs := by
  obtain ⟨b, f, h1, h2, h3, h4⟩ := h
  have hl := hG.1
  exact ⟨b, h1, ⟨_, _, h2, fun _ => ⟨rfl, _, f, h3, Nat.le_refl _, h4⟩⟩, by omega, fun i g hi => by have := hG.2 i g hi; omega⟩
theorem lgOl {B : Nat} {W : World} {v : Value} {rs : List OLn} (h : OwnOl B W v rs) (hG : BdOl 1048576 rs) : ∃ b, B ≤ b ∧ LOl b W v rs := by
  obtain ⟨b, f, h1, h2, h3, h4⟩ := h
  have hl := hG.1
  exact ⟨b, h1, ⟨_, _, h2, fun _ => ⟨rfl, _, f, h3, Nat.le_refl _, h4⟩⟩, by omega, fun i g hi => by have := hG.2 i g hi; omega⟩
theorem lgDf {B : Nat} {W : World} {v : Value} {rs : List Dff} (h : OwnDf B W v rs) (hG : BdDf 1048576 rs) : ∃ b, B ≤ b ∧ LDf b W v rs := by
  obtain ⟨b, f, h1, h2, h3, h4⟩ := h
  have hl := hG.1
  exact ⟨b, h1, ⟨_, _, h2, fun _ => ⟨rfl, _, f, h3, Nat.le_refl _, h4⟩⟩, by omega, fun i g hi => by have := hG.2 i g hi; omega⟩
theorem lgOu {B : Nat} {W : World} {v : Value} {rs : List OutR} (h : OwnOu B W v rs) (hG : BdOu 1048576 rs) : ∃ b, B ≤ b ∧ LOu b W v rs := by
  obtain ⟨b, f, h1, h2, h3, h4⟩ := h
  have hl := hG.1
  exact ⟨b, h1, ⟨_, _, h2, fun _ => ⟨rfl, _, f, h3, Nat.le_refl _, h4⟩⟩, by omega, fun i g hi => by have := hG.2 i g hi; omega⟩
theorem lpt_of_own {B : Nat} {W : World} {v : Value} {ps : List Ptn} (h : OwnsPt B W v ps) (hG : BdsPt 1048576 ps) : ∃ b f β, LPt W v ps b f β ∧ ∀ k, blkP ps b β k → B ≤ k := by
  obtain ⟨b, f, h1, h2, h3, h4, h5⟩ := h
  have hl := hG.1
  have hsn : ∀ (i : Nat) (p : Ptn), ps[i]? = some p → LSn (blkS (f (i * 4 + 3))) W (f (i * 4 + 3)) p.seen ∧ b + 1 ≤ blkS (f (i * 4 + 3)) := fun i p hi => by
    obtain ⟨_, _, _, b', g, k1, k2, k3, k4⟩ := h4 i p hi
    have hb := (hG.2 i p hi).2
    rw [k2]
    have hb' : p.seen.length ≤ 1048576 := hb
    exact ⟨⟨⟨_, _, rfl, fun _ => ⟨rfl, _, g, k3, Nat.le_refl _, k4⟩⟩, by omega⟩, k1⟩
  refine ⟨b, fun i => f (i * 4 + 3), fun i => blkS (f (i * 4 + 3)), ⟨⟨_, _, h2, fun _ => ⟨rfl, _, f, h3, Nat.le_refl _, fun i p hi => ?_⟩⟩, fun i p hi => (hsn i p hi).1, fun i j p q hij hi hj _ _ => ?_, by omega, fun i p hi => by have := (hG.2 i p hi).1; omega⟩, fun k hk => ?_⟩
  · obtain ⟨e0, e1, e2, _⟩ := h4 i p hi
    exact ⟨e0, e1, e2, rfl⟩
  · have li := (List.getElem?_eq_some_iff.1 hi).1
    have lj := (List.getElem?_eq_some_iff.1 hj).1
    rcases Nat.lt_or_gt_of_ne hij with g | g
    · have := h5 i j g lj
      omega
    · have := h5 j i g li
      omega
  · rcases hk with ⟨rfl, _⟩ | ⟨i, p, hi, _, rfl⟩
    · exact h1
    · have := (hsn i p hi).2
      show B ≤ blkS (f (i * 4 + 3))
      omega
theorem lgt_of_own {B : Nat} {W : World} {up uc us ul ud uo : Value} {g : Gat} (hn : g.name.size ≤ 9223372036854775807) (hP : BdGt 1048576 g) (h0 : OwnsPt B W up g.ptns) (h1 : OwnCs B W uc g.crss) (h2 : OwnSt B W us g.book.stocks) (h3 : OwnOl B W ul g.book.lines) (h4 : OwnDf B W ud g.dffs) (h5 : OwnOu B W uo g.outs) :
    ∃ b f β bc bs bl bd bo, LGt W up uc us ul ud uo g b f β bc bs bl bd bo ∧ ∀ k, blkG g b β bc bs bl bd bo k → B ≤ k := by
  obtain ⟨b, f, β, k0, l0⟩ := lpt_of_own h0 hP.2.1
  obtain ⟨bc, l1, k1⟩ := lgCs h1 hP.2.2.1
  obtain ⟨bs, l2, k2⟩ := lgSt h2 hP.2.2.2.1.1
  obtain ⟨bl, l3, k3⟩ := lgOl h3 hP.2.2.2.1.2
  obtain ⟨bd, l4, k4⟩ := lgDf h4 hP.2.2.2.2.1
  obtain ⟨bo, l5, k5⟩ := lgOu h5 hP.2.2.2.2.2
  refine ⟨b, f, β, bc, bs, bl, bd, bo, ⟨hn, k0, k1, k2, k3, k4, k5⟩, fun k hk => ?_⟩
  rcases hk with hk | ⟨rfl, _⟩ | ⟨rfl, _⟩ | ⟨rfl, _⟩ | ⟨rfl, _⟩ | ⟨rfl, _⟩
  · exact l0 k hk
  all_goals assumption
theorem cntP_eq : ∀ ps : List Ptn, cntP ps = ps.length * 3 + snP ps * 3
  | [] => rfl
  | p :: r => by
    simp only [cntP, snP, List.length_cons]
    rw [cntP_eq r]
    omega
theorem cntG_le {g : Gat} (hP : BdGt 1048576 g) (hs : snP g.ptns ≤ 1048576) : 1 + cntG g < 100000000000 := by
  have h0 := hP.2.1.1
  have h1 := hP.2.2.1.1
  have h2 := hP.2.2.2.1.1.1
  have h3 := hP.2.2.2.1.2.1
  have h4 := hP.2.2.2.2.1.1
  have h5 := hP.2.2.2.2.2.1
  unfold cntG
  rw [cntP_eq]
  omega
end Go.Proofs.YtagajindaipaeaaGreat
namespace Go.Proofs.YtagajindaipaeaaGreat
open Go.ChangeShapes Go.WideShapes Go.ChangeAt Go.RowKit
theorem infoSnA : (Tryz.prog.info? 170).map (fun i => (i.zero, i.size, i.bytes)) = some (some (.agg #[.int .i64 0, .int .i64 0, .int .i64 0]), 3, 24) := by kernel_rfl
/-- Its cells, one behind the other. -/
def clSn (g : Sn) : List Value := [.int .i64 g.number, .int .i64 g.answer, .int .i64 g.code]
def clSns (rs : List Sn) : List Value := rs.flatMap clSn
theorem clSns_len (rs : List Sn) : (clSns rs).length = rs.length * 3 := by
  induction rs with
  | nil => rfl
  | cons g r ih =>
    have : clSns (g :: r) = clSn g ++ clSns r := rfl
    rw [this, List.length_append, ih, List.length_cons]
    have : (clSn g).length = 3 := rfl
    omega
theorem clSns_app (rs : List Sn) (g : Sn) : clSns (rs ++ [g]) = clSns rs ++ clSn g := by simp [clSns]
theorem clSns_at : ∀ {rs : List Sn} {i : Nat} {g : Sn}, rs[i]? = some g → (clSns rs)[i * 3]? = some (.int .i64 g.number) ∧ (clSns rs)[i * 3 + 1]? = some (.int .i64 g.answer) ∧ (clSns rs)[i * 3 + 2]? = some (.int .i64 g.code)
  | [], i, g, h => by simp at h
  | x :: r, 0, g, h => by
    simp only [List.getElem?_cons_zero, Option.some.injEq] at h
    subst h
    refine ⟨rfl, rfl, rfl⟩
  | x :: r, i + 1, g, h => by
    rw [List.getElem?_cons_succ] at h
    obtain ⟨e0, e1, e2⟩ := clSns_at h
    have hc : clSns (x :: r) = clSn x ++ clSns r := rfl
    have hl : (clSn x).length = 3 := rfl
    refine ⟨?_, ?_, ?_⟩
    · rw [hc, List.getElem?_append_right (by omega), hl, ← e0]
      congr 1
      omega
    · rw [hc, List.getElem?_append_right (by omega), hl, ← e1]
      congr 1
      omega
    · rw [hc, List.getElem?_append_right (by omega), hl, ← e2]
      congr 1
      omega
/-- A list that the call has made by appends, read. -/
theorem LSn.of_owns {W : World} {base : Nat} {v : Value} {rs : List Sn} (h : W.ownsRow base 170 3 v rs.length (clSns rs)) (hl : rs.length ≤ 9223372036854775807) : ∃ b, base ≤ b ∧ LSn b W v rs := by
  rcases h.2 with ⟨rfl, h0⟩ | ⟨b, cap, cur, rfl, hb, hh, hc, hm, hs, ht⟩
  · refine ⟨base, Nat.le_refl _, ⟨none, 0, by rw [h0], fun hn => absurd (List.eq_nil_of_length_eq_zero h0) hn⟩, hl⟩
  · refine ⟨b, hb, ⟨_, _, rfl, fun _ => ⟨rfl, cap * 3, fun i => cur[i]?.getD undef, ⟨cur, hh, hs, fun i hi => by simp [hs, hi]⟩, Nat.mul_le_mul_right _ hc, fun i g hi => ?_⟩⟩, hl⟩
    obtain ⟨e0, e1, e2⟩ := clSns_at hi
    have hlt := (List.getElem?_eq_some_iff.1 hi).1
    rw [← ht] at e0 e1 e2
    have get : ∀ (j : Nat) (x : Value), j < rs.length * 3 → (cur.toList.take (rs.length * 3))[j]? = some x → cur[j]?.getD undef = x := fun j x hj hx => by
      rw [List.getElem?_take_of_lt hj, Array.getElem?_toList] at hx
      rw [hx]
      rfl
    exact ⟨get _ _ (by omega) e0, get _ _ (by omega) e1, get _ _ (by omega) e2⟩
/-- An append of one, at the list of a plain region's operations. -/
theorem wpList_appSn {ops : Array Oper} {rest : List Oper} {o : Oper} {a : Act} {Q : Exit → Act → World → Prop} {W : World} {base c C : Nat} {lv : Value} {rs : List Sn} {g : Sn} (hgd : o.guard = none) (s x : Operand)
    (ho : o.op = .call { callee := .builtin .append, args := #[s, x], argTypes := #[68, 68] })
    (hs' : a.eval s = lv) (hx : a.eval x = .slice (some ⟨c, 0, none⟩) 1 C) (h : W.ownsRow base 170 3 lv rs.length (clSns rs)) (hg : AtSn W c 0 g) (hl : rs.length + 1 ≤ 1000000) (hbase : base ≤ W.heap.size)
    (k : ∀ v' w', w'.ownsRow base 170 3 v' (rs ++ [g]).length (clSns (rs ++ [g])) → W.grownBy w' lv.ownBlock → (∃ A C, v' = .slice A (rs ++ [g]).length C) → wpList Tryz.prog ops Q rest (a.put o.dst v') w') : wpList Tryz.prog ops Q (o :: rest) a W := by
  obtain ⟨i0, hi, hz0, hz1, hz2⟩ := info_parts infoSnA
  obtain ⟨q0, q1, q2⟩ := hg
  refine wpList_append_own W hgd s x 68 ho base 170 i0 (.agg #[.int .i64 0, .int .i64 0, .int .i64 0]) 3 24 Tryz.underlying68 hi hz0 hz1 hz2 rfl (by decide) lv rs.length (clSns rs) hs' h ⟨c, 0, none⟩ 1 C (clSn g) hx rfl (fun j u hu => ?_) (fun u hu => ?_) (by unfold maxLen; omega) (by omega) hbase ?_
  · rw [fl_addr]
    have hj := (List.getElem?_eq_some_iff.1 hu).1
    have hj3 : j < 3 := hj
    match j, hj3 with
    | 0, _ =>
      cases hu
      simpa using q0
    | 1, _ =>
      cases hu
      simpa using q1
    | 2, _ =>
      cases hu
      simpa using q2
  · simp only [clSn, List.mem_cons, List.not_mem_nil, or_false] at hu
    rcases hu with rfl | rfl | rfl <;> rfl
  · intro v' w' hown hgrow hnil
    have e1 : (rs ++ [g]).length = rs.length + 1 := by simp
    have hown' : w'.ownsRow base 170 3 v' (rs ++ [g]).length (clSns (rs ++ [g])) := by
      rw [e1, clSns_app]
      exact hown
    refine k v' w' hown' hgrow ?_
    rcases hown'.2 with ⟨rfl, h0⟩ | ⟨b, cap, cur, rfl, _⟩
    · exact ⟨none, 0, by rw [h0]⟩
    · exact ⟨_, _, rfl⟩
theorem clSns_get : ∀ {rs : List Sn} {j : Nat} {u : Value}, (clSns rs)[j]? = some u → ∃ (i : Nat) (g : Sn), rs[i]? = some g ∧ ((j = i * 3 ∧ u = .int .i64 g.number) ∨ (j = i * 3 + 1 ∧ u = .int .i64 g.answer) ∨ (j = i * 3 + 2 ∧ u = .int .i64 g.code))
  | [], j, u, h => by simp [clSns] at h
  | x :: r, j, u, h => by
    have hc : clSns (x :: r) = clSn x ++ clSns r := rfl
    have hl : (clSn x).length = 3 := rfl
    rw [hc] at h
    by_cases hj : j < 3
    · rw [List.getElem?_append_left (by omega)] at h
      refine ⟨0, x, rfl, ?_⟩
      match j, hj with
      | 0, _ => cases h; simp
      | 1, _ => cases h; simp
      | 2, _ => cases h; simp
    · rw [List.getElem?_append_right (by omega), hl] at h
      obtain ⟨i, g, hg, ho⟩ := clSns_get h
      refine ⟨i + 1, g, by simpa using hg, ?_⟩
      rcases ho with ⟨h1, h2⟩ | ⟨h1, h2⟩ | ⟨h1, h2⟩
      · exact .inl ⟨by omega, h2⟩
      · exact .inr (.inl ⟨by omega, h2⟩)
      · exact .inr (.inr (⟨by omega, h2⟩))
/-- An append of a list, at the list of a plain region's operations. -/
theorem wpList_appsSn {ops : Array Oper} {rest : List Oper} {o : Oper} {a : Act} {Q : Exit → Act → World → Prop} {W : World} {base C : Nat} {lv : Value} {ad : Addr} {rs ms : List Sn} (hgd : o.guard = none) (s x : Operand)
    (ho : o.op = .call { callee := .builtin .append, args := #[s, x], argTypes := #[68, 68] })
    (hs' : a.eval s = lv) (hx : a.eval x = .slice (some ad) ms.length C) (h : W.ownsRow base 170 3 lv rs.length (clSns rs)) (hg : RowSn W (.slice (some ad) ms.length C) ms) (hl : rs.length + ms.length ≤ 1000000) (hbase : base ≤ W.heap.size)
    (k : ∀ v' w', w'.ownsRow base 170 3 v' (rs ++ ms).length (clSns (rs ++ ms)) → W.grownBy w' lv.ownBlock → (∃ A C, v' = .slice A (rs ++ ms).length C) → wpList Tryz.prog ops Q rest (a.put o.dst v') w') : wpList Tryz.prog ops Q (o :: rest) a W := by
  obtain ⟨i0, hi, hz0, hz1, hz2⟩ := info_parts infoSnA
  refine wpList_append_own W hgd s x 68 ho base 170 i0 (.agg #[.int .i64 0, .int .i64 0, .int .i64 0]) 3 24 Tryz.underlying68 hi hz0 hz1 hz2 rfl (by decide) lv rs.length (clSns rs) hs' h ad ms.length C (clSns ms) hx (clSns_len ms) (fun j u hu => ?_) (fun u hu => ?_) (by unfold maxLen; omega) (by omega) hbase ?_
  · obtain ⟨i, g, hg', ho'⟩ := clSns_get hu
    obtain ⟨a', cap, e, hc⟩ := hg.shape
    simp only [Value.slice.injEq] at e
    obtain ⟨b, o', ea, hcell⟩ := hc (by intro e2; rw [e2] at hg'; simp at hg')
    rw [← e.1] at ea
    cases ea
    obtain ⟨q0, q1, q2⟩ := hcell i g hg'
    rw [fl_addr]
    rcases ho' with ⟨rfl, rfl⟩ | ⟨rfl, rfl⟩ | ⟨rfl, rfl⟩
    · first | exact q0 | (rw [← q0]; congr 2; omega)
    · first | exact q1 | (rw [← q1]; congr 2; omega)
    · first | exact q2 | (rw [← q2]; congr 2; omega)
  · obtain ⟨j, hj⟩ := List.getElem?_of_mem hu
    obtain ⟨i, g, _, ho'⟩ := clSns_get hj
    rcases ho' with ⟨_, rfl⟩ | ⟨_, rfl⟩ | ⟨_, rfl⟩ <;> rfl
  · intro v' w' hown hgrow hnil
    have e1 : (rs ++ ms).length = rs.length + ms.length := by simp
    have e2 : clSns (rs ++ ms) = clSns rs ++ clSns ms := by simp [clSns]
    have hown' : w'.ownsRow base 170 3 v' (rs ++ ms).length (clSns (rs ++ ms)) := by
      rw [e1, e2]
      exact hown
    refine k v' w' hown' hgrow ?_
    rcases hown'.2 with ⟨rfl, h0⟩ | ⟨b, cap, cur, rfl, _⟩
    · exact ⟨none, 0, by rw [h0]⟩
    · exact ⟨_, _, rfl⟩
end Go.Proofs.YtagajindaipaeaaGreat
namespace Go.Proofs.YtagajindaipaeaaGreat
open Go.ChangeShapes Go.WideShapes Go.ChangeAt Go.RowKit
theorem ownsRow_down {W : World} {base base' : Nat} {e : TypeId} {size : Nat} {v : Value} {k : Nat} {xs : List Value} (h : W.ownsRow base e size v k xs) (hb : base' ≤ base) : W.ownsRow base' e size v k xs := by
  obtain ⟨h1, h2⟩ := h
  refine ⟨h1, ?_⟩
  rcases h2 with h2 | ⟨g, cap, cur, e1, h3, h4⟩
  · exact .inl h2
  · exact .inr ⟨g, cap, cur, e1, by omega, h4⟩
theorem undrewS {a b : World} (h : Below a.drew.heap.size a.drew b) : Below a.heap.size a b := (Below.refl _ _).drew.trans h
end Go.Proofs.YtagajindaipaeaaGreat
