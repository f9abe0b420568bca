/- FnExactGatePartner returns true at every gate and text and leaves them as they were: GatePartner answers as its model, writes into no argument, keeps nothing of one, and its answer owns its memory; no condition. -/
import Derived.Test.YtkgkahlhekecmaaGreatG03
import Derived.Test.YtkgkahlhekecmaaGreatG06
import Derived.Test.YtkgkahlhekecmaaGreatG08
import Derived.Test.YtkgkahlhekecmaaGreatG10
import Derived.Test.YtkgkahlhekecmaaGreatG16
import Derived.Test.YtkgkahlhekecmaaGreatG36
import Derived.Test.YtkgkahlhekecmaaGreatG51
import Derived.Test.YtkgkahlhekecmaaGreatG30
import Derived.Deep.RegionHeld3
import Derived.Lib.SmallJoins
namespace Go.Proofs.YtkgkahlhekecmaaGreat
open Go.ChangeShapes Go.WideShapes Go.ChangeAt Go.RowKit Go.Joins
open Go.ChangeMaps (open_string shut_string)
set_option linter.unusedVariables false
namespace fnExactGatePartner
/-- Block B holds the gate. -/
structure LP (B t : Nat) (w W : World) (p : Gat) (u0 u1 u2 u3 u4 u5 : Value) : Prop where
  bel : Below w.heap.size w W
  blk : W.heap[B]? = some (.cells #[.string p.name, .int .i64 p.day, u0, u1, u2, u3, u4, u5] t)
  row : RGt W u0 u1 u2 u3 u4 u5 p
theorem LP.below {B t : Nat} {w W W' : World} {p : Gat} {u0 u1 u2 u3 u4 u5 : Value} (h : LP B t w W p u0 u1 u2 u3 u4 u5) (hb : Below W.heap.size W W') : LP B t w W' p u0 u1 u2 u3 u4 u5 :=
  ⟨h.bel.trans (hb.mono h.bel.size), (hb.block B (Array.getElem?_eq_some_iff.1 h.blk).1).trans h.blk, h.row.below hb⟩
theorem LP.drew {B t : Nat} {w W : World} {p : Gat} {u0 u1 u2 u3 u4 u5 : Value} (h : LP B t w W p u0 u1 u2 u3 u4 u5) : LP B t w W.drew p u0 u1 u2 u3 u4 u5 := h.below (Below.refl _ _).drew
theorem LP.cells {B t : Nat} {w W : World} {p : Gat} {u0 u1 u2 u3 u4 u5 : Value} (h : LP B t w W p u0 u1 u2 u3 u4 u5) : W.cell? ⟨B, 0, none⟩ = some (.string p.name) ∧ W.cell? ⟨B, 1, none⟩ = some (.int .i64 p.day) ∧ W.cell? ⟨B, 2, none⟩ = some (u0) ∧ W.cell? ⟨B, 3, none⟩ = some (u1) ∧ W.cell? ⟨B, 4, none⟩ = some (u2) ∧ W.cell? ⟨B, 5, none⟩ = some (u3) ∧ W.cell? ⟨B, 6, none⟩ = some (u4) ∧ W.cell? ⟨B, 7, none⟩ = some (u5) := bx8 h.blk
theorem LP.made {B t : Nat} {w W : World} {p q : Gat} {u0 u1 u2 u3 u4 u5 : Value} (h : LP B t w W p u0 u1 u2 u3 u4 u5) (t' : Nat) {up uc us ul ud uo : Value} (h' : RGt W up uc us ul ud uo q) :
    LP W.heap.size t' w (W.alloc (.cells #[.string q.name, .int .i64 q.day, up, uc, us, ul, ud, uo] t')) q up uc us ul ud uo :=
  ⟨h.bel.alloc h.bel.size _, World.alloc_heap_new W _, h'.below ((Below.refl _ _).alloc (Nat.le_refl _) _)⟩
theorem cntP_app : ∀ a b : List Ptn, cntP (a ++ b) = cntP a + cntP b
  | [], b => by simp [cntP]
  | p :: r, b => by
    simp only [List.cons_append, cntP, cntP_app r b]
    omega
theorem cntG_gp (g : Gat) (t : ByteArray) (hP : BdGt 1048576 g) (hs : snP g.ptns ≤ 1048576) : cntG (gpR g t).1 ≤ 200000000 := by
  have h0 := hP.2.1.1
  have h1 := hP.2.2.1.1
  have h2 := hP.2.2.2.1.1.1
  have h3 := hP.2.2.2.1.2.1
  have h4 := hP.2.2.2.2.1.1
  have h5 := hP.2.2.2.2.2.1
  have hz : cntG zG ≤ 200000000 := by simp [cntG, zG, cntP]
  have ha : cntG (adG g t) ≤ 200000000 := by
    have e1 : cntP (insL g.ptns (plcP g.ptns t) (newP t)) = cntP g.ptns + 3 := by
      have e2 : cntP g.ptns = cntP (g.ptns.take (plcP g.ptns t)) + cntP (g.ptns.drop (plcP g.ptns t)) := by
        rw [← cntP_app, List.take_append_drop]
      have hnl : (newP t).seen = [] := by unfold newP; split <;> rfl
      unfold insL
      rw [cntP_app, e2]
      simp only [cntP, hnl, List.length_nil]
      omega
    have e3 := cntP_eq g.ptns
    unfold cntG adG
    dsimp only
    rw [e1]
    omega
  unfold gpR
  split
  · exact hz
  split
  · exact hz
  split
  · exact hz
  split
  · exact hz
  · exact ha
set_option maxRecDepth 20000 in
set_option maxHeartbeats 32000000 in
theorem walk (g : Gat) (up uc us ul ud uo : Value) (t : ByteArray) (w : World) (h : RGt w up uc us ul ud uo g) (ht : t.size ≤ maxLen) :
    Calls Tryz.prog 3 #[.agg #[.string g.name, .int .i64 g.day, up, uc, us, ul, ud, uo], .string t] w fun e w' => e = .returned (.bool true) ∧ Below w.heap.size w w' := by
  obtain ⟨a0, c0, a1, c1, a2, c2, a3, c3, a4, c4, a5, c5, rfl, rfl, rfl, rfl, rfl, rfl⟩ := h.val
  unfold maxLen at ht
  have b1 : Below w.heap.size w (w.alloc (.cells #[.string g.name, .int .i64 g.day, (.slice a0 g.ptns.length c0), (.slice a1 g.crss.length c1), (.slice a2 g.book.stocks.length c2), (.slice a3 g.book.lines.length c3), (.slice a4 g.dffs.length c4), (.slice a5 g.outs.length c5)] 31)) := (Below.refl _ _).alloc (Nat.le_refl _) _
  have H0 : Hid (LP w.heap.size 31 w (w.alloc (.cells #[.string g.name, .int .i64 g.day, (.slice a0 g.ptns.length c0), (.slice a1 g.crss.length c1), (.slice a2 g.book.stocks.length c2), (.slice a3 g.book.lines.length c3), (.slice a4 g.dffs.length c4), (.slice a5 g.outs.length c5)] 31)) g (.slice a0 g.ptns.length c0) (.slice a1 g.crss.length c1) (.slice a2 g.book.stocks.length c2) (.slice a3 g.book.lines.length c3) (.slice a4 g.dffs.length c4) (.slice a5 g.outs.length c5)) := ⟨b1, World.alloc_heap_new w _, h.below b1⟩
  clear h b1
  go_enter Tryz.func3, Tryz.ntmps3
  by_cases lt : 1048576 < t.size
  · have lt' : (1048576 : Int) < (t.size : Int) := by omega
    go_wp2
    go_ret
    exact ⟨rfl, H0.out.bel⟩
  have lt' : ¬ (1048576 : Int) < (t.size : Int) := by omega
  go_wp2_with fail
  refine (szGt_any g _ _ _ _ _ _ 1048576 _ H0.out.row (by omega)).mono ?_
  rintro e w1 ⟨r, rfl, hr, hb1⟩
  have h1 := H0.out.below hb1
  clear hb1 H0
  rcases hr with rfl | ⟨g0, g1, hP⟩
  · have H1 : Hid (Below w.heap.size w w1) := h1.bel
    clear h1
    go_wp2
    go_ret
    exact ⟨rfl, H1.out⟩
  have g0' : ¬ r < 0 := by omega
  have HP : Hid (BdGt 1048576 g) := hP.1
  have HSN : Hid (snP g.ptns ≤ 1048576) := hP.2
  clear hP
  have HARG : Hid (∀ W, Below w1.heap.size w1 W → LP w.heap.size 31 w W g (.slice a0 g.ptns.length c0) (.slice a1 g.crss.length c1) (.slice a2 g.book.stocks.length c2) (.slice a3 g.book.lines.length c3) (.slice a4 g.dffs.length c4) (.slice a5 g.outs.length c5)) := fun W hW => h1.below hW
  have HW1 : Hid (Below w.heap.size w w1) := h1.bel
  clear h1
  obtain ⟨cd, hcd⟩ : ∃ cd, cd = (gpR g t).2 := ⟨_, rfl⟩
  obtain ⟨P, hP⟩ : ∃ P, P = (gpR g t).1 := ⟨_, rfl⟩
  have hPL : cntG P ≤ 200000000 := by rw [hP]; exact cntG_gp g t HP.out HSN.out
  have HQS : Hid (∀ W up uc us ul ud uo, RGt W up uc us ul ud uo g → Calls Tryz.prog 5 #[.agg #[.string g.name, .int .i64 g.day, up, uc, us, ul, ud, uo], .string t] W fun e w' => AnsGoS cd W P e w') := fun W up uc us ul ud uo hW => by rw [hP, hcd]; exact gatePartner_spec g up uc us ul ud uo t W hW HP.out
  have HQI : Hid (∀ W up uc us ul ud uo, RGt W up uc us ul ud uo g → Calls Tryz.prog 7 #[.agg #[.string g.name, .int .i64 g.day, up, uc, us, ul, ud, uo], .string t] W fun e w' => AnsGo cd W P e w') := fun W up uc us ul ud uo hW => by rw [hP, hcd]; exact gatePartner_impl g up uc us ul ud uo t W hW HP.out
  clear hP hcd
  have hcg : 1 + cntG g < 100000000000 := cntG_le HP.out HSN.out
  obtain ⟨x0, x1, x2, x3, x4, x5, x6, x7⟩ := (HARG.out w1 (Below.refl _ _)).cells
  go_wp2_with fail
  refine (toGt_any g _ _ _ _ _ _ _ (HARG.out w1 (Below.refl _ _)).row HP.out).mono ?_
  rintro e w2 ⟨v20, v21, v22, v23, v24, v25, rfl, r2, hb2⟩
  have H2 : Hid (Below w1.heap.size w1 w2 ∧ RGt w2 v20 v21 v22 v23 v24 v25 g) := ⟨hb2, r2⟩
  clear hb2 r2 x0 x1 x2 x3 x4 x5 x6 x7
  go_wp2_with fail
  refine (HQS.out _ _ _ _ _ _ _ H2.out.2).mono ?_
  rintro e w3 ⟨t0, t1, t2, t3, t4, t5, rfl, hL3, hb3⟩
  obtain ⟨s0, sc0, s1, sc1, s2, sc2, s3, sc3, s4, sc4, s5, sc5, rfl, rfl, rfl, rfl, rfl, rfl⟩ := hL3.val
  obtain ⟨W4, hW4⟩ : ∃ W4, w3.alloc (.cells #[.string P.name, .int .i64 P.day, (.slice s0 P.ptns.length sc0), (.slice s1 P.crss.length sc1), (.slice s2 P.book.stocks.length sc2), (.slice s3 P.book.lines.length sc3), (.slice s4 P.dffs.length sc4), (.slice s5 P.outs.length sc5), .string ⟨#[]⟩, .int .i64 0, .int .i64 0, .int .i64 0, .int .i64 0, .int .i64 cd] 44) = W4 := ⟨_, rfl⟩
  obtain ⟨BW, hBW⟩ : ∃ BW, BW = w3.heap.size := ⟨_, rfl⟩
  have ha4 : Below w3.heap.size w3 W4 := by rw [← hW4]; exact (Below.refl _ _).alloc (Nat.le_refl _) _
  have hx4 : W4.heap[BW]? = some (.cells #[.string P.name, .int .i64 P.day, (.slice s0 P.ptns.length sc0), (.slice s1 P.crss.length sc1), (.slice s2 P.book.stocks.length sc2), (.slice s3 P.book.lines.length sc3), (.slice s4 P.dffs.length sc4), (.slice s5 P.outs.length sc5), .string ⟨#[]⟩, .int .i64 0, .int .i64 0, .int .i64 0, .int .i64 0, .int .i64 cd] 44) := by rw [← hW4, hBW]; exact World.alloc_heap_new _ _
  have B3 : Below w1.heap.size w1 w3 := H2.out.1.trans (hb3.mono H2.out.1.size)
  have H4 : Hid (Below w1.heap.size w1 W4 ∧ RGt W4 (.slice s0 P.ptns.length sc0) (.slice s1 P.crss.length sc1) (.slice s2 P.book.stocks.length sc2) (.slice s3 P.book.lines.length sc3) (.slice s4 P.dffs.length sc4) (.slice s5 P.outs.length sc5) P ∧ W4.heap[BW]? = some (.cells #[.string P.name, .int .i64 P.day, (.slice s0 P.ptns.length sc0), (.slice s1 P.crss.length sc1), (.slice s2 P.book.stocks.length sc2), (.slice s3 P.book.lines.length sc3), (.slice s4 P.dffs.length sc4), (.slice s5 P.outs.length sc5), .string ⟨#[]⟩, .int .i64 0, .int .i64 0, .int .i64 0, .int .i64 0, .int .i64 cd] 44)) := ⟨B3.trans (ha4.mono B3.size), hL3.below ha4, hx4⟩
  go_upto_region 8 with fail
  try rw [hW4]
  try rw [← hBW]
  clear hW4 hBW ha4 hx4 B3 hL3 hb3 H2
  obtain ⟨x0, x1, x2, x3, x4, x5, x6, x7⟩ := (HARG.out _ H4.out.1).cells
  go_wp2_with fail
  refine (toGt_own g _ _ _ _ _ _ _ (HARG.out _ H4.out.1).row HP.out).mono ?_
  rintro e w5 ⟨v50, v51, v52, v53, v54, v55, rfl, o0, o1, o2, o3, o4, o5, hb5⟩
  obtain ⟨b, f, β, bc, bs, bl, bd, bo, hLG, hlo⟩ := lgt_of_own (HARG.out _ H4.out.1).row.nm HP.out o0 o1 o2 o3 o4 o5
  obtain ⟨e0, f0, e1, f1, e2, f2, e3, f3, e4, f4, e5, f5, rfl, rfl, rfl, rfl, rfl, rfl⟩ := hLG.row.val
  obtain ⟨W6, hW6⟩ : ∃ W6, w5.alloc (.cells #[.string g.name, .int .i64 g.day, (.slice e0 g.ptns.length f0), (.slice e1 g.crss.length f1), (.slice e2 g.book.stocks.length f2), (.slice e3 g.book.lines.length f3), (.slice e4 g.dffs.length f4), (.slice e5 g.outs.length f5)] 42) = W6 := ⟨_, rfl⟩
  obtain ⟨BX, hBX⟩ : ∃ BX, BX = w5.heap.size := ⟨_, rfl⟩
  have ha6 : Below w5.heap.size w5 W6 := by rw [← hW6]; exact (Below.refl _ _).alloc (Nat.le_refl _) _
  have hx6 : W6.heap[BX]? = some (.cells #[.string g.name, .int .i64 g.day, (.slice e0 g.ptns.length f0), (.slice e1 g.crss.length f1), (.slice e2 g.book.stocks.length f2), (.slice e3 g.book.lines.length f3), (.slice e4 g.dffs.length f4), (.slice e5 g.outs.length f5)] 42) := by rw [← hW6, hBX]; exact World.alloc_heap_new _ _
  have hs6 : W6.heap.size = BX + 1 := by rw [← hW6, hBX]; simp
  have HNX : Hid ((∀ k, blkG g b β bc bs bl bd bo k → W4.heap.size ≤ k ∧ k < BX) ∧ W6.heap.size = BX + 1 ∧ W4.heap.size ≤ BX) := ⟨fun k hk => ⟨hlo k hk, by rw [hBX]; exact hLG.lt hk⟩, hs6, by rw [hBX]; exact hb5.size⟩
  have H6 : Hid (Below W4.heap.size W4 W6 ∧ LGt W6 (.slice e0 g.ptns.length f0) (.slice e1 g.crss.length f1) (.slice e2 g.book.stocks.length f2) (.slice e3 g.book.lines.length f3) (.slice e4 g.dffs.length f4) (.slice e5 g.outs.length f5) g b f β bc bs bl bd bo ∧ W6.heap[BX]? = some (.cells #[.string g.name, .int .i64 g.day, (.slice e0 g.ptns.length f0), (.slice e1 g.crss.length f1), (.slice e2 g.book.stocks.length f2), (.slice e3 g.book.lines.length f3), (.slice e4 g.dffs.length f4), (.slice e5 g.outs.length f5)] 42)) := ⟨hb5.trans (ha6.mono hb5.size), hLG.below ha6, hx6⟩
  go_upto_region 9 with fail
  try rw [hW6]
  try rw [← hBX]
  clear hW6 hBX ha6 hx6 hs6 hLG hlo hb5 o0 o1 o2 o3 o4 o5 x0 x1 x2 x3 x4 x5 x6 x7
  obtain ⟨z0, z1, z2, z3, z4, z5, z6, z7⟩ := bx8 H6.out.2.2
  go_wp2_with fail
  refine (HQI.out _ _ _ _ _ _ _ H6.out.2.1.row).mono ?_
  rintro e w7 ⟨n0, n1, n2, n3, n4, n5, qb, qf, qβ, qc, qs, ql, qd, qo, rfl, hL7, hge, hb7⟩
  obtain ⟨g0, gc0, g1, gc1, g2, gc2, g3, gc3, g4, gc4, g5, gc5, rfl, rfl, rfl, rfl, rfl, rfl⟩ := hL7.row.val
  obtain ⟨W8, hW8⟩ : ∃ W8, w7.alloc (.cells #[.string P.name, .int .i64 P.day, (.slice g0 P.ptns.length gc0), (.slice g1 P.crss.length gc1), (.slice g2 P.book.stocks.length gc2), (.slice g3 P.book.lines.length gc3), (.slice g4 P.dffs.length gc4), (.slice g5 P.outs.length gc5), .string ⟨#[]⟩, .int .i64 0, .int .i64 0, .int .i64 0, .int .i64 0, .int .i64 cd] 44) = W8 := ⟨_, rfl⟩
  obtain ⟨BG, hBG⟩ : ∃ BG, BG = w7.heap.size := ⟨_, rfl⟩
  have ha8 : Below w7.heap.size w7 W8 := by rw [← hW8]; exact (Below.refl _ _).alloc (Nat.le_refl _) _
  have hx8 : W8.heap[BG]? = some (.cells #[.string P.name, .int .i64 P.day, (.slice g0 P.ptns.length gc0), (.slice g1 P.crss.length gc1), (.slice g2 P.book.stocks.length gc2), (.slice g3 P.book.lines.length gc3), (.slice g4 P.dffs.length gc4), (.slice g5 P.outs.length gc5), .string ⟨#[]⟩, .int .i64 0, .int .i64 0, .int .i64 0, .int .i64 0, .int .i64 cd] 44) := by rw [← hW8, hBG]; exact World.alloc_heap_new _ _
  skip
  have hlt : ∀ k, blkG P qb qβ qc qs ql qd qo k → k < BG := fun k hk => by rw [hBG]; exact hL7.lt hk
  have hs7 := hb7.size
  have HN : Hid ((∀ k, blkG P qb qβ qc qs ql qd qo k → W6.heap.size ≤ k ∧ k ≠ BG) ∧ W6.heap.size ≤ BG) := ⟨fun k hk => ⟨hge k hk, by have := hlt k hk; omega⟩, by rw [hBG]; exact hs7⟩
  have B7 : Below W4.heap.size W4 w7 := H6.out.1.trans (hb7.mono H6.out.1.size)
  have H8 : Hid (Below W4.heap.size W4 W8 ∧ LGt W8 (.slice g0 P.ptns.length gc0) (.slice g1 P.crss.length gc1) (.slice g2 P.book.stocks.length gc2) (.slice g3 P.book.lines.length gc3) (.slice g4 P.dffs.length gc4) (.slice g5 P.outs.length gc5) P qb qf qβ qc qs ql qd qo ∧ W8.heap[BG]? = some (.cells #[.string P.name, .int .i64 P.day, (.slice g0 P.ptns.length gc0), (.slice g1 P.crss.length gc1), (.slice g2 P.book.stocks.length gc2), (.slice g3 P.book.lines.length gc3), (.slice g4 P.dffs.length gc4), (.slice g5 P.outs.length gc5), .string ⟨#[]⟩, .int .i64 0, .int .i64 0, .int .i64 0, .int .i64 0, .int .i64 cd] 44) ∧ LGt W8 (.slice e0 g.ptns.length f0) (.slice e1 g.crss.length f1) (.slice e2 g.book.stocks.length f2) (.slice e3 g.book.lines.length f3) (.slice e4 g.dffs.length f4) (.slice e5 g.outs.length f5) g b f β bc bs bl bd bo ∧ W8.heap[BX]? = some (.cells #[.string g.name, .int .i64 g.day, (.slice e0 g.ptns.length f0), (.slice e1 g.crss.length f1), (.slice e2 g.book.stocks.length f2), (.slice e3 g.book.lines.length f3), (.slice e4 g.dffs.length f4), (.slice e5 g.outs.length f5)] 42)) := ⟨B7.trans (ha8.mono B7.size), hL7.below ha8, hx8, (H6.out.2.1.below hb7).below ha8, by
    have e := (hb7.block _ (Array.getElem?_eq_some_iff.1 H6.out.2.2).1).trans H6.out.2.2
    exact (ha8.block _ (Array.getElem?_eq_some_iff.1 e).1).trans e⟩
  go_upto_region 10 with fail
  try rw [hW8]
  try rw [← hBG]
  clear hW8 hBG ha8 hx8 B7 hL7 hb7 hge hlt hs7  z0 z1 z2 z3 z4 z5 z6 z7 H6
  have HWB : Hid (∀ W, Below W4.heap.size W4 W → W.heap[BW]? = some (.cells #[.string P.name, .int .i64 P.day, (.slice s0 P.ptns.length sc0), (.slice s1 P.crss.length sc1), (.slice s2 P.book.stocks.length sc2), (.slice s3 P.book.lines.length sc3), (.slice s4 P.dffs.length sc4), (.slice s5 P.outs.length sc5), .string ⟨#[]⟩, .int .i64 0, .int .i64 0, .int .i64 0, .int .i64 0, .int .i64 cd] 44) ∧ RGt W (.slice s0 P.ptns.length sc0) (.slice s1 P.crss.length sc1) (.slice s2 P.book.stocks.length sc2) (.slice s3 P.book.lines.length sc3) (.slice s4 P.dffs.length sc4) (.slice s5 P.outs.length sc5) P) := fun W hW => ⟨(hW.block _ (Array.getElem?_eq_some_iff.1 H4.out.2.2).1).trans H4.out.2.2, H4.out.2.1.below hW⟩
  have HAR : Hid (∀ W, Below W4.heap.size W4 W → LP w.heap.size 31 w W g (.slice a0 g.ptns.length c0) (.slice a1 g.crss.length c1) (.slice a2 g.book.stocks.length c2) (.slice a3 g.book.lines.length c3) (.slice a4 g.dffs.length c4) (.slice a5 g.outs.length c5)) := fun W hW => HARG.out W (H4.out.1.trans (hW.mono H4.out.1.size))
  obtain ⟨x0, x1, x2, x3, x4, x5, x6, x7, x8, x9, x10, x11, x12, x13⟩ := bx14 H8.out.2.2.1
  obtain ⟨y0, y1, y2, y3, y4, y5, y6, y7, y8, y9, y10, y11, y12, y13⟩ := bx14 (HWB.out W8 H8.out.1).1
  go_wp2_with fail
  refine (eqGo_any P cd _ _ _ _ _ _ _ _ _ _ _ _ _ H8.out.2.1.row (HWB.out W8 H8.out.1).2).mono ?_
  rintro e w9 ⟨rfl, hb⟩
  have H9 : Hid (Below W4.heap.size W4 w9 ∧ LGt w9 (.slice g0 P.ptns.length gc0) (.slice g1 P.crss.length gc1) (.slice g2 P.book.stocks.length gc2) (.slice g3 P.book.lines.length gc3) (.slice g4 P.dffs.length gc4) (.slice g5 P.outs.length gc5) P qb qf qβ qc qs ql qd qo ∧ w9.heap[BG]? = some (.cells #[.string P.name, .int .i64 P.day, (.slice g0 P.ptns.length gc0), (.slice g1 P.crss.length gc1), (.slice g2 P.book.stocks.length gc2), (.slice g3 P.book.lines.length gc3), (.slice g4 P.dffs.length gc4), (.slice g5 P.outs.length gc5), .string ⟨#[]⟩, .int .i64 0, .int .i64 0, .int .i64 0, .int .i64 0, .int .i64 cd] 44) ∧ LGt w9 (.slice e0 g.ptns.length f0) (.slice e1 g.crss.length f1) (.slice e2 g.book.stocks.length f2) (.slice e3 g.book.lines.length f3) (.slice e4 g.dffs.length f4) (.slice e5 g.outs.length f5) g b f β bc bs bl bd bo ∧ w9.heap[BX]? = some (.cells #[.string g.name, .int .i64 g.day, (.slice e0 g.ptns.length f0), (.slice e1 g.crss.length f1), (.slice e2 g.book.stocks.length f2), (.slice e3 g.book.lines.length f3), (.slice e4 g.dffs.length f4), (.slice e5 g.outs.length f5)] 42)) := ⟨H8.out.1.trans (hb.mono H8.out.1.size), H8.out.2.1.below hb, (hb.block _ (Array.getElem?_eq_some_iff.1 H8.out.2.2.1).1).trans H8.out.2.2.1, H8.out.2.2.2.1.below hb, (hb.block _ (Array.getElem?_eq_some_iff.1 H8.out.2.2.2.2).1).trans H8.out.2.2.2.2⟩
  clear hb x0 x1 x2 x3 x4 x5 x6 x7 x8 x9 x10 x11 x12 x13 y0 y1 y2 y3 y4 y5 y6 y7 y8 y9 y10 y11 y12 y13 H8
  have h9 := HAR.out w9 H9.out.1
  have HX : Hid (∀ W, Below w9.heap.size w9 W → LGt W (.slice e0 g.ptns.length f0) (.slice e1 g.crss.length f1) (.slice e2 g.book.stocks.length f2) (.slice e3 g.book.lines.length f3) (.slice e4 g.dffs.length f4) (.slice e5 g.outs.length f5) g b f β bc bs bl bd bo ∧ W.heap[BX]? = some (.cells #[.string g.name, .int .i64 g.day, (.slice e0 g.ptns.length f0), (.slice e1 g.crss.length f1), (.slice e2 g.book.stocks.length f2), (.slice e3 g.book.lines.length f3), (.slice e4 g.dffs.length f4), (.slice e5 g.outs.length f5)] 42)) := fun W hW => ⟨H9.out.2.2.2.1.below hW, (hW.block _ (Array.getElem?_eq_some_iff.1 H9.out.2.2.2.2).1).trans H9.out.2.2.2.2⟩
  obtain ⟨x0, x1, x2, x3, x4, x5, x6, x7⟩ := h9.cells
  obtain ⟨z0, z1, z2, z3, z4, z5, z6, z7⟩ := bx8 H9.out.2.2.2.2
  go_wp2_with fail
  go_region_held3 (fun W => (W.cell? ⟨w.heap.size, 0, none⟩ = some (.string g.name) ∧ W.cell? ⟨w.heap.size, 1, none⟩ = some (.int .i64 g.day) ∧ W.cell? ⟨w.heap.size, 2, none⟩ = some ((.slice a0 g.ptns.length c0)) ∧ W.cell? ⟨w.heap.size, 3, none⟩ = some ((.slice a1 g.crss.length c1)) ∧ W.cell? ⟨w.heap.size, 4, none⟩ = some ((.slice a2 g.book.stocks.length c2)) ∧ W.cell? ⟨w.heap.size, 5, none⟩ = some ((.slice a3 g.book.lines.length c3)) ∧ W.cell? ⟨w.heap.size, 6, none⟩ = some ((.slice a4 g.dffs.length c4)) ∧ W.cell? ⟨w.heap.size, 7, none⟩ = some ((.slice a5 g.outs.length c5))) ∧ W.cell? ⟨BX, 0, none⟩ = some (.string g.name) ∧ W.cell? ⟨BX, 1, none⟩ = some (.int .i64 g.day) ∧ W.cell? ⟨BX, 2, none⟩ = some ((.slice e0 g.ptns.length f0)) ∧ W.cell? ⟨BX, 3, none⟩ = some ((.slice e1 g.crss.length f1)) ∧ W.cell? ⟨BX, 4, none⟩ = some ((.slice e2 g.book.stocks.length f2)) ∧ W.cell? ⟨BX, 5, none⟩ = some ((.slice e3 g.book.lines.length f3)) ∧ W.cell? ⟨BX, 6, none⟩ = some ((.slice e4 g.dffs.length f4)) ∧ W.cell? ⟨BX, 7, none⟩ = some ((.slice e5 g.outs.length f5))) (go_keep) (first | (go_at_call_of 6 (Value.agg #[.string g.name, .int .i64 g.day, (.slice a0 g.ptns.length c0), (.slice a1 g.crss.length c1), (.slice a2 g.book.stocks.length c2), (.slice a3 g.book.lines.length c3), (.slice a4 g.dffs.length c4), (.slice a5 g.outs.length c5)]); refine (toGt_any g _ _ _ _ _ _ _ h9.drew.row HP.out).mono ?_; rintro e wj ⟨vj0, vj1, vj2, vj3, vj4, vj5, rfl, rj, hb⟩; have bj : Below w9.heap.size w9 wj := (by with_reducible first | exact hb | exact undrewG hb); have hj := h9.below bj; have kj := HX.out wj bj; clear hb; obtain ⟨xj0, xj1, xj2, xj3, xj4, xj5, xj6, xj7⟩ := hj.cells; obtain ⟨zj0, zj1, zj2, zj3, zj4, zj5, zj6, zj7⟩ := bx8 kj.2) | (go_at_call 9; refine (eqGt_any g _ _ _ _ _ _ _ _ _ _ _ _ _ kj.1.row rj).mono ?_; rintro e wg ⟨rfl, hb⟩; have bg : Below w9.heap.size w9 wg := bj.trans (hb.mono bj.size); have hg := h9.below bg; have kg := HX.out wg bg; clear hb; obtain ⟨xg0, xg1, xg2, xg3, xg4, xg5, xg6, xg7⟩ := hg.cells; obtain ⟨zg0, zg1, zg2, zg3, zg4, zg5, zg6, zg7⟩ := bx8 kg.2))
  rename_i hHeld
  clear hHeld
  have hb := bg
  have HA : Hid (Below W4.heap.size W4 wg ∧ LGt wg (.slice g0 P.ptns.length gc0) (.slice g1 P.crss.length gc1) (.slice g2 P.book.stocks.length gc2) (.slice g3 P.book.lines.length gc3) (.slice g4 P.dffs.length gc4) (.slice g5 P.outs.length gc5) P qb qf qβ qc qs ql qd qo ∧ wg.heap[BG]? = some (.cells #[.string P.name, .int .i64 P.day, (.slice g0 P.ptns.length gc0), (.slice g1 P.crss.length gc1), (.slice g2 P.book.stocks.length gc2), (.slice g3 P.book.lines.length gc3), (.slice g4 P.dffs.length gc4), (.slice g5 P.outs.length gc5), .string ⟨#[]⟩, .int .i64 0, .int .i64 0, .int .i64 0, .int .i64 0, .int .i64 cd] 44) ∧ LGt wg (.slice e0 g.ptns.length f0) (.slice e1 g.crss.length f1) (.slice e2 g.book.stocks.length f2) (.slice e3 g.book.lines.length f3) (.slice e4 g.dffs.length f4) (.slice e5 g.outs.length f5) g b f β bc bs bl bd bo ∧ wg.heap[BX]? = some (.cells #[.string g.name, .int .i64 g.day, (.slice e0 g.ptns.length f0), (.slice e1 g.crss.length f1), (.slice e2 g.book.stocks.length f2), (.slice e3 g.book.lines.length f3), (.slice e4 g.dffs.length f4), (.slice e5 g.outs.length f5)] 42)) := ⟨H9.out.1.trans (hb.mono H9.out.1.size), H9.out.2.1.below hb, (hb.block _ (Array.getElem?_eq_some_iff.1 H9.out.2.2.1).1).trans H9.out.2.2.1, H9.out.2.2.2.1.below hb, (hb.block _ (Array.getElem?_eq_some_iff.1 H9.out.2.2.2.2).1).trans H9.out.2.2.2.2⟩
  clear hb bg bj hg kg hj kj rj h9 HX H9 x0 x1 x2 x3 x4 x5 x6 x7 z0 z1 z2 z3 z4 z5 z6 z7
  obtain ⟨z0, z1, z2, z3, z4, z5, z6, z7⟩ := bx8 HA.out.2.2.2.2
  go_wp2_with fail
  refine (markGt_any g _ _ _ _ _ _ b f β bc bs bl bd bo 1 _ HA.out.2.2.2.1 ⟨by omega, hcg⟩).mono ?_
  rintro e wB ⟨rfl, _, kB⟩
  have HBB : Hid (Below W4.heap.size W4 wB ∧ LGt wB (.slice g0 P.ptns.length gc0) (.slice g1 P.crss.length gc1) (.slice g2 P.book.stocks.length gc2) (.slice g3 P.book.lines.length gc3) (.slice g4 P.dffs.length gc4) (.slice g5 P.outs.length gc5) P qb qf qβ qc qs ql qd qo ∧ wB.heap[BG]? = some (.cells #[.string P.name, .int .i64 P.day, (.slice g0 P.ptns.length gc0), (.slice g1 P.crss.length gc1), (.slice g2 P.book.stocks.length gc2), (.slice g3 P.book.lines.length gc3), (.slice g4 P.dffs.length gc4), (.slice g5 P.outs.length gc5), .string ⟨#[]⟩, .int .i64 0, .int .i64 0, .int .i64 0, .int .i64 0, .int .i64 cd] 44)) := ⟨HA.out.1.trans (kB.below (fun k hk => (HNX.out.1 k hk).1) HA.out.1.size), HA.out.2.1.of_blocks fun k hk => kB.block k (HA.out.2.1.lt hk) (fun hs => by have h1 := (HN.out.1 k hk).1; have h2 := (HNX.out.1 k hs).2; have h3 := HNX.out.2.1; omega), (kB.block _ (Array.getElem?_eq_some_iff.1 HA.out.2.2.1).1 (fun hs => by have h1 := HN.out.2; have h2 := (HNX.out.1 _ hs).2; have h3 := HNX.out.2.1; omega)).trans HA.out.2.2.1⟩
  have gk : ¬ ((1 + cntG g : Nat) : Int) < 0 := by omega
  clear kB HA z0 z1 z2 z3 z4 z5 z6 z7
  obtain ⟨x0, x1, x2, x3, x4, x5, x6, x7, x8, x9, x10, x11, x12, x13⟩ := bx14 HBB.out.2.2
  obtain ⟨y0, y1, y2, y3, y4, y5, y6, y7, y8, y9, y10, y11, y12, y13⟩ := bx14 (HWB.out wB HBB.out.1).1
  go_wp2_with fail
  refine (eqGo_any P cd _ _ _ _ _ _ _ _ _ _ _ _ _ HBB.out.2.1.row (HWB.out wB HBB.out.1).2).mono ?_
  rintro e wD ⟨rfl, hb⟩
  have HD : Hid (Below W4.heap.size W4 wD ∧ LGt wD (.slice g0 P.ptns.length gc0) (.slice g1 P.crss.length gc1) (.slice g2 P.book.stocks.length gc2) (.slice g3 P.book.lines.length gc3) (.slice g4 P.dffs.length gc4) (.slice g5 P.outs.length gc5) P qb qf qβ qc qs ql qd qo ∧ wD.heap[BG]? = some (.cells #[.string P.name, .int .i64 P.day, (.slice g0 P.ptns.length gc0), (.slice g1 P.crss.length gc1), (.slice g2 P.book.stocks.length gc2), (.slice g3 P.book.lines.length gc3), (.slice g4 P.dffs.length gc4), (.slice g5 P.outs.length gc5), .string ⟨#[]⟩, .int .i64 0, .int .i64 0, .int .i64 0, .int .i64 0, .int .i64 cd] 44)) := ⟨HBB.out.1.trans (hb.mono HBB.out.1.size), HBB.out.2.1.below hb, (hb.block _ (Array.getElem?_eq_some_iff.1 HBB.out.2.2).1).trans HBB.out.2.2⟩
  clear hb x0 x1 x2 x3 x4 x5 x6 x7 x8 x9 x10 x11 x12 x13 y0 y1 y2 y3 y4 y5 y6 y7 y8 y9 y10 y11 y12 y13 HBB gk
  obtain ⟨x0, x1, x2, x3, x4, x5, x6, x7, x8, x9, x10, x11, x12, x13⟩ := bx14 HD.out.2.2
  go_wp2_with fail
  refine (markGo_any P cd _ _ _ _ _ _ qb qf qβ qc qs ql qd qo 1 _ HD.out.2.1 ⟨by omega, by omega⟩).mono ?_
  rintro e wE ⟨rfl, lE, kE⟩
  have HE : Hid (Below W4.heap.size W4 wE ∧ LGt wE (.slice g0 P.ptns.length gc0) (.slice g1 P.crss.length gc1) (.slice g2 P.book.stocks.length gc2) (.slice g3 P.book.lines.length gc3) (.slice g4 P.dffs.length gc4) (.slice g5 P.outs.length gc5) (mkG 1 P) qb qf qβ qc qs ql qd qo ∧ wE.heap[BG]? = some (.cells #[.string P.name, .int .i64 P.day, (.slice g0 P.ptns.length gc0), (.slice g1 P.crss.length gc1), (.slice g2 P.book.stocks.length gc2), (.slice g3 P.book.lines.length gc3), (.slice g4 P.dffs.length gc4), (.slice g5 P.outs.length gc5), .string ⟨#[]⟩, .int .i64 0, .int .i64 0, .int .i64 0, .int .i64 0, .int .i64 cd] 44)) := ⟨HD.out.1.trans (kE.below (fun k hk => by have h1 := (HN.out.1 k hk).1; have h2 := HNX.out.2; omega) HD.out.1.size), lE, (kE.block _ (Array.getElem?_eq_some_iff.1 HD.out.2.2).1 (fun hs => (HN.out.1 _ hs).2 rfl)).trans HD.out.2.2⟩
  clear lE kE x0 x1 x2 x3 x4 x5 x6 x7 x8 x9 x10 x11 x12 x13 HD
  obtain ⟨x0, x1, x2, x3, x4, x5, x6, x7, x8, x9, x10, x11, x12, x13⟩ := bx14 HE.out.2.2
  go_wp2_with fail
  refine (heldGo_any P cd _ _ _ _ _ _ 1 _ HE.out.2.1.row ⟨by omega, by omega⟩).mono ?_
  rintro e wF ⟨rfl, hb⟩
  have HF : Hid (Below W4.heap.size W4 wF ∧ LGt wF (.slice g0 P.ptns.length gc0) (.slice g1 P.crss.length gc1) (.slice g2 P.book.stocks.length gc2) (.slice g3 P.book.lines.length gc3) (.slice g4 P.dffs.length gc4) (.slice g5 P.outs.length gc5) (mkG 1 P) qb qf qβ qc qs ql qd qo ∧ wF.heap[BG]? = some (.cells #[.string P.name, .int .i64 P.day, (.slice g0 P.ptns.length gc0), (.slice g1 P.crss.length gc1), (.slice g2 P.book.stocks.length gc2), (.slice g3 P.book.lines.length gc3), (.slice g4 P.dffs.length gc4), (.slice g5 P.outs.length gc5), .string ⟨#[]⟩, .int .i64 0, .int .i64 0, .int .i64 0, .int .i64 0, .int .i64 cd] 44)) := ⟨HE.out.1.trans (hb.mono HE.out.1.size), HE.out.2.1.below hb, (hb.block _ (Array.getElem?_eq_some_iff.1 HE.out.2.2).1).trans HE.out.2.2⟩
  have gq : ¬ ((1 + cntG P : Nat) : Int) < 0 := by omega
  clear hb x0 x1 x2 x3 x4 x5 x6 x7 x8 x9 x10 x11 x12 x13 HE
  obtain ⟨x0, x1, x2, x3, x4, x5, x6, x7⟩ := (HAR.out _ HF.out.1).cells
  go_wp2_with fail
  refine (toGt_any g _ _ _ _ _ _ _ (HAR.out _ HF.out.1).row HP.out).mono ?_
  rintro e wG ⟨v60, v61, v62, v63, v64, v65, rfl, rG, hb⟩
  have HG : Hid (Below W4.heap.size W4 wG ∧ LGt wG (.slice g0 P.ptns.length gc0) (.slice g1 P.crss.length gc1) (.slice g2 P.book.stocks.length gc2) (.slice g3 P.book.lines.length gc3) (.slice g4 P.dffs.length gc4) (.slice g5 P.outs.length gc5) (mkG 1 P) qb qf qβ qc qs ql qd qo ∧ wG.heap[BG]? = some (.cells #[.string P.name, .int .i64 P.day, (.slice g0 P.ptns.length gc0), (.slice g1 P.crss.length gc1), (.slice g2 P.book.stocks.length gc2), (.slice g3 P.book.lines.length gc3), (.slice g4 P.dffs.length gc4), (.slice g5 P.outs.length gc5), .string ⟨#[]⟩, .int .i64 0, .int .i64 0, .int .i64 0, .int .i64 0, .int .i64 cd] 44)) := ⟨HF.out.1.trans (hb.mono HF.out.1.size), HF.out.2.1.below hb, (hb.block _ (Array.getElem?_eq_some_iff.1 HF.out.2.2).1).trans HF.out.2.2⟩
  have RG : Hid (RGt wG v60 v61 v62 v63 v64 v65 g) := rG
  clear hb rG HF x0 x1 x2 x3 x4 x5 x6 x7
  go_wp2_with fail
  refine (HQI.out _ _ _ _ _ _ _ RG.out).mono ?_
  rintro e wH ⟨n0, n1, n2, n3, n4, n5, rb, rf, rβ, rc, rs, rl, rd, ro, rfl, hLH, hgeH, hbH⟩
  obtain ⟨h0, hc0, h1, hc1, h2, hc2, h3, hc3, h4, hc4, h5, hc5, rfl, rfl, rfl, rfl, rfl, rfl⟩ := hLH.row.val
  obtain ⟨WI, hWI⟩ : ∃ WI, wH.alloc (.cells #[.string P.name, .int .i64 P.day, (.slice h0 P.ptns.length hc0), (.slice h1 P.crss.length hc1), (.slice h2 P.book.stocks.length hc2), (.slice h3 P.book.lines.length hc3), (.slice h4 P.dffs.length hc4), (.slice h5 P.outs.length hc5), .string ⟨#[]⟩, .int .i64 0, .int .i64 0, .int .i64 0, .int .i64 0, .int .i64 cd] 44) = WI := ⟨_, rfl⟩
  obtain ⟨BH, hBH⟩ : ∃ BH, BH = wH.heap.size := ⟨_, rfl⟩
  have haI : Below wH.heap.size wH WI := by rw [← hWI]; exact (Below.refl _ _).alloc (Nat.le_refl _) _
  have hxI : WI.heap[BH]? = some (.cells #[.string P.name, .int .i64 P.day, (.slice h0 P.ptns.length hc0), (.slice h1 P.crss.length hc1), (.slice h2 P.book.stocks.length hc2), (.slice h3 P.book.lines.length hc3), (.slice h4 P.dffs.length hc4), (.slice h5 P.outs.length hc5), .string ⟨#[]⟩, .int .i64 0, .int .i64 0, .int .i64 0, .int .i64 0, .int .i64 cd] 44) := by rw [← hWI, hBH]; exact World.alloc_heap_new _ _
  have hb : Below wG.heap.size wG WI := hbH.trans (haI.mono hbH.size)
  have HI : Hid (Below W4.heap.size W4 WI ∧ LGt WI (.slice g0 P.ptns.length gc0) (.slice g1 P.crss.length gc1) (.slice g2 P.book.stocks.length gc2) (.slice g3 P.book.lines.length gc3) (.slice g4 P.dffs.length gc4) (.slice g5 P.outs.length gc5) (mkG 1 P) qb qf qβ qc qs ql qd qo ∧ WI.heap[BG]? = some (.cells #[.string P.name, .int .i64 P.day, (.slice g0 P.ptns.length gc0), (.slice g1 P.crss.length gc1), (.slice g2 P.book.stocks.length gc2), (.slice g3 P.book.lines.length gc3), (.slice g4 P.dffs.length gc4), (.slice g5 P.outs.length gc5), .string ⟨#[]⟩, .int .i64 0, .int .i64 0, .int .i64 0, .int .i64 0, .int .i64 cd] 44)) := ⟨HG.out.1.trans (hb.mono HG.out.1.size), HG.out.2.1.below hb, (hb.block _ (Array.getElem?_eq_some_iff.1 HG.out.2.2).1).trans HG.out.2.2⟩
  have HH : Hid (RGt WI (.slice h0 P.ptns.length hc0) (.slice h1 P.crss.length hc1) (.slice h2 P.book.stocks.length hc2) (.slice h3 P.book.lines.length hc3) (.slice h4 P.dffs.length hc4) (.slice h5 P.outs.length hc5) P ∧ WI.heap[BH]? = some (.cells #[.string P.name, .int .i64 P.day, (.slice h0 P.ptns.length hc0), (.slice h1 P.crss.length hc1), (.slice h2 P.book.stocks.length hc2), (.slice h3 P.book.lines.length hc3), (.slice h4 P.dffs.length hc4), (.slice h5 P.outs.length hc5), .string ⟨#[]⟩, .int .i64 0, .int .i64 0, .int .i64 0, .int .i64 0, .int .i64 cd] 44)) := ⟨hLH.row.below haI, hxI⟩
  go_upto_region 27 with fail
  try rw [hWI]
  try rw [← hBH]
  clear hWI hBH haI hxI hb hLH hbH HG hgeH RG
  obtain ⟨x0, x1, x2, x3, x4, x5, x6, x7, x8, x9, x10, x11, x12, x13⟩ := bx14 HH.out.2
  obtain ⟨y0, y1, y2, y3, y4, y5, y6, y7, y8, y9, y10, y11, y12, y13⟩ := bx14 (HWB.out WI HI.out.1).1
  go_wp2_with fail
  refine (eqGo_any P cd _ _ _ _ _ _ _ _ _ _ _ _ _ HH.out.1 (HWB.out WI HI.out.1).2).mono ?_
  rintro e wJ ⟨rfl, hb⟩
  have HJ : Hid (Below W4.heap.size W4 wJ ∧ LGt wJ (.slice g0 P.ptns.length gc0) (.slice g1 P.crss.length gc1) (.slice g2 P.book.stocks.length gc2) (.slice g3 P.book.lines.length gc3) (.slice g4 P.dffs.length gc4) (.slice g5 P.outs.length gc5) (mkG 1 P) qb qf qβ qc qs ql qd qo ∧ wJ.heap[BG]? = some (.cells #[.string P.name, .int .i64 P.day, (.slice g0 P.ptns.length gc0), (.slice g1 P.crss.length gc1), (.slice g2 P.book.stocks.length gc2), (.slice g3 P.book.lines.length gc3), (.slice g4 P.dffs.length gc4), (.slice g5 P.outs.length gc5), .string ⟨#[]⟩, .int .i64 0, .int .i64 0, .int .i64 0, .int .i64 0, .int .i64 cd] 44)) := ⟨HI.out.1.trans (hb.mono HI.out.1.size), HI.out.2.1.below hb, (hb.block _ (Array.getElem?_eq_some_iff.1 HI.out.2.2).1).trans HI.out.2.2⟩
  clear hb x0 x1 x2 x3 x4 x5 x6 x7 x8 x9 x10 x11 x12 x13 y0 y1 y2 y3 y4 y5 y6 y7 y8 y9 y10 y11 y12 y13 HI HH
  obtain ⟨x0, x1, x2, x3, x4, x5, x6, x7, x8, x9, x10, x11, x12, x13⟩ := bx14 HJ.out.2.2
  go_wp2_with fail
  refine (heldGo_any P cd _ _ _ _ _ _ 1 _ HJ.out.2.1.row ⟨by omega, by omega⟩).mono ?_
  rintro e wK ⟨rfl, hb⟩
  have HK : Hid (Below w.heap.size w wK) := by
    have b := HJ.out.1.trans (hb.mono HJ.out.1.size)
    exact HW1.out.trans ((H4.out.1.trans (b.mono H4.out.1.size)).mono HW1.out.size)
  clear hb x0 x1 x2 x3 x4 x5 x6 x7 x8 x9 x10 x11 x12 x13
  go_wp2
  go_ret
  exact ⟨rfl, HK.out⟩
theorem own : ownKnob Tryz.prog.godebug = none := by kernel_rfl
theorem laidOut : laidOutB Tryz.prog = true := by kernel_rfl
set_option maxRecDepth 100000 in
theorem lifted (os : Os) (started : os.Started) (H : Type) (enc : TypeId × Value → H) :
    ReturnsInHanded {} Tryz.checked os 3 .any (Rows.fnExactGatePartnerSpec.pre6 enc Tryz.prog Tryz.f3 Rows.fnExactGatePartnerRow.domain false) (Rows.fnExactGatePartnerSpec.post enc Tryz.prog Tryz.f3 false true false false) := by
  refine returnsInHanded_of_change (C := Tryz.checked) own started (by kernel_rfl) Tryz.func3
    (ChangeSpec.witness6 (enc := enc) (C := Tryz.checked) false ⟨#[], #[.agg #[.string ⟨#[]⟩, .int .i64 0, .slice none 0 0, .slice none 0 0, .slice none 0 0, .slice none 0 0, .slice none 0 0, .slice none 0 0], .string ⟨#[]⟩], []⟩ 8 (by kernel_rfl) (by kernel_rfl) (by kernel_rfl) (by kernel_rfl)) ?_
  intro W base args ds gs before hval0 hW hcnd _
  have hval : ∀ (j : Nat) t v, Tryz.f3.params[j]? = some t → args[j]? = some v → Value.okWide Tryz.prog W .any base t v := hval0
  have hW' := hW
  obtain ⟨p, q, hA0, hV, rfl, hfz, hnd⟩ := hW
  have hA : DataW.TrodAll enc Tryz.prog W 0 (fun _ => true) true Tryz.f3.params.toList args.toList ds p := hA0
  rw [Tryz.params3] at hA hval
  obtain ⟨v0, vs0, d0, ds0, p0, q0, hargs, rfl, rfl, h0, r0⟩ := trodAll_cons hA
  obtain ⟨v1, vs1, d1, ds1, p1, q1, rfl, rfl, rfl, h1, r1⟩ := trodAll_cons r0
  obtain ⟨rfl, rfl, rfl⟩ := trodAll_nil r1
  obtain rfl : args = #[v0, v1] := by cases args; simp_all
  obtain ⟨rfl, rfl⟩ := trodVars_none hV
  have k0 := h0
  have lt0 : ∀ x ∈ p0, x.block < W.heap.size := by obtain ⟨m, hm⟩ := k0; exact DataW.trod_lt m _ _ _ hm
  obtain ⟨q0, up0, uc0, us0, ul0, ud0, uo0, rfl, hr0⟩ := openGta (hval 0 31 v0 rfl rfl) h0
  have k1 := h1
  have lt1 : ∀ x ∈ p1, x.block < W.heap.size := by obtain ⟨m, hm⟩ := k1; exact DataW.trod_lt m _ _ _ hm
  obtain ⟨s1, rfl, hs1⟩ : ∃ s : ByteArray, v1 = .string s ∧ s.size ≤ maxLen := by
    obtain ⟨s, rfl, _, _, hs⟩ := open_string Tryz.underlying9 (hval 1 9 v1 rfl rfl) h1
    exact ⟨s, rfl, hs⟩
  clear hA0 hval0
  refine (walk q0 up0 uc0 us0 ul0 ud0 uo0 s1 W hr0 hs1).mono fun e W' ⟨he, bel⟩ => ?_
  subst he
  exact ⟨_, rfl, _, _, _, [], _, [], hW', trodAll_mk1 (shut_bool Tryz.underlying4 _), (trodAll_cons_mk (Below.trod laidOut (by kernel_rfl) (of_decide_eq_true (by kernel_rfl)) k0 bel lt0) (trodAll_cons_mk (Below.trod laidOut (by kernel_rfl) (of_decide_eq_true (by kernel_rfl)) k1 bel lt1) trodAll_mk0)), rfl, bel.frame _, fun h => by cases h⟩
theorem over : Rows.fnExactGatePartnerRow.holds Tryz.pinned (OpenSpec.ofChange Rows.fnExactGatePartnerSpec) :=
  OpenClaim.holds_of_wide 3 Tryz.f3 rfl rfl rfl rfl rfl rfl rfl ⟨rfl, rfl, rfl, rfl, rfl⟩ rfl rfl rfl rfl rfl (by kernel_rfl) Tryz.func3 (by kernel_rfl)
    (of_decide_eq_true (by kernel_rfl)) (by unfold Func.isWrapper; first | (rw [if_pos (by decide +kernel)]; kernel_rfl) | (rw [if_neg (by decide +kernel)]; exact ⟨rfl, rfl⟩))
    (fun os started H enc _ => lifted os started H enc)
end fnExactGatePartner
theorem fnExactGatePartner_holds : Rows.FnExactGatePartnerSaid := fnExactGatePartner.over
#print axioms fnExactGatePartner_holds
end Go.Proofs.YtkgkahlhekecmaaGreat
