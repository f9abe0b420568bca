/- GateAnswer answers at every gate, text and numbers as the model does, writes into no argument, keeps nothing of one, and its answer owns its memory. Conditions: none but what the card ties. -/
import Derived.Test.YtmffigmidlgigaaGreatDoorG10
import Derived.Test.YtmffigmidlgigaaGreatDoorG15
import Derived.Test.YtmffigmidlgigaaGreatDoorG20
import Derived.Test.YtmffigmidlgigaaGreatDoorG22
import Derived.Test.YtmffigmidlgigaaGreatDoorG29
import Derived.Test.YtmffigmidlgigaaGreatDoorG30
import Derived.Test.YtmffigmidlgigaaGreatDoorG46
import Derived.Test.YtmffigmidlgigaaGreatDoorG50
import Derived.Test.YtmffigmidlgigaaGreatDoorG51
import Derived.Deep.RegionHeld3
import Derived.LaidLaws
import Derived.Stop.LaidErr
import Derived.Test.YtmffigmidlgigaaGreatDoorCards
import Derived.Test.YtmffigmidlgigaaGreatDoorTie
import Derived.Lib.SmallJoins
import Derived.OpenVars
import Derived.Stop.Joined
import Derived.LaidMore
import Derived.SevenTiedAt
import Derived.Lay
import Derived.MakeChecks
namespace Go.Proofs.YtmffigmidlgigaaGreatDoor
open Go.ChangeShapes Go.WideShapes Go.ChangeAt Go.RowKit Go.Joins
open Go.ChangeMaps (open_string shut_string)
set_option linter.unusedVariables false
namespace fnExactGateAnswer
theorem tPow : (Tryz.prog.globals[0]?).map (·.type) = some 181 := by kernel_rfl
theorem tab {W : World} (hL : laidMetH Tryz.prog Rows.fnExactGateAnswerRow.laid W) : TabOk W := by
  rw [MakeChecks.laidMetH_plain _ _ _ (by kernel_rfl)] at hL
  have h2 := laidMet.tail (laidMet.tail hL)
  exact Lib.tabIs_of_head gPow tPow Tryz.underlying181 Tryz.underlying172 (by kernel_rfl) (by kernel_rfl) h2
/-- Block B holds the gate. -/
structure LP (B t : Nat) (w W : World) (p : Gat) (u0 u1 u2 u3 u4 u5 : Value) : Prop where
  bel : Below w.heap.size w W
  blk : W.heap[B]? = some (.cells #[.string p.name, .int .i64 p.day, u0, u1, u2, u3, u4, u5] t)
  row : RGt W u0 u1 u2 u3 u4 u5 p
theorem LP.below {B t : Nat} {w W W' : World} {p : Gat} {u0 u1 u2 u3 u4 u5 : Value} (h : LP B t w W p u0 u1 u2 u3 u4 u5) (hb : Below W.heap.size W W') : LP B t w W' p u0 u1 u2 u3 u4 u5 :=
  ⟨h.bel.trans (hb.mono h.bel.size), (hb.block B (Array.getElem?_eq_some_iff.1 h.blk).1).trans h.blk, h.row.below hb⟩
theorem LP.drew {B t : Nat} {w W : World} {p : Gat} {u0 u1 u2 u3 u4 u5 : Value} (h : LP B t w W p u0 u1 u2 u3 u4 u5) : LP B t w W.drew p u0 u1 u2 u3 u4 u5 := h.below (Below.refl _ _).drew
theorem LP.cells {B t : Nat} {w W : World} {p : Gat} {u0 u1 u2 u3 u4 u5 : Value} (h : LP B t w W p u0 u1 u2 u3 u4 u5) : W.cell? ⟨B, 0, none⟩ = some (.string p.name) ∧ W.cell? ⟨B, 1, none⟩ = some (.int .i64 p.day) ∧ W.cell? ⟨B, 2, none⟩ = some (u0) ∧ W.cell? ⟨B, 3, none⟩ = some (u1) ∧ W.cell? ⟨B, 4, none⟩ = some (u2) ∧ W.cell? ⟨B, 5, none⟩ = some (u3) ∧ W.cell? ⟨B, 6, none⟩ = some (u4) ∧ W.cell? ⟨B, 7, none⟩ = some (u5) := bx8 h.blk
theorem LP.made {B t : Nat} {w W : World} {p q : Gat} {u0 u1 u2 u3 u4 u5 : Value} (h : LP B t w W p u0 u1 u2 u3 u4 u5) (t' : Nat) {up uc us ul ud uo : Value} (h' : RGt W up uc us ul ud uo q) :
    LP W.heap.size t' w (W.alloc (.cells #[.string q.name, .int .i64 q.day, up, uc, us, ul, ud, uo] t')) q up uc us ul ud uo :=
  ⟨h.bel.alloc h.bel.size _, World.alloc_heap_new W _, h'.below ((Below.refl _ _).alloc (Nat.le_refl _) _)⟩
theorem undrewG {a b : World} (h : Below a.drew.heap.size a.drew b) : Below a.heap.size a b := undrewD h
set_option maxRecDepth 20000 in
set_option maxHeartbeats 32000000 in
theorem walk (g : Gat) (up uc us ul ud uo : Value) (t : ByteArray) (n : Int) (c : Int) (l : Int) (w : World) (h : RGt w up uc us ul ud uo g) (ht : t.size ≤ maxLen) (hL : laidMetH Tryz.prog Rows.fnExactGateAnswerRow.laid w) :
    Calls Tryz.prog 3 #[.agg #[.string g.name, .int .i64 g.day, up, uc, us, ul, ud, uo], .string t, .int .i64 n, .int .i64 c, .int .i64 l] w fun e w' => e = .returned (.bool true) ∧ Below w.heap.size w w' := by
  have T0 : Hid (TabOk w) := tab hL
  clear hL
  obtain ⟨a0, c0, a1, c1, a2, c2, a3, c3, a4, c4, a5, c5, rfl, rfl, rfl, rfl, rfl, rfl⟩ := h.val
  unfold maxLen at ht
  have b1 : Below w.heap.size w (w.alloc (.cells #[.string g.name, .int .i64 g.day, (.slice a0 g.ptns.length c0), (.slice a1 g.crss.length c1), (.slice a2 g.book.stocks.length c2), (.slice a3 g.book.lines.length c3), (.slice a4 g.dffs.length c4), (.slice a5 g.outs.length c5)] 31)) := (Below.refl _ _).alloc (Nat.le_refl _) _
  have H0 : Hid (LP w.heap.size 31 w (w.alloc (.cells #[.string g.name, .int .i64 g.day, (.slice a0 g.ptns.length c0), (.slice a1 g.crss.length c1), (.slice a2 g.book.stocks.length c2), (.slice a3 g.book.lines.length c3), (.slice a4 g.dffs.length c4), (.slice a5 g.outs.length c5)] 31)) g (.slice a0 g.ptns.length c0) (.slice a1 g.crss.length c1) (.slice a2 g.book.stocks.length c2) (.slice a3 g.book.lines.length c3) (.slice a4 g.dffs.length c4) (.slice a5 g.outs.length c5)) := ⟨b1, World.alloc_heap_new w _, h.below b1⟩
  clear h b1
  go_enter Tryz.func3, Tryz.ntmps3
  by_cases lt : 1048576 < t.size
  · have lt' : (1048576 : Int) < (t.size : Int) := by omega
    go_wp2
    go_ret
    exact ⟨rfl, H0.out.bel⟩
  have lt' : ¬ (1048576 : Int) < (t.size : Int) := by omega
  go_wp2_with fail
  refine (szGt_any g _ _ _ _ _ _ 1048576 _ H0.out.row (by omega)).mono ?_
  rintro e w1 ⟨r, rfl, hr, hb1⟩
  have h1 := H0.out.below hb1
  clear hb1 H0
  rcases hr with rfl | ⟨g0, g1, hP⟩
  · have H1 : Hid (Below w.heap.size w w1) := h1.bel
    clear h1
    go_wp2
    go_ret
    exact ⟨rfl, H1.out⟩
  have g0' : ¬ r < 0 := by omega
  have HP : Hid (BdGt 1048576 g) := hP.1
  have HSN : Hid (snP g.ptns ≤ 1048576) := hP.2
  clear hP
  have HARG : Hid (∀ W, Below w1.heap.size w1 W → LP w.heap.size 31 w W g (.slice a0 g.ptns.length c0) (.slice a1 g.crss.length c1) (.slice a2 g.book.stocks.length c2) (.slice a3 g.book.lines.length c3) (.slice a4 g.dffs.length c4) (.slice a5 g.outs.length c5)) := fun W hW => h1.below hW
  have HW1 : Hid (Below w.heap.size w w1) := h1.bel
  clear h1
  obtain ⟨P, hP⟩ : ∃ P, P = ansP g t n c l := ⟨_, rfl⟩
  have hPL : P.lines.length ≤ 1 := by rw [hP]; exact ansP_len g t n c l
  have HQS : Hid (∀ W up uc us ul ud uo, RGt W up uc us ul ud uo g → Calls Tryz.prog 5 #[.agg #[.string g.name, .int .i64 g.day, up, uc, us, ul, ud, uo], .string t, .int .i64 n, .int .i64 c, .int .i64 l] W fun e w' => AnsAS W P e w') := fun W up uc us ul ud uo hW => by rw [hP]; exact gateAnswer_spec g up uc us ul ud uo t n c l W hW (by omega)
  have HQI : Hid (∀ W up uc us ul ud uo, RGt W up uc us ul ud uo g → TabOk W → Calls Tryz.prog 7 #[.agg #[.string g.name, .int .i64 g.day, up, uc, us, ul, ud, uo], .string t, .int .i64 n, .int .i64 c, .int .i64 l] W fun e w' => AnsA W P e w') := fun W up uc us ul ud uo hW hTT => by rw [hP]; exact gateAnswer_impl g up uc us ul ud uo t n c l W hW (by omega) hTT
  clear hP
  have hcg : 1 + cntG g < 100000000000 := cntG_le HP.out HSN.out
  obtain ⟨x0, x1, x2, x3, x4, x5, x6, x7⟩ := (HARG.out w1 (Below.refl _ _)).cells
  go_wp2_with fail
  refine (toGt_any g _ _ _ _ _ _ _ (HARG.out w1 (Below.refl _ _)).row HP.out).mono ?_
  rintro e w2 ⟨v20, v21, v22, v23, v24, v25, rfl, r2, hb2⟩
  have H2 : Hid (Below w1.heap.size w1 w2 ∧ RGt w2 v20 v21 v22 v23 v24 v25 g) := ⟨hb2, r2⟩
  clear hb2 r2 x0 x1 x2 x3 x4 x5 x6 x7
  go_wp2_with fail
  refine (HQS.out _ _ _ _ _ _ _ H2.out.2).mono ?_
  rintro e w3 ⟨us, rfl, hL3, hb3⟩
  obtain ⟨s1, sc1, rfl⟩ := hL3.val
  obtain ⟨W4, hW4⟩ : ∃ W4, w3.alloc (.cells #[.int .i64 P.kind, .string P.ref, .string ⟨#[]⟩, .int .i64 P.day, .slice none 0 0, .slice s1 P.lines.length sc1] 36) = W4 := ⟨_, rfl⟩
  obtain ⟨BW, hBW⟩ : ∃ BW, BW = w3.heap.size := ⟨_, rfl⟩
  have ha4 : Below w3.heap.size w3 W4 := by rw [← hW4]; exact (Below.refl _ _).alloc (Nat.le_refl _) _
  have hx4 : W4.heap[BW]? = some (.cells #[.int .i64 P.kind, .string P.ref, .string ⟨#[]⟩, .int .i64 P.day, .slice none 0 0, .slice s1 P.lines.length sc1] 36) := by rw [← hW4, hBW]; exact World.alloc_heap_new _ _
  have B3 : Below w1.heap.size w1 w3 := H2.out.1.trans (hb3.mono H2.out.1.size)
  have H4 : Hid (Below w1.heap.size w1 W4 ∧ RowLi W4 (.slice s1 P.lines.length sc1) P.lines ∧ W4.heap[BW]? = some (.cells #[.int .i64 P.kind, .string P.ref, .string ⟨#[]⟩, .int .i64 P.day, .slice none 0 0, .slice s1 P.lines.length sc1] 36)) := ⟨B3.trans (ha4.mono B3.size), hL3.below ha4, hx4⟩
  go_upto_region 8 with fail
  try rw [hW4]
  try rw [← hBW]
  clear hW4 hBW ha4 hx4 B3 hL3 hb3 H2
  obtain ⟨x0, x1, x2, x3, x4, x5, x6, x7⟩ := (HARG.out _ H4.out.1).cells
  go_wp2_with fail
  refine (toGt_own g _ _ _ _ _ _ _ (HARG.out _ H4.out.1).row HP.out).mono ?_
  rintro e w5 ⟨v50, v51, v52, v53, v54, v55, rfl, o0, o1, o2, o3, o4, o5, hb5⟩
  obtain ⟨b, f, β, bc, bs, bl, bd, bo, hLG, hlo⟩ := lgt_of_own (HARG.out _ H4.out.1).row.nm HP.out o0 o1 o2 o3 o4 o5
  obtain ⟨e0, f0, e1, f1, e2, f2, e3, f3, e4, f4, e5, f5, rfl, rfl, rfl, rfl, rfl, rfl⟩ := hLG.row.val
  obtain ⟨W6, hW6⟩ : ∃ W6, w5.alloc (.cells #[.string g.name, .int .i64 g.day, (.slice e0 g.ptns.length f0), (.slice e1 g.crss.length f1), (.slice e2 g.book.stocks.length f2), (.slice e3 g.book.lines.length f3), (.slice e4 g.dffs.length f4), (.slice e5 g.outs.length f5)] 47) = W6 := ⟨_, rfl⟩
  obtain ⟨BX, hBX⟩ : ∃ BX, BX = w5.heap.size := ⟨_, rfl⟩
  have ha6 : Below w5.heap.size w5 W6 := by rw [← hW6]; exact (Below.refl _ _).alloc (Nat.le_refl _) _
  have hx6 : W6.heap[BX]? = some (.cells #[.string g.name, .int .i64 g.day, (.slice e0 g.ptns.length f0), (.slice e1 g.crss.length f1), (.slice e2 g.book.stocks.length f2), (.slice e3 g.book.lines.length f3), (.slice e4 g.dffs.length f4), (.slice e5 g.outs.length f5)] 47) := by rw [← hW6, hBX]; exact World.alloc_heap_new _ _
  have hs6 : W6.heap.size = BX + 1 := by rw [← hW6, hBX]; simp
  have HNX : Hid ((∀ k, blkG g b β bc bs bl bd bo k → W4.heap.size ≤ k ∧ k < BX) ∧ W6.heap.size = BX + 1 ∧ W4.heap.size ≤ BX) := ⟨fun k hk => ⟨hlo k hk, by rw [hBX]; exact hLG.lt hk⟩, hs6, by rw [hBX]; exact hb5.size⟩
  have H6 : Hid (Below W4.heap.size W4 W6 ∧ LGt W6 (.slice e0 g.ptns.length f0) (.slice e1 g.crss.length f1) (.slice e2 g.book.stocks.length f2) (.slice e3 g.book.lines.length f3) (.slice e4 g.dffs.length f4) (.slice e5 g.outs.length f5) g b f β bc bs bl bd bo ∧ W6.heap[BX]? = some (.cells #[.string g.name, .int .i64 g.day, (.slice e0 g.ptns.length f0), (.slice e1 g.crss.length f1), (.slice e2 g.book.stocks.length f2), (.slice e3 g.book.lines.length f3), (.slice e4 g.dffs.length f4), (.slice e5 g.outs.length f5)] 47)) := ⟨hb5.trans (ha6.mono hb5.size), hLG.below ha6, hx6⟩
  go_upto_region 9 with fail
  try rw [hW6]
  try rw [← hBX]
  clear hW6 hBX ha6 hx6 hs6 hLG hlo hb5 o0 o1 o2 o3 o4 o5 x0 x1 x2 x3 x4 x5 x6 x7
  obtain ⟨z0, z1, z2, z3, z4, z5, z6, z7⟩ := bx8 H6.out.2.2
  go_wp2_with fail
  refine (HQI.out _ _ _ _ _ _ _ H6.out.2.1.row (((T0.out.below HW1.out).below H4.out.1).below H6.out.1)).mono ?_
  rintro e w7 ⟨ug, d1, rfl, hd1, hL7, hb7⟩
  obtain ⟨g1, gc1, rfl⟩ := hL7.row.val
  obtain ⟨W8, hW8⟩ : ∃ W8, w7.alloc (.cells #[.int .i64 P.kind, .string P.ref, .string ⟨#[]⟩, .int .i64 P.day, .slice none 0 0, .slice g1 P.lines.length gc1] 36) = W8 := ⟨_, rfl⟩
  obtain ⟨BG, hBG⟩ : ∃ BG, BG = w7.heap.size := ⟨_, rfl⟩
  have ha8 : Below w7.heap.size w7 W8 := by rw [← hW8]; exact (Below.refl _ _).alloc (Nat.le_refl _) _
  have hx8 : W8.heap[BG]? = some (.cells #[.int .i64 P.kind, .string P.ref, .string ⟨#[]⟩, .int .i64 P.day, .slice none 0 0, .slice g1 P.lines.length gc1] 36) := by rw [← hW8, hBG]; exact World.alloc_heap_new _ _
  have hge : ∀ k, blkA d1 P k → W6.heap.size ≤ k := fun k hk => by
    rw [hk.1]
    exact hd1
  have hlt : ∀ k, blkA d1 P k → k < BG := fun k hk => by rw [hBG]; exact la_lt hL7 hk
  have hs7 := hb7.size
  have HN : Hid ((∀ k, blkA d1 P k → W6.heap.size ≤ k ∧ k ≠ BG) ∧ W6.heap.size ≤ BG) := ⟨fun k hk => ⟨hge k hk, by have := hlt k hk; omega⟩, by rw [hBG]; exact hs7⟩
  have B7 : Below W4.heap.size W4 w7 := H6.out.1.trans (hb7.mono H6.out.1.size)
  have H8 : Hid (Below W4.heap.size W4 W8 ∧ LLi d1 W8 (.slice g1 P.lines.length gc1) P.lines ∧ W8.heap[BG]? = some (.cells #[.int .i64 P.kind, .string P.ref, .string ⟨#[]⟩, .int .i64 P.day, .slice none 0 0, .slice g1 P.lines.length gc1] 36) ∧ LGt W8 (.slice e0 g.ptns.length f0) (.slice e1 g.crss.length f1) (.slice e2 g.book.stocks.length f2) (.slice e3 g.book.lines.length f3) (.slice e4 g.dffs.length f4) (.slice e5 g.outs.length f5) g b f β bc bs bl bd bo ∧ W8.heap[BX]? = some (.cells #[.string g.name, .int .i64 g.day, (.slice e0 g.ptns.length f0), (.slice e1 g.crss.length f1), (.slice e2 g.book.stocks.length f2), (.slice e3 g.book.lines.length f3), (.slice e4 g.dffs.length f4), (.slice e5 g.outs.length f5)] 47)) := ⟨B7.trans (ha8.mono B7.size), hL7.below ha8, hx8, (H6.out.2.1.below hb7).below ha8, by
    have e := (hb7.block _ (Array.getElem?_eq_some_iff.1 H6.out.2.2).1).trans H6.out.2.2
    exact (ha8.block _ (Array.getElem?_eq_some_iff.1 e).1).trans e⟩
  go_upto_region 10 with fail
  try rw [hW8]
  try rw [← hBG]
  clear hW8 hBG ha8 hx8 B7 hL7 hb7 hge hlt hs7 hd1 z0 z1 z2 z3 z4 z5 z6 z7 H6
  have HWB : Hid (∀ W, Below W4.heap.size W4 W → W.heap[BW]? = some (.cells #[.int .i64 P.kind, .string P.ref, .string ⟨#[]⟩, .int .i64 P.day, .slice none 0 0, .slice s1 P.lines.length sc1] 36) ∧ RowLi W (.slice s1 P.lines.length sc1) P.lines) := fun W hW => ⟨(hW.block _ (Array.getElem?_eq_some_iff.1 H4.out.2.2).1).trans H4.out.2.2, H4.out.2.1.below hW⟩
  have HAR : Hid (∀ W, Below W4.heap.size W4 W → LP w.heap.size 31 w W g (.slice a0 g.ptns.length c0) (.slice a1 g.crss.length c1) (.slice a2 g.book.stocks.length c2) (.slice a3 g.book.lines.length c3) (.slice a4 g.dffs.length c4) (.slice a5 g.outs.length c5)) := fun W hW => HARG.out W (H4.out.1.trans (hW.mono H4.out.1.size))
  obtain ⟨x0, x1, x2, x3, x4, x5⟩ := bx6A H8.out.2.2.1
  obtain ⟨y0, y1, y2, y3, y4, y5⟩ := bx6A (HWB.out W8 H8.out.1).1
  go_wp2_with fail
  refine (eqPa_any P _ _ _ H8.out.2.1.row (HWB.out W8 H8.out.1).2).mono ?_
  rintro e w9 ⟨rfl, hb⟩
  have H9 : Hid (Below W4.heap.size W4 w9 ∧ LLi d1 w9 (.slice g1 P.lines.length gc1) P.lines ∧ w9.heap[BG]? = some (.cells #[.int .i64 P.kind, .string P.ref, .string ⟨#[]⟩, .int .i64 P.day, .slice none 0 0, .slice g1 P.lines.length gc1] 36) ∧ LGt w9 (.slice e0 g.ptns.length f0) (.slice e1 g.crss.length f1) (.slice e2 g.book.stocks.length f2) (.slice e3 g.book.lines.length f3) (.slice e4 g.dffs.length f4) (.slice e5 g.outs.length f5) g b f β bc bs bl bd bo ∧ w9.heap[BX]? = some (.cells #[.string g.name, .int .i64 g.day, (.slice e0 g.ptns.length f0), (.slice e1 g.crss.length f1), (.slice e2 g.book.stocks.length f2), (.slice e3 g.book.lines.length f3), (.slice e4 g.dffs.length f4), (.slice e5 g.outs.length f5)] 47)) := ⟨H8.out.1.trans (hb.mono H8.out.1.size), H8.out.2.1.below hb, (hb.block _ (Array.getElem?_eq_some_iff.1 H8.out.2.2.1).1).trans H8.out.2.2.1, H8.out.2.2.2.1.below hb, (hb.block _ (Array.getElem?_eq_some_iff.1 H8.out.2.2.2.2).1).trans H8.out.2.2.2.2⟩
  clear hb x0 x1 x2 x3 x4 x5 y0 y1 y2 y3 y4 y5 H8
  have h9 := HAR.out w9 H9.out.1
  have HX : Hid (∀ W, Below w9.heap.size w9 W → LGt W (.slice e0 g.ptns.length f0) (.slice e1 g.crss.length f1) (.slice e2 g.book.stocks.length f2) (.slice e3 g.book.lines.length f3) (.slice e4 g.dffs.length f4) (.slice e5 g.outs.length f5) g b f β bc bs bl bd bo ∧ W.heap[BX]? = some (.cells #[.string g.name, .int .i64 g.day, (.slice e0 g.ptns.length f0), (.slice e1 g.crss.length f1), (.slice e2 g.book.stocks.length f2), (.slice e3 g.book.lines.length f3), (.slice e4 g.dffs.length f4), (.slice e5 g.outs.length f5)] 47)) := fun W hW => ⟨H9.out.2.2.2.1.below hW, (hW.block _ (Array.getElem?_eq_some_iff.1 H9.out.2.2.2.2).1).trans H9.out.2.2.2.2⟩
  obtain ⟨x0, x1, x2, x3, x4, x5, x6, x7⟩ := h9.cells
  obtain ⟨z0, z1, z2, z3, z4, z5, z6, z7⟩ := bx8 H9.out.2.2.2.2
  go_wp2_with fail
  go_region_held3 (fun W => (W.cell? ⟨w.heap.size, 0, none⟩ = some (.string g.name) ∧ W.cell? ⟨w.heap.size, 1, none⟩ = some (.int .i64 g.day) ∧ W.cell? ⟨w.heap.size, 2, none⟩ = some ((.slice a0 g.ptns.length c0)) ∧ W.cell? ⟨w.heap.size, 3, none⟩ = some ((.slice a1 g.crss.length c1)) ∧ W.cell? ⟨w.heap.size, 4, none⟩ = some ((.slice a2 g.book.stocks.length c2)) ∧ W.cell? ⟨w.heap.size, 5, none⟩ = some ((.slice a3 g.book.lines.length c3)) ∧ W.cell? ⟨w.heap.size, 6, none⟩ = some ((.slice a4 g.dffs.length c4)) ∧ W.cell? ⟨w.heap.size, 7, none⟩ = some ((.slice a5 g.outs.length c5))) ∧ W.cell? ⟨BX, 0, none⟩ = some (.string g.name) ∧ W.cell? ⟨BX, 1, none⟩ = some (.int .i64 g.day) ∧ W.cell? ⟨BX, 2, none⟩ = some ((.slice e0 g.ptns.length f0)) ∧ W.cell? ⟨BX, 3, none⟩ = some ((.slice e1 g.crss.length f1)) ∧ W.cell? ⟨BX, 4, none⟩ = some ((.slice e2 g.book.stocks.length f2)) ∧ W.cell? ⟨BX, 5, none⟩ = some ((.slice e3 g.book.lines.length f3)) ∧ W.cell? ⟨BX, 6, none⟩ = some ((.slice e4 g.dffs.length f4)) ∧ W.cell? ⟨BX, 7, none⟩ = some ((.slice e5 g.outs.length f5))) (go_keep) (first | (go_at_call_of 6 (Value.agg #[.string g.name, .int .i64 g.day, (.slice a0 g.ptns.length c0), (.slice a1 g.crss.length c1), (.slice a2 g.book.stocks.length c2), (.slice a3 g.book.lines.length c3), (.slice a4 g.dffs.length c4), (.slice a5 g.outs.length c5)]); refine (toGt_any g _ _ _ _ _ _ _ h9.drew.row HP.out).mono ?_; rintro e wj ⟨vj0, vj1, vj2, vj3, vj4, vj5, rfl, rj, hb⟩; have bj : Below w9.heap.size w9 wj := (by with_reducible first | exact hb | exact undrewG hb); have hj := h9.below bj; have kj := HX.out wj bj; clear hb; obtain ⟨xj0, xj1, xj2, xj3, xj4, xj5, xj6, xj7⟩ := hj.cells; obtain ⟨zj0, zj1, zj2, zj3, zj4, zj5, zj6, zj7⟩ := bx8 kj.2) | (go_at_call 9; refine (eqGt_any g _ _ _ _ _ _ _ _ _ _ _ _ _ kj.1.row rj).mono ?_; rintro e wg ⟨rfl, hb⟩; have bg : Below w9.heap.size w9 wg := bj.trans (hb.mono bj.size); have hg := h9.below bg; have kg := HX.out wg bg; clear hb; obtain ⟨xg0, xg1, xg2, xg3, xg4, xg5, xg6, xg7⟩ := hg.cells; obtain ⟨zg0, zg1, zg2, zg3, zg4, zg5, zg6, zg7⟩ := bx8 kg.2))
  rename_i hHeld
  clear hHeld
  have hb := bg
  have HA : Hid (Below W4.heap.size W4 wg ∧ LLi d1 wg (.slice g1 P.lines.length gc1) P.lines ∧ wg.heap[BG]? = some (.cells #[.int .i64 P.kind, .string P.ref, .string ⟨#[]⟩, .int .i64 P.day, .slice none 0 0, .slice g1 P.lines.length gc1] 36) ∧ LGt wg (.slice e0 g.ptns.length f0) (.slice e1 g.crss.length f1) (.slice e2 g.book.stocks.length f2) (.slice e3 g.book.lines.length f3) (.slice e4 g.dffs.length f4) (.slice e5 g.outs.length f5) g b f β bc bs bl bd bo ∧ wg.heap[BX]? = some (.cells #[.string g.name, .int .i64 g.day, (.slice e0 g.ptns.length f0), (.slice e1 g.crss.length f1), (.slice e2 g.book.stocks.length f2), (.slice e3 g.book.lines.length f3), (.slice e4 g.dffs.length f4), (.slice e5 g.outs.length f5)] 47)) := ⟨H9.out.1.trans (hb.mono H9.out.1.size), H9.out.2.1.below hb, (hb.block _ (Array.getElem?_eq_some_iff.1 H9.out.2.2.1).1).trans H9.out.2.2.1, H9.out.2.2.2.1.below hb, (hb.block _ (Array.getElem?_eq_some_iff.1 H9.out.2.2.2.2).1).trans H9.out.2.2.2.2⟩
  clear hb bg bj hg kg hj kj rj h9 HX H9 x0 x1 x2 x3 x4 x5 x6 x7 z0 z1 z2 z3 z4 z5 z6 z7
  obtain ⟨z0, z1, z2, z3, z4, z5, z6, z7⟩ := bx8 HA.out.2.2.2.2
  go_wp2_with fail
  refine (markGt_any g _ _ _ _ _ _ b f β bc bs bl bd bo 1 _ HA.out.2.2.2.1 ⟨by omega, hcg⟩).mono ?_
  rintro e wB ⟨rfl, _, kB⟩
  have HBB : Hid (Below W4.heap.size W4 wB ∧ LLi d1 wB (.slice g1 P.lines.length gc1) P.lines ∧ wB.heap[BG]? = some (.cells #[.int .i64 P.kind, .string P.ref, .string ⟨#[]⟩, .int .i64 P.day, .slice none 0 0, .slice g1 P.lines.length gc1] 36)) := ⟨HA.out.1.trans (kB.below (fun k hk => (HNX.out.1 k hk).1) HA.out.1.size), la_keep HA.out.2.1 kB (fun k hk hs => by have h1 := (HN.out.1 k hk).1; have h2 := (HNX.out.1 k hs).2; have h3 := HNX.out.2.1; omega), (kB.block _ (Array.getElem?_eq_some_iff.1 HA.out.2.2.1).1 (fun hs => by have h1 := HN.out.2; have h2 := (HNX.out.1 _ hs).2; have h3 := HNX.out.2.1; omega)).trans HA.out.2.2.1⟩
  have gk : ¬ ((1 + cntG g : Nat) : Int) < 0 := by omega
  clear kB HA z0 z1 z2 z3 z4 z5 z6 z7
  obtain ⟨x0, x1, x2, x3, x4, x5⟩ := bx6A HBB.out.2.2
  obtain ⟨y0, y1, y2, y3, y4, y5⟩ := bx6A (HWB.out wB HBB.out.1).1
  go_wp2_with fail
  refine (eqPa_any P _ _ _ HBB.out.2.1.row (HWB.out wB HBB.out.1).2).mono ?_
  rintro e wD ⟨rfl, hb⟩
  have HD : Hid (Below W4.heap.size W4 wD ∧ LLi d1 wD (.slice g1 P.lines.length gc1) P.lines ∧ wD.heap[BG]? = some (.cells #[.int .i64 P.kind, .string P.ref, .string ⟨#[]⟩, .int .i64 P.day, .slice none 0 0, .slice g1 P.lines.length gc1] 36)) := ⟨HBB.out.1.trans (hb.mono HBB.out.1.size), HBB.out.2.1.below hb, (hb.block _ (Array.getElem?_eq_some_iff.1 HBB.out.2.2).1).trans HBB.out.2.2⟩
  clear hb x0 x1 x2 x3 x4 x5 y0 y1 y2 y3 y4 y5 HBB gk
  obtain ⟨x0, x1, x2, x3, x4, x5⟩ := bx6A HD.out.2.2
  go_wp2_with fail
  refine (markPa_any d1 _ P 1 _ HD.out.2.1 ⟨by omega, by omega⟩).mono ?_
  rintro e wE ⟨rfl, lE, kE⟩
  have HE : Hid (Below W4.heap.size W4 wE ∧ LLi d1 wE (.slice g1 P.lines.length gc1) (mkPa 1 P).lines ∧ wE.heap[BG]? = some (.cells #[.int .i64 P.kind, .string P.ref, .string ⟨#[]⟩, .int .i64 P.day, .slice none 0 0, .slice g1 P.lines.length gc1] 36)) := ⟨HD.out.1.trans (kE.below (fun k hk => by have h1 := (HN.out.1 k hk).1; have h2 := HNX.out.2; omega) HD.out.1.size), lE, (kE.block _ (Array.getElem?_eq_some_iff.1 HD.out.2.2).1 (fun hs => (HN.out.1 _ hs).2 rfl)).trans HD.out.2.2⟩
  clear lE kE x0 x1 x2 x3 x4 x5 HD
  obtain ⟨x0, x1, x2, x3, x4, x5⟩ := bx6A HE.out.2.2
  go_wp2_with fail
  refine (heldPa_any _ P 1 _ HE.out.2.1.row ⟨by omega, by omega⟩).mono ?_
  rintro e wF ⟨rfl, hb⟩
  have HF : Hid (Below W4.heap.size W4 wF ∧ LLi d1 wF (.slice g1 P.lines.length gc1) (mkPa 1 P).lines ∧ wF.heap[BG]? = some (.cells #[.int .i64 P.kind, .string P.ref, .string ⟨#[]⟩, .int .i64 P.day, .slice none 0 0, .slice g1 P.lines.length gc1] 36)) := ⟨HE.out.1.trans (hb.mono HE.out.1.size), HE.out.2.1.below hb, (hb.block _ (Array.getElem?_eq_some_iff.1 HE.out.2.2).1).trans HE.out.2.2⟩
  have gq : ¬ ((1 + P.lines.length * 5 : Nat) : Int) < 0 := by omega
  clear hb x0 x1 x2 x3 x4 x5 HE
  obtain ⟨x0, x1, x2, x3, x4, x5, x6, x7⟩ := (HAR.out _ HF.out.1).cells
  go_wp2_with fail
  refine (toGt_any g _ _ _ _ _ _ _ (HAR.out _ HF.out.1).row HP.out).mono ?_
  rintro e wG ⟨v60, v61, v62, v63, v64, v65, rfl, rG, hb⟩
  have HG : Hid (Below W4.heap.size W4 wG ∧ LLi d1 wG (.slice g1 P.lines.length gc1) (mkPa 1 P).lines ∧ wG.heap[BG]? = some (.cells #[.int .i64 P.kind, .string P.ref, .string ⟨#[]⟩, .int .i64 P.day, .slice none 0 0, .slice g1 P.lines.length gc1] 36)) := ⟨HF.out.1.trans (hb.mono HF.out.1.size), HF.out.2.1.below hb, (hb.block _ (Array.getElem?_eq_some_iff.1 HF.out.2.2).1).trans HF.out.2.2⟩
  have RG : Hid (RGt wG v60 v61 v62 v63 v64 v65 g) := rG
  clear hb rG HF x0 x1 x2 x3 x4 x5 x6 x7
  go_wp2_with fail
  refine (HQI.out _ _ _ _ _ _ _ RG.out (((T0.out.below HW1.out).below H4.out.1).below HG.out.1)).mono ?_
  rintro e wH ⟨uh, f1, rfl, hd1, hLH, hbH⟩
  obtain ⟨h1, hc1, rfl⟩ := hLH.row.val
  obtain ⟨WI, hWI⟩ : ∃ WI, wH.alloc (.cells #[.int .i64 P.kind, .string P.ref, .string ⟨#[]⟩, .int .i64 P.day, .slice none 0 0, .slice h1 P.lines.length hc1] 36) = WI := ⟨_, rfl⟩
  obtain ⟨BH, hBH⟩ : ∃ BH, BH = wH.heap.size := ⟨_, rfl⟩
  have haI : Below wH.heap.size wH WI := by rw [← hWI]; exact (Below.refl _ _).alloc (Nat.le_refl _) _
  have hxI : WI.heap[BH]? = some (.cells #[.int .i64 P.kind, .string P.ref, .string ⟨#[]⟩, .int .i64 P.day, .slice none 0 0, .slice h1 P.lines.length hc1] 36) := by rw [← hWI, hBH]; exact World.alloc_heap_new _ _
  have hb : Below wG.heap.size wG WI := hbH.trans (haI.mono hbH.size)
  have HI : Hid (Below W4.heap.size W4 WI ∧ LLi d1 WI (.slice g1 P.lines.length gc1) (mkPa 1 P).lines ∧ WI.heap[BG]? = some (.cells #[.int .i64 P.kind, .string P.ref, .string ⟨#[]⟩, .int .i64 P.day, .slice none 0 0, .slice g1 P.lines.length gc1] 36)) := ⟨HG.out.1.trans (hb.mono HG.out.1.size), HG.out.2.1.below hb, (hb.block _ (Array.getElem?_eq_some_iff.1 HG.out.2.2).1).trans HG.out.2.2⟩
  have HH : Hid (RowLi WI (.slice h1 P.lines.length hc1) P.lines ∧ WI.heap[BH]? = some (.cells #[.int .i64 P.kind, .string P.ref, .string ⟨#[]⟩, .int .i64 P.day, .slice none 0 0, .slice h1 P.lines.length hc1] 36)) := ⟨hLH.row.below haI, hxI⟩
  go_upto_region 27 with fail
  try rw [hWI]
  try rw [← hBH]
  clear hWI hBH haI hxI hb hLH hbH HG hd1 RG
  obtain ⟨x0, x1, x2, x3, x4, x5⟩ := bx6A HH.out.2
  obtain ⟨y0, y1, y2, y3, y4, y5⟩ := bx6A (HWB.out WI HI.out.1).1
  go_wp2_with fail
  refine (eqPa_any P _ _ _ HH.out.1 (HWB.out WI HI.out.1).2).mono ?_
  rintro e wJ ⟨rfl, hb⟩
  have HJ : Hid (Below W4.heap.size W4 wJ ∧ LLi d1 wJ (.slice g1 P.lines.length gc1) (mkPa 1 P).lines ∧ wJ.heap[BG]? = some (.cells #[.int .i64 P.kind, .string P.ref, .string ⟨#[]⟩, .int .i64 P.day, .slice none 0 0, .slice g1 P.lines.length gc1] 36)) := ⟨HI.out.1.trans (hb.mono HI.out.1.size), HI.out.2.1.below hb, (hb.block _ (Array.getElem?_eq_some_iff.1 HI.out.2.2).1).trans HI.out.2.2⟩
  clear hb x0 x1 x2 x3 x4 x5 y0 y1 y2 y3 y4 y5 HI HH
  obtain ⟨x0, x1, x2, x3, x4, x5⟩ := bx6A HJ.out.2.2
  go_wp2_with fail
  refine (heldPa_any _ P 1 _ HJ.out.2.1.row ⟨by omega, by omega⟩).mono ?_
  rintro e wK ⟨rfl, hb⟩
  have HK : Hid (Below w.heap.size w wK) := by
    have b := HJ.out.1.trans (hb.mono HJ.out.1.size)
    exact HW1.out.trans ((H4.out.1.trans (b.mono H4.out.1.size)).mono HW1.out.size)
  clear hb x0 x1 x2 x3 x4 x5
  go_wp2
  go_ret
  exact ⟨rfl, HK.out⟩
theorem own : ownKnob Tryz.prog.godebug = none := by kernel_rfl
theorem laidOut : laidOutB Tryz.prog = true := by kernel_rfl
set_option maxRecDepth 100000 in
theorem lifted (os : Os) (started : os.Started) (H : Type) (enc : TypeId × Value → H) :
    ReturnsInHanded {} Tryz.checked os 3 .any (fun w args => (Rows.fnExactGateAnswerSpec.pre enc Tryz.prog Tryz.f3 [] false w args ∧ laidMetH Tryz.prog Rows.fnExactGateAnswerRow.laid w) ∧ sizedMet enc Tryz.prog Tryz.f3 (OpenSpec.ofChange Rows.fnExactGateAnswerSpec) false w args)
      (Rows.fnExactGateAnswerSpec.post enc Tryz.prog Tryz.f3 false true false false) := by
  refine returnsInHanded_of_change_and (C := Tryz.checked) (X := fun w _ => laidMetH Tryz.prog Rows.fnExactGateAnswerRow.laid w) (fun _ _ _ hh h => h.of_heap hh) own started (by kernel_rfl) Tryz.func3
    (ChangeSpec.witness_shaped (enc := enc) (C := Tryz.checked) (os := os) (X := fun w _ => laidMetH Tryz.prog Rows.fnExactGateAnswerRow.laid w) false (World.laidAll Tryz.prog os Rows.fnExactGateAnswerRow.laid) #[.agg #[.string ⟨#[]⟩, .int .i64 0, .slice none 0 0, .slice none 0 0, .slice none 0 0, .slice none 0 0, .slice none 0 0, .slice none 0 0], .string ⟨#[]⟩, .int .i64 0, .int .i64 0, .int .i64 0] 8 (World.laidAll_os _ _ _) (World.shaped_of_ZipB (by kernel_rfl) (by kernel_rfl)) (by kernel_rfl) (by kernel_rfl) (by kernel_rfl) (by rw [MakeChecks.laidMetH_plain _ _ _ (by kernel_rfl)]; exact laidMet_laidAll _ (by kernel_rfl) (by kernel_rfl))) ?_
  intro W base args ds gs before hval0 hW hcnd _ hL _
  have hval : ∀ (j : Nat) t v, Tryz.f3.params[j]? = some t → args[j]? = some v → Value.okWide Tryz.prog W .any base t v := hval0
  have hW' := hW
  obtain ⟨p, q, hA0, hV, rfl, hfz, hnd⟩ := hW
  have hA : DataW.TrodAll enc Tryz.prog W 0 (fun _ => true) true Tryz.f3.params.toList args.toList ds p := hA0
  rw [Tryz.params3] at hA hval
  obtain ⟨v0, vs0, d0, ds0, p0, q0, hargs, rfl, rfl, h0, r0⟩ := trodAll_cons hA
  obtain ⟨v1, vs1, d1, ds1, p1, q1, rfl, rfl, rfl, h1, r1⟩ := trodAll_cons r0
  obtain ⟨v2, vs2, d2, ds2, p2, q2, rfl, rfl, rfl, h2, r2⟩ := trodAll_cons r1
  obtain ⟨v3, vs3, d3, ds3, p3, q3, rfl, rfl, rfl, h3, r3⟩ := trodAll_cons r2
  obtain ⟨v4, vs4, d4, ds4, p4, q4, rfl, rfl, rfl, h4, r4⟩ := trodAll_cons r3
  obtain ⟨rfl, rfl, rfl⟩ := trodAll_nil r4
  obtain rfl : args = #[v0, v1, v2, v3, v4] := by cases args; simp_all
  obtain ⟨rfl, rfl⟩ := trodVars_none hV
  have k0 := h0
  have lt0 : ∀ x ∈ p0, x.block < W.heap.size := by obtain ⟨m, hm⟩ := k0; exact DataW.trod_lt m _ _ _ hm
  obtain ⟨q0, up0, uc0, us0, ul0, ud0, uo0, rfl, hr0⟩ := openGta (hval 0 31 v0 rfl rfl) h0
  have k1 := h1
  have lt1 : ∀ x ∈ p1, x.block < W.heap.size := by obtain ⟨m, hm⟩ := k1; exact DataW.trod_lt m _ _ _ hm
  obtain ⟨s1, rfl, hs1⟩ : ∃ s : ByteArray, v1 = .string s ∧ s.size ≤ maxLen := by
    obtain ⟨s, rfl, _, _, hs⟩ := open_string Tryz.underlying9 (hval 1 9 v1 rfl rfl) h1
    exact ⟨s, rfl, hs⟩
  have k2 := h2
  have lt2 : ∀ x ∈ p2, x.block < W.heap.size := by obtain ⟨m, hm⟩ := k2; exact DataW.trod_lt m _ _ _ hm
  obtain ⟨n2, rfl⟩ : ∃ n : Int, v2 = .int .i64 n := by
    obtain ⟨n, rfl, _, _, _⟩ := open_int Tryz.underlying2 (hval 2 2 v2 rfl rfl) h2
    exact ⟨n, rfl⟩
  have k3 := h3
  have lt3 : ∀ x ∈ p3, x.block < W.heap.size := by obtain ⟨m, hm⟩ := k3; exact DataW.trod_lt m _ _ _ hm
  obtain ⟨n3, rfl⟩ : ∃ n : Int, v3 = .int .i64 n := by
    obtain ⟨n, rfl, _, _, _⟩ := open_int Tryz.underlying2 (hval 3 2 v3 rfl rfl) h3
    exact ⟨n, rfl⟩
  have k4 := h4
  have lt4 : ∀ x ∈ p4, x.block < W.heap.size := by obtain ⟨m, hm⟩ := k4; exact DataW.trod_lt m _ _ _ hm
  obtain ⟨n4, rfl⟩ : ∃ n : Int, v4 = .int .i64 n := by
    obtain ⟨n, rfl, _, _, _⟩ := open_int Tryz.underlying2 (hval 4 2 v4 rfl rfl) h4
    exact ⟨n, rfl⟩
  clear hA0 hval0
  refine (walk q0 up0 uc0 us0 ul0 ud0 uo0 s1 n2 n3 n4 W hr0 hs1 hL).mono fun e W' ⟨he, bel⟩ => ?_
  subst he
  exact ⟨_, rfl, _, _, _, [], _, [], hW', trodAll_mk1 (shut_bool Tryz.underlying4 _), (trodAll_cons_mk (Below.trod laidOut (by kernel_rfl) (of_decide_eq_true (by kernel_rfl)) k0 bel lt0) (trodAll_cons_mk (Below.trod laidOut (by kernel_rfl) (of_decide_eq_true (by kernel_rfl)) k1 bel lt1) (trodAll_cons_mk (Below.trod laidOut (by kernel_rfl) (of_decide_eq_true (by kernel_rfl)) k2 bel lt2) (trodAll_cons_mk (Below.trod laidOut (by kernel_rfl) (of_decide_eq_true (by kernel_rfl)) k3 bel lt3) (trodAll_cons_mk (Below.trod laidOut (by kernel_rfl) (of_decide_eq_true (by kernel_rfl)) k4 bel lt4) trodAll_mk0))))), rfl, bel.frame _, fun h => by cases h⟩
theorem over : Rows.fnExactGateAnswerRow.holds Tryz.pinned (OpenSpec.ofChange Rows.fnExactGateAnswerSpec) :=
  OpenClaim.holds_of_wide 3 Tryz.f3 rfl rfl rfl rfl rfl rfl rfl ⟨rfl, rfl, rfl, rfl, rfl⟩ rfl rfl rfl rfl rfl (by kernel_rfl) Tryz.func3 (by kernel_rfl)
    (of_decide_eq_true (by kernel_rfl)) (by unfold Func.isWrapper; first | (rw [if_pos (by decide +kernel)]; kernel_rfl) | (rw [if_neg (by decide +kernel)]; exact ⟨rfl, rfl⟩))
    (fun os started H enc _ => lifted os started H enc)
theorem card : Rows.FnExactGateAnswerCardSaid :=
  Claim7.holds_tied_plain_at .later [] [.data, .data, .data] true (true, "8aafb331d2bd118944d82906daac554023f7147261b8fa94be88c3c4645191f7") false
    over (fun _ h => by cases h) (by kernel_rfl) (fun _ h => by cases h) fnExactGateAnswer_row_tie rfl ⟨rfl, rfl⟩ (by kernel_rfl) rfl
    (fun f fn hf hfn => by
      obtain rfl : f = 3 := Option.some.inj ((show Tryz.prog.funcNamed "loop.example/g00096/laws.FnExactGateAnswer" = some 3 by kernel_rfl).symm.trans hf) |>.symm
      obtain rfl : fn = Tryz.f3 := (Option.some.inj (Tryz.func3.symm.trans hfn)).symm
      exact ⟨by kernel_rfl, fun j t ht => by
        rw [Tryz.params3] at ht
        have hj : Tryz.prog.wantsStandIn t = false := by
          rcases j with _ | j
          · have e : t = 31 := by simpa using ht.symm
            subst e
            exact (show Tryz.prog.wantsStandIn 31 = false by kernel_rfl)
          rcases j with _ | j
          · have e : t = 9 := by simpa using ht.symm
            subst e
            exact (show Tryz.prog.wantsStandIn 9 = false by kernel_rfl)
          rcases j with _ | j
          · have e : t = 2 := by simpa using ht.symm
            subst e
            exact (show Tryz.prog.wantsStandIn 2 = false by kernel_rfl)
          rcases j with _ | j
          · have e : t = 2 := by simpa using ht.symm
            subst e
            exact (show Tryz.prog.wantsStandIn 2 = false by kernel_rfl)
          rcases j with _ | j
          · have e : t = 2 := by simpa using ht.symm
            subst e
            exact (show Tryz.prog.wantsStandIn 2 = false by kernel_rfl)
          simp at ht
        exact hj⟩)
    (by kernel_rfl)
end fnExactGateAnswer
theorem fnExactGateAnswer_holds : Rows.FnExactGateAnswerCardSaid := fnExactGateAnswer.card
#print axioms fnExactGateAnswer_holds
end Go.Proofs.YtmffigmidlgigaaGreatDoor
