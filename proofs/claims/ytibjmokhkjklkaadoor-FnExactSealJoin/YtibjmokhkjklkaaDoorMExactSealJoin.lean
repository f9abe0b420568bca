/- SealJoin answers at every list of Events, chain and Event as the model does, writes into no argument, and its answer owns its memory. Conditions: none but what the card ties (the words of events as the program lays them). -/
import Derived.Test.YtibjmokhkjklkaaDoorG50
import Derived.Test.YtibjmokhkjklkaaDoorG51
import Derived.Test.YtibjmokhkjklkaaDoorG33
import Derived.Test.YtibjmokhkjklkaaDoorG36
import Derived.Test.YtibjmokhkjklkaaDoorG37
import Derived.Test.YtibjmokhkjklkaaDoorG39
import Derived.Test.YtibjmokhkjklkaaDoorG43
import Derived.Deep.RegionHeld3
import Derived.Test.YtibjmokhkjklkaaDoorG38
import Derived.Test.YtibjmokhkjklkaaDoorG40
import Derived.Test.YtibjmokhkjklkaaDoorG41
import Derived.Test.YtibjmokhkjklkaaDoorG44
import Derived.Test.YtibjmokhkjklkaaDoorG03
import Derived.Test.YtibjmokhkjklkaaDoorG48
import Derived.Test.YtibjmokhkjklkaaDoorCards
import Derived.Test.YtibjmokhkjklkaaDoorTie
import Derived.Lib.SmallJoins
import Derived.OpenVars
import Derived.Stop.Joined
import Derived.LaidMore
import Derived.SevenTiedAt
import Derived.Lay
import Derived.MakeChecks
namespace Go.Proofs.YtibjmokhkjklkaaDoor
open Go.ChangeShapes Go.WideShapes Go.ChangeAt Go.RowKit Go.Joins
open Go.ChangeMaps (open_string shut_string)
set_option linter.unusedVariables false
namespace fnExactSealJoin
theorem hp_below {W W' : World} {b : Nat} {o : Obj} (h : W.heap[b]? = some o) (hb : Below W.heap.size W W') : W'.heap[b]? = some o := (hb.block _ (Array.getElem?_eq_some_iff.1 h).1).trans h
theorem hp_keep {W W' : World} {b c : Nat} {o : Obj} (h : W.heap[b]? = some o) (hk : Keep c W W') (hc : b ≠ c) : W'.heap[b]? = some o := (hk.block _ (Array.getElem?_eq_some_iff.1 h).1 hc).trans h
/-- A list of numbers that lay ahead of N. -/
def R3 (N : Nat) (u : Value) (l : List Int) (W : World) : Prop := ∃ W3, W3.heap.size = N ∧ RowN W3 u l ∧ Below N W3 W
theorem R3.row {N : Nat} {u : Value} {l : List Int} {W : World} (h : R3 N u l W) : RowN W u l := by
  obtain ⟨W3, rfl, h2, h3⟩ := h
  exact h2.below h3
theorem R3.le {N : Nat} {u : Value} {l : List Int} {W : World} (h : R3 N u l W) : N ≤ W.heap.size := by
  obtain ⟨W3, rfl, h2, h3⟩ := h
  exact h3.size
theorem R3.below {N : Nat} {u : Value} {l : List Int} {W W' : World} (h : R3 N u l W) (hb : Below W.heap.size W W') : R3 N u l W' := by
  have := h.le
  obtain ⟨W3, h1, h2, h3⟩ := h
  exact ⟨W3, h1, h2, h3.trans (hb.mono this)⟩
theorem R3.keep {N c : Nat} {u : Value} {l : List Int} {W W' : World} (h : R3 N u l W) (hk : Keep c W W') (hc : N ≤ c) : R3 N u l W' := by
  have := h.le
  obtain ⟨W3, h1, h2, h3⟩ := h
  exact ⟨W3, h1, h2, h3.trans (hk.below hc this)⟩
theorem bel_keep {n c : Nat} {a W W' : World} (h : Below n a W) (hk : Keep c W W') (hc : n ≤ c) (hn : n ≤ W.heap.size) : Below n a W' := h.trans (hk.below hc hn)
theorem lev_apart {b N m : Nat} {W : World} {v : Value} {rs : List EvR} (h : LEv b W v rs) (hN : N ≤ b) (hm : b < m ∨ rs = []) (c : Nat) (hc : m ≤ c) : ∃ b', LEv b' W v rs ∧ N ≤ b' ∧ b' ≠ c ∧ (b' < m ∨ c < b') := by
  rcases hm with hm | rfl
  · exact ⟨b, h, hN, by omega, .inl hm⟩
  · refine ⟨N + c + 1, ⟨?_, h.len, h.sizes⟩, by omega, by omega, .inr (by omega)⟩
    obtain ⟨a, cap, e, _⟩ := h.shape
    exact ⟨a, cap, e, fun g => absurd rfl g⟩
theorem lev_or {b : Nat} {W : World} {v : Value} {rs : List EvR} (h : LEv b W v rs) : b < W.heap.size ∨ rs = [] := by
  by_cases e : rs = []
  · exact .inr e
  · exact .inl (h.lt e)
set_option maxHeartbeats 8000000 in
theorem walk (u : Value) (rs : List EvR) (u1 : Value) (zs : List Int) (ev : EvR) (w : World) (h : RowEv w u rs) (h1 : RowN w u1 zs) (hz : ev.a.size ≤ 9223372036854775807 ∧ ev.b.size ≤ 9223372036854775807 ∧ ev.c.size ≤ 9223372036854775807) (hL : laidMetH Tryd.prog Rows.fnExactSealJoinRow.laid w) :
    Calls Tryd.prog 5 #[u, u1, .agg #[.int .i64 ev.kind, .string ev.a, .string ev.b, .string ev.c]] w fun e w' => e = .returned (.bool true) ∧ Below w.heap.size w w' := by
  obtain ⟨A, cap, rfl⟩ := h.val
  have hlen := h.len
  obtain ⟨A1, cap1, rfl⟩ := h1.val
  have hlen1 := h1.len
  have H0 : Hid (RowEv w (.slice A rs.length cap) rs) := h
  have H1 : Hid (RowN w (.slice A1 zs.length cap1) zs) := h1
  have T0 : Hid (WrdAt w) := wrd_laid hL
  clear h hL h1
  obtain ⟨L, hL⟩ : ∃ L, L = joinT rs zs ev := ⟨_, rfl⟩
  have HL : Hid (L = joinT rs zs ev) := hL
  have hL4 : L.length ≤ 401 := by rw [hL]; exact joinT_len rs zs ev
  clear hL
  go_enter Tryd.func5, Tryd.ntmps5
  obtain ⟨W0, hW0⟩ : ∃ W0, w.alloc (.cells #[.int .i64 ev.kind, .string ev.a, .string ev.b, .string ev.c] 37) = W0 := ⟨_, rfl⟩
  have HB : Hid (Below w.heap.size w W0) := by rw [← hW0]; exact (Below.refl _ _).alloc (Nat.le_refl _) _
  have E : Hid (W0.heap[w.heap.size]? = some (.cells #[.int .i64 ev.kind, .string ev.a, .string ev.b, .string ev.c] 37)) := by rw [← hW0]; exact World.alloc_heap_new _ _
  have hEs : w.heap.size < W0.heap.size := by rw [← hW0]; simp
  go_upto_region 1 with fail
  try rw [hW0]
  clear hW0
  by_cases hz1 : 1048576 < zs.length
  · have hz1' : (1048576 : Int) < (zs.length : Int) := by omega
    go_wp2
    go_ret
    exact ⟨rfl, HB.out⟩
  have hz1' : ¬ (1048576 : Int) < (zs.length : Int) := by omega
  go_wp2_with fail
  refine (szEvs_any _ rs 1048576 _ (H0.out.below HB.out) (by omega)).mono ?_
  rintro e w1 ⟨r, rfl, hr, hb⟩
  rcases hr with rfl | ⟨g0, g1, hG⟩
  · have HB : Hid (Below w.heap.size w w1) := HB.out.trans (hb.mono HB.out.size)
    clear hb
    go_wp2
    go_ret
    exact ⟨rfl, HB.out⟩
  have g0' : ¬ r < 0 := by omega
  have HG : Hid (BdEv 1048576 rs) := BdEv.mono hG (by omega)
  have HB : Hid (Below w.heap.size w w1) := HB.out.trans (hb.mono HB.out.size)
  have E : Hid (w1.heap[w.heap.size]? = some (.cells #[.int .i64 ev.kind, .string ev.a, .string ev.b, .string ev.c] 37)) := hp_below E.out hb
  have hEs : w.heap.size < w1.heap.size := Nat.lt_of_lt_of_le hEs hb.size
  clear hG hb
  obtain ⟨x0, x1, x2, x3⟩ := bx4e E.out
  go_wp2_with fail
  refine (szEv_any ev r _ hz (by omega)).mono ?_
  rintro e w1b ⟨r2, rfl, hr2, hb⟩
  rcases hr2 with rfl | ⟨g2, g3, _⟩
  · have HB : Hid (Below w.heap.size w w1b) := HB.out.trans (hb.mono HB.out.size)
    clear hb
    go_wp2
    go_ret
    exact ⟨rfl, HB.out⟩
  have g2' : ¬ r2 < 0 := by omega
  have E : Hid (w1b.heap[w.heap.size]? = some (.cells #[.int .i64 ev.kind, .string ev.a, .string ev.b, .string ev.c] 37)) := hp_below E.out hb
  have HB : Hid (Below w.heap.size w w1b) := HB.out.trans (hb.mono HB.out.size)
  have hEs : w.heap.size < w1b.heap.size := Nat.lt_of_lt_of_le hEs hb.size
  clear hb x0 x1 x2 x3
  have hbd : Below w1b.heap.size w1b w1b.drew := (Below.refl _ _).drew
  have E : Hid (w1b.drew.heap[w.heap.size]? = some (.cells #[.int .i64 ev.kind, .string ev.a, .string ev.b, .string ev.c] 37)) := hp_below E.out hbd
  have HB : Hid (Below w.heap.size w w1b.drew) := HB.out.trans (hbd.mono HB.out.size)
  clear hbd
  obtain ⟨x0, x1, x2, x3⟩ := bx4e E.out
  try go_wp2_with fail
  go_region_held3 (fun W => W.cell? ⟨w.heap.size, 0, none⟩ = some (.int .i64 ev.kind) ∧ W.cell? ⟨w.heap.size, 1, none⟩ = some (.string ev.a) ∧ W.cell? ⟨w.heap.size, 2, none⟩ = some (.string ev.b) ∧ W.cell? ⟨w.heap.size, 3, none⟩ = some (.string ev.c)) (go_keep) (first | (go_simp; go_at_call 8; refine (toEvs_any _ rs _ (H0.out.below HB.out) HG.out).mono ?_; rintro e wa ⟨v_wa, rfl, r_wa, hb⟩; have E : Hid (wa.heap[w.heap.size]? = some (.cells #[.int .i64 ev.kind, .string ev.a, .string ev.b, .string ev.c] 37)) := hp_below E.out hb; have HB : Hid (Below w.heap.size w wa) := HB.out.trans (hb.mono HB.out.size); obtain ⟨b_wa, hbb_wa, l_wa⟩ := r_wa.lst HG.out; have hs_wa := hb.size; have L_wa : Hid (LEv b_wa wa v_wa rs) := l_wa; clear l_wa r_wa hb; obtain ⟨x0, x1, x2, x3⟩ := bx4e E.out; try dsimp only) | (go_simp; go_at_call 16; refine (toN_any _ zs _ (H1.out.below HB.out) (by omega)).mono ?_; rintro e wb ⟨b_wb, rfl, hbb_wb, hblt_wb, l_wb, hb⟩; have E : Hid (wb.heap[w.heap.size]? = some (.cells #[.int .i64 ev.kind, .string ev.a, .string ev.b, .string ev.c] 37)) := hp_below E.out hb; have HB : Hid (Below w.heap.size w wb) := HB.out.trans (hb.mono HB.out.size); have L_wa : Hid (LEv b_wa wb v_wa rs) := L_wa.out.below hb; have L_wb : Hid (LN b_wb wb (.slice (some ⟨b_wb, 0, none⟩) zs.length zs.length) zs) := l_wb; have hs_wb := hb.size; clear l_wb hb; obtain ⟨x0, x1, x2, x3⟩ := bx4e E.out; try dsimp only) | (go_simp; go_at_call 20; refine (toEv_any ev _).mono ?_; rintro e wc ⟨rfl, hb⟩; have E : Hid (wc.heap[w.heap.size]? = some (.cells #[.int .i64 ev.kind, .string ev.a, .string ev.b, .string ev.c] 37)) := hp_below E.out hb; have HB : Hid (Below w.heap.size w wc) := HB.out.trans (hb.mono HB.out.size); have L_wa : Hid (LEv b_wa wc v_wa rs) := L_wa.out.below hb; have L_wb : Hid (LN b_wb wc (.slice (some ⟨b_wb, 0, none⟩) zs.length zs.length) zs) := L_wb.out.below hb; have hs_wc := hb.size; obtain ⟨x0, x1, x2, x3⟩ := bx4e E.out; try dsimp only) | (go_simp; go_at_call 19; have Q := sealJoin_spec _ rs zs _ _ ev _ L_wa.out.row L_wb.out.row; rw [← HL.out] at Q; refine Q.mono ?_; rintro e w3 ⟨u3, rfl, ho3, hb⟩; clear Q; have E : Hid (w3.heap[w.heap.size]? = some (.cells #[.int .i64 ev.kind, .string ev.a, .string ev.b, .string ev.c] 37)) := hp_below E.out hb; have HB : Hid (Below w.heap.size w w3) := HB.out.trans (hb.mono HB.out.size); have L_wa : Hid (LEv b_wa w3 v_wa rs) := L_wa.out.below hb; have L_wb : Hid (LN b_wb w3 (.slice (some ⟨b_wb, 0, none⟩) zs.length zs.length) zs) := L_wb.out.below hb; have hb3 : ∃ W3, W3 = w3 := ⟨_, rfl⟩; clear hb; obtain ⟨x0, x1, x2, x3⟩ := bx4e E.out; try dsimp only))
  obtain ⟨A3, C3, rfl, _, _, hr3⟩ := own_capS ho3 (by omega)
  clear L_wa
  clear L_wb
  clear hb3 x0 x1 x2 x3
  have R : Hid (R3 w3.heap.size (.slice A3 L.length C3) L w3) := ⟨w3, rfl, hr3, Below.refl _ _⟩
  have hN0 : w.heap.size ≤ w3.heap.size := HB.out.size
  have hN1 : w.heap.size < w3.heap.size := (Array.getElem?_eq_some_iff.1 E.out).1
  clear ho3 hr3
  go_wp2_with fail
  refine (toEvs_any _ rs _ (H0.out.below HB.out) HG.out).mono ?_
  rintro e wd ⟨v_wd, rfl, r_wd, hb⟩
  have E : Hid (wd.heap[w.heap.size]? = some (.cells #[.int .i64 ev.kind, .string ev.a, .string ev.b, .string ev.c] 37)) := hp_below E.out hb
  have HB : Hid (Below w.heap.size w wd) := HB.out.trans (hb.mono HB.out.size)
  have R : Hid (R3 w3.heap.size (.slice A3 L.length C3) L wd) := R.out.below hb
  obtain ⟨b_wd, hbb_wd, l_wd⟩ := r_wd.lst HG.out
  have hs_wd := hb.size
  have L_wd : Hid (LEv b_wd wd v_wd rs) := l_wd
  clear l_wd r_wd hb
  have hbE2 : b_wd < wd.heap.size ∨ rs = [] := lev_or L_wd.out
  go_wp2_with fail
  refine (toN_any _ zs _ (H1.out.below HB.out) (by omega)).mono ?_
  rintro e we ⟨b_we, rfl, hbb_we, hblt_we, l_we, hb⟩
  have E : Hid (we.heap[w.heap.size]? = some (.cells #[.int .i64 ev.kind, .string ev.a, .string ev.b, .string ev.c] 37)) := hp_below E.out hb
  have HB : Hid (Below w.heap.size w we) := HB.out.trans (hb.mono HB.out.size)
  have R : Hid (R3 w3.heap.size (.slice A3 L.length C3) L we) := R.out.below hb
  have L_wd : Hid (LEv b_wd we v_wd rs) := L_wd.out.below hb
  have L_we : Hid (LN b_we we (.slice (some ⟨b_we, 0, none⟩) zs.length zs.length) zs) := l_we
  have hs_we := hb.size
  clear l_we hb
  have hlast : w3.heap.size ≤ we.heap.size ∧ wd.heap.size ≤ we.heap.size := by omega
  have hbE : w3.heap.size ≤ b_wd := hbb_wd
  have hbN : wd.heap.size ≤ b_we ∧ b_we < we.heap.size := by omega
  obtain ⟨x0, x1, x2, x3⟩ := bx4e E.out
  go_wp2_with fail
  refine (toEv_any ev _).mono ?_
  rintro e wf ⟨rfl, hb⟩
  have E : Hid (wf.heap[w.heap.size]? = some (.cells #[.int .i64 ev.kind, .string ev.a, .string ev.b, .string ev.c] 37)) := hp_below E.out hb
  have HB : Hid (Below w.heap.size w wf) := HB.out.trans (hb.mono HB.out.size)
  have R : Hid (R3 w3.heap.size (.slice A3 L.length C3) L wf) := R.out.below hb
  have L_wd : Hid (LEv b_wd wf v_wd rs) := L_wd.out.below hb
  have L_we : Hid (LN b_we wf (.slice (some ⟨b_we, 0, none⟩) zs.length zs.length) zs) := L_we.out.below hb
  have hs_wf := hb.size
  clear hb x0 x1 x2 x3
  have Q := sealJoin_impl _ rs zs _ _ ev _ L_wd.out.row (T0.out.below HB.out) L_we.out.row (Nat.le_refl _) (by omega)
  rw [← HL.out] at Q
  go_wp2_with fail
  refine Q.mono ?_
  rintro e w7 ⟨u7, rfl, ho7, hb⟩
  clear Q
  have E : Hid (w7.heap[w.heap.size]? = some (.cells #[.int .i64 ev.kind, .string ev.a, .string ev.b, .string ev.c] 37)) := hp_below E.out hb
  have HB : Hid (Below w.heap.size w w7) := HB.out.trans (hb.mono HB.out.size)
  have R : Hid (R3 w3.heap.size (.slice A3 L.length C3) L w7) := R.out.below hb
  have L_wd : Hid (LEv b_wd w7 v_wd rs) := L_wd.out.below hb
  have L_we : Hid (LN b_we w7 (.slice (some ⟨b_we, 0, none⟩) zs.length zs.length) zs) := L_we.out.below hb
  clear hb
  obtain ⟨b7, hb7, l7⟩ := LN.of_owns ho7 (by omega)
  obtain ⟨A7, C7, rfl, _, _, _⟩ := own_capS ho7 (by omega)
  have G : Hid (LN b7 w7 (.slice A7 L.length C7) L) := l7
  clear ho7 l7
  go_wp2_with fail
  refine (eqN_any _ _ L _ G.out.row R.out.row).mono ?_
  rintro e w8 ⟨rfl, hb⟩
  have E : Hid (w8.heap[w.heap.size]? = some (.cells #[.int .i64 ev.kind, .string ev.a, .string ev.b, .string ev.c] 37)) := hp_below E.out hb
  have HB : Hid (Below w.heap.size w w8) := HB.out.trans (hb.mono HB.out.size)
  have R : Hid (R3 w3.heap.size (.slice A3 L.length C3) L w8) := R.out.below hb
  have L_wd : Hid (LEv b_wd w8 v_wd rs) := L_wd.out.below hb
  have L_we : Hid (LN b_we w8 (.slice (some ⟨b_we, 0, none⟩) zs.length zs.length) zs) := L_we.out.below hb
  have G : Hid (LN b7 w8 (.slice A7 L.length C7) L) := G.out.below hb
  clear hb
  go_wp2_with fail
  refine (toEvs_any _ rs _ (H0.out.below HB.out) HG.out).mono ?_
  rintro e wg ⟨v_wg, rfl, r_wg, hb⟩
  have E : Hid (wg.heap[w.heap.size]? = some (.cells #[.int .i64 ev.kind, .string ev.a, .string ev.b, .string ev.c] 37)) := hp_below E.out hb
  have HB : Hid (Below w.heap.size w wg) := HB.out.trans (hb.mono HB.out.size)
  have R : Hid (R3 w3.heap.size (.slice A3 L.length C3) L wg) := R.out.below hb
  have L_wd : Hid (LEv b_wd wg v_wd rs) := L_wd.out.below hb
  have L_we : Hid (LN b_we wg (.slice (some ⟨b_we, 0, none⟩) zs.length zs.length) zs) := L_we.out.below hb
  have G : Hid (LN b7 wg (.slice A7 L.length C7) L) := G.out.below hb
  obtain ⟨b_wg, hbb_wg, l_wg⟩ := r_wg.lst HG.out
  have hs_wg := hb.size
  have L_wg : Hid (LEv b_wg wg v_wg rs) := l_wg
  clear l_wg r_wg hb
  go_wp2_with fail
  refine (eqEvs_any _ _ rs _ L_wd.out.row L_wg.out.row).mono ?_
  rintro e w9 ⟨rfl, hb⟩
  have E : Hid (w9.heap[w.heap.size]? = some (.cells #[.int .i64 ev.kind, .string ev.a, .string ev.b, .string ev.c] 37)) := hp_below E.out hb
  have HB : Hid (Below w.heap.size w w9) := HB.out.trans (hb.mono HB.out.size)
  have R : Hid (R3 w3.heap.size (.slice A3 L.length C3) L w9) := R.out.below hb
  have L_wd : Hid (LEv b_wd w9 v_wd rs) := L_wd.out.below hb
  have L_we : Hid (LN b_we w9 (.slice (some ⟨b_we, 0, none⟩) zs.length zs.length) zs) := L_we.out.below hb
  have G : Hid (LN b7 w9 (.slice A7 L.length C7) L) := G.out.below hb
  clear L_wg
  clear hb
  go_wp2_with fail
  refine (toN_any _ zs _ (H1.out.below HB.out) (by omega)).mono ?_
  rintro e wh ⟨b_wh, rfl, hbb_wh, hblt_wh, l_wh, hb⟩
  have E : Hid (wh.heap[w.heap.size]? = some (.cells #[.int .i64 ev.kind, .string ev.a, .string ev.b, .string ev.c] 37)) := hp_below E.out hb
  have HB : Hid (Below w.heap.size w wh) := HB.out.trans (hb.mono HB.out.size)
  have R : Hid (R3 w3.heap.size (.slice A3 L.length C3) L wh) := R.out.below hb
  have L_wd : Hid (LEv b_wd wh v_wd rs) := L_wd.out.below hb
  have L_we : Hid (LN b_we wh (.slice (some ⟨b_we, 0, none⟩) zs.length zs.length) zs) := L_we.out.below hb
  have G : Hid (LN b7 wh (.slice A7 L.length C7) L) := G.out.below hb
  have L_wh : Hid (LN b_wh wh (.slice (some ⟨b_wh, 0, none⟩) zs.length zs.length) zs) := l_wh
  have hs_wh := hb.size
  clear l_wh hb
  go_wp2_with fail
  refine (eqN_any _ _ zs _ L_we.out.row L_wh.out.row).mono ?_
  rintro e w9b ⟨rfl, hb⟩
  have E : Hid (w9b.heap[w.heap.size]? = some (.cells #[.int .i64 ev.kind, .string ev.a, .string ev.b, .string ev.c] 37)) := hp_below E.out hb
  have HB : Hid (Below w.heap.size w w9b) := HB.out.trans (hb.mono HB.out.size)
  have R : Hid (R3 w3.heap.size (.slice A3 L.length C3) L w9b) := R.out.below hb
  have L_wd : Hid (LEv b_wd w9b v_wd rs) := L_wd.out.below hb
  have L_we : Hid (LN b_we w9b (.slice (some ⟨b_we, 0, none⟩) zs.length zs.length) zs) := L_we.out.below hb
  have G : Hid (LN b7 w9b (.slice A7 L.length C7) L) := G.out.below hb
  clear L_wh
  clear hb
  obtain ⟨b5, l5, hb5, hne5, hor5⟩ := lev_apart L_wd.out hbE hbE2 b7 (by omega)
  have hneN : b_we ≠ b7 := by omega
  go_wp2_with fail
  refine (markEv_any b5 _ rs 1 _ l5 (by have := HG.out.len; omega)).mono ?_
  rintro e wm ⟨rfl, _, hk⟩
  have hne5N : b_we ≠ b5 := by omega
  have E : Hid (wm.heap[w.heap.size]? = some (.cells #[.int .i64 ev.kind, .string ev.a, .string ev.b, .string ev.c] 37)) := hp_keep E.out hk (by omega)
  have HB : Hid (Below w.heap.size w wm) := bel_keep HB.out hk (by omega) HB.out.size
  have R : Hid (R3 w3.heap.size (.slice A3 L.length C3) L wm) := R.out.keep hk hb5
  clear L_wd
  have L_we : Hid (LN b_we wm (.slice (some ⟨b_we, 0, none⟩) zs.length zs.length) zs) := L_we.out.keep hk (fun _ => hne5N)
  have G : Hid (LN b7 wm (.slice A7 L.length C7) L) := G.out.keep hk (fun _ => Ne.symm hne5)
  clear hk l5
  obtain ⟨K1, hK1⟩ : ∃ K1 : Int, K1 = ((1 + rs.length * 4 : Nat) : Int) := ⟨_, rfl⟩
  rw [← hK1]
  have hK0 : ¬ K1 < 0 := by omega
  have hK0b : 0 ≤ K1 ∧ K1 ≤ 100000000000 := by have := HG.out.len; omega
  clear hK1
  go_wp2_with fail
  refine (markN_any b_we _ zs K1 _ L_we.out (by omega)).mono ?_
  rintro e wn ⟨rfl, _, hk⟩
  have E : Hid (wn.heap[w.heap.size]? = some (.cells #[.int .i64 ev.kind, .string ev.a, .string ev.b, .string ev.c] 37)) := hp_keep E.out hk (by omega)
  have HB : Hid (Below w.heap.size w wn) := bel_keep HB.out hk (by omega) HB.out.size
  have R : Hid (R3 w3.heap.size (.slice A3 L.length C3) L wn) := R.out.keep hk (by omega)
  clear L_we
  have G : Hid (LN b7 wn (.slice A7 L.length C7) L) := G.out.keep hk (fun _ => Ne.symm hneN)
  clear hk
  obtain ⟨K3, hK3⟩ : ∃ K3 : Int, K3 = K1 + (zs.length : Int) := ⟨_, rfl⟩
  rw [← hK3]
  have hK30 : ¬ K3 < 0 := by omega
  clear hK3
  go_wp2_with fail
  refine (eqN_any _ _ L _ G.out.row R.out.row).mono ?_
  rintro e wo ⟨rfl, hb⟩
  have E : Hid (wo.heap[w.heap.size]? = some (.cells #[.int .i64 ev.kind, .string ev.a, .string ev.b, .string ev.c] 37)) := hp_below E.out hb
  have HB : Hid (Below w.heap.size w wo) := HB.out.trans (hb.mono HB.out.size)
  have R : Hid (R3 w3.heap.size (.slice A3 L.length C3) L wo) := R.out.below hb
  have G : Hid (LN b7 wo (.slice A7 L.length C7) L) := G.out.below hb
  clear hb
  have hRl := R.out.le
  have hbl := HB.out.size
  go_wp2_with fail
  refine (markN_any b7 _ L 1 _ G.out (by omega)).mono ?_
  rintro e wp ⟨rfl, l8, hk⟩
  have E : Hid (wp.heap[w.heap.size]? = some (.cells #[.int .i64 ev.kind, .string ev.a, .string ev.b, .string ev.c] 37)) := hp_keep E.out hk (by omega)
  have HB : Hid (Below w.heap.size w wp) := bel_keep HB.out hk (by omega) HB.out.size
  have R : Hid (R3 w3.heap.size (.slice A3 L.length C3) L wp) := R.out.keep hk (by omega)
  clear G
  have M : Hid (LN b7 wp (.slice A7 L.length C7) (mkNs 1 L.length)) := l8
  clear hk l8
  obtain ⟨K2, hK2⟩ : ∃ K2 : Int, K2 = 1 + (L.length : Int) := ⟨_, rfl⟩
  rw [← hK2]
  have hK20 : ¬ K2 < 0 := by omega
  have HH : Hid (∀ (W : World), RowN W (.slice A7 L.length C7) (mkNs 1 L.length) → Calls Tryd.prog 14 #[.slice A7 L.length C7, .int .i64 1] W fun e w' => e = .returned (.int .i64 K2) ∧ Below W.heap.size W w') := by
    intro W hW
    rw [hK2]
    exact heldN_any _ L.length 1 W hW (by omega)
  clear hK2
  go_wp2_with fail
  refine (HH.out _ M.out.row).mono ?_
  rintro e wq ⟨rfl, hb⟩
  have E : Hid (wq.heap[w.heap.size]? = some (.cells #[.int .i64 ev.kind, .string ev.a, .string ev.b, .string ev.c] 37)) := hp_below E.out hb
  have HB : Hid (Below w.heap.size w wq) := HB.out.trans (hb.mono HB.out.size)
  have R : Hid (R3 w3.heap.size (.slice A3 L.length C3) L wq) := R.out.below hb
  have M : Hid (LN b7 wq (.slice A7 L.length C7) (mkNs 1 L.length)) := M.out.below hb
  clear hb
  have hbd : Below wq.heap.size wq wq.drew := (Below.refl _ _).drew
  have E : Hid (wq.drew.heap[w.heap.size]? = some (.cells #[.int .i64 ev.kind, .string ev.a, .string ev.b, .string ev.c] 37)) := hp_below E.out hbd
  have HB : Hid (Below w.heap.size w wq.drew) := HB.out.trans (hbd.mono HB.out.size)
  have R : Hid (R3 w3.heap.size (.slice A3 L.length C3) L wq.drew) := R.out.below hbd
  have M : Hid (LN b7 wq.drew (.slice A7 L.length C7) (mkNs 1 L.length)) := M.out.below hbd
  clear hbd
  obtain ⟨x0, x1, x2, x3⟩ := bx4e E.out
  try go_wp2_with fail
  go_region_held3 (fun W => W.cell? ⟨w.heap.size, 0, none⟩ = some (.int .i64 ev.kind) ∧ W.cell? ⟨w.heap.size, 1, none⟩ = some (.string ev.a) ∧ W.cell? ⟨w.heap.size, 2, none⟩ = some (.string ev.b) ∧ W.cell? ⟨w.heap.size, 3, none⟩ = some (.string ev.c)) (go_keep) (first | (go_simp; go_at_call 8; refine (toEvs_any _ rs _ (H0.out.below HB.out) HG.out).mono ?_; rintro e wr ⟨v_wr, rfl, r_wr, hb⟩; have E : Hid (wr.heap[w.heap.size]? = some (.cells #[.int .i64 ev.kind, .string ev.a, .string ev.b, .string ev.c] 37)) := hp_below E.out hb; have HB : Hid (Below w.heap.size w wr) := HB.out.trans (hb.mono HB.out.size); have R : Hid (R3 w3.heap.size (.slice A3 L.length C3) L wr) := R.out.below hb; have M : Hid (LN b7 wr (.slice A7 L.length C7) (mkNs 1 L.length)) := M.out.below hb; obtain ⟨b_wr, hbb_wr, l_wr⟩ := r_wr.lst HG.out; have hs_wr := hb.size; have L_wr : Hid (LEv b_wr wr v_wr rs) := l_wr; clear l_wr r_wr hb; obtain ⟨x0, x1, x2, x3⟩ := bx4e E.out; try dsimp only) | (go_simp; go_at_call 16; refine (toN_any _ zs _ (H1.out.below HB.out) (by omega)).mono ?_; rintro e ws ⟨b_ws, rfl, hbb_ws, hblt_ws, l_ws, hb⟩; have E : Hid (ws.heap[w.heap.size]? = some (.cells #[.int .i64 ev.kind, .string ev.a, .string ev.b, .string ev.c] 37)) := hp_below E.out hb; have HB : Hid (Below w.heap.size w ws) := HB.out.trans (hb.mono HB.out.size); have R : Hid (R3 w3.heap.size (.slice A3 L.length C3) L ws) := R.out.below hb; have M : Hid (LN b7 ws (.slice A7 L.length C7) (mkNs 1 L.length)) := M.out.below hb; have L_wr : Hid (LEv b_wr ws v_wr rs) := L_wr.out.below hb; have L_ws : Hid (LN b_ws ws (.slice (some ⟨b_ws, 0, none⟩) zs.length zs.length) zs) := l_ws; have hs_ws := hb.size; clear l_ws hb; obtain ⟨x0, x1, x2, x3⟩ := bx4e E.out; try dsimp only) | (go_simp; go_at_call 20; refine (toEv_any ev _).mono ?_; rintro e wt ⟨rfl, hb⟩; have E : Hid (wt.heap[w.heap.size]? = some (.cells #[.int .i64 ev.kind, .string ev.a, .string ev.b, .string ev.c] 37)) := hp_below E.out hb; have HB : Hid (Below w.heap.size w wt) := HB.out.trans (hb.mono HB.out.size); have R : Hid (R3 w3.heap.size (.slice A3 L.length C3) L wt) := R.out.below hb; have M : Hid (LN b7 wt (.slice A7 L.length C7) (mkNs 1 L.length)) := M.out.below hb; have L_wr : Hid (LEv b_wr wt v_wr rs) := L_wr.out.below hb; have L_ws : Hid (LN b_ws wt (.slice (some ⟨b_ws, 0, none⟩) zs.length zs.length) zs) := L_ws.out.below hb; have hs_wt := hb.size; obtain ⟨x0, x1, x2, x3⟩ := bx4e E.out; try dsimp only) | (go_simp; go_at_call 21; have Q := sealJoin_impl _ rs zs _ _ ev _ L_wr.out.row (T0.out.below HB.out) L_ws.out.row (Nat.le_refl _) (by omega); rw [← HL.out] at Q; refine Q.mono ?_; rintro e wu ⟨uu, rfl, hou, hb⟩; clear Q; have E : Hid (wu.heap[w.heap.size]? = some (.cells #[.int .i64 ev.kind, .string ev.a, .string ev.b, .string ev.c] 37)) := hp_below E.out hb; have HB : Hid (Below w.heap.size w wu) := HB.out.trans (hb.mono HB.out.size); have R : Hid (R3 w3.heap.size (.slice A3 L.length C3) L wu) := R.out.below hb; have M : Hid (LN b7 wu (.slice A7 L.length C7) (mkNs 1 L.length)) := M.out.below hb; have L_wr : Hid (LEv b_wr wu v_wr rs) := L_wr.out.below hb; have L_ws : Hid (LN b_ws wu (.slice (some ⟨b_ws, 0, none⟩) zs.length zs.length) zs) := L_ws.out.below hb; clear hb; obtain ⟨x0, x1, x2, x3⟩ := bx4e E.out; try dsimp only))
  clear x0 x1 x2 x3
  obtain ⟨Au, Cu, rfl, _, _, hru⟩ := own_capS hou (by omega)
  clear L_wr
  clear L_ws
  have U : Hid (RowN wu (.slice Au L.length Cu) L) := hru
  clear hou hru
  go_wp2_with fail
  refine (eqN_any _ _ L _ U.out R.out.row).mono ?_
  rintro e wv ⟨rfl, hb⟩
  have E : Hid (wv.heap[w.heap.size]? = some (.cells #[.int .i64 ev.kind, .string ev.a, .string ev.b, .string ev.c] 37)) := hp_below E.out hb
  have HB : Hid (Below w.heap.size w wv) := HB.out.trans (hb.mono HB.out.size)
  have R : Hid (R3 w3.heap.size (.slice A3 L.length C3) L wv) := R.out.below hb
  have M : Hid (LN b7 wv (.slice A7 L.length C7) (mkNs 1 L.length)) := M.out.below hb
  clear hb
  go_wp2_with fail
  refine (HH.out _ M.out.row).mono ?_
  rintro e wx ⟨rfl, hb⟩
  have E : Hid (wx.heap[w.heap.size]? = some (.cells #[.int .i64 ev.kind, .string ev.a, .string ev.b, .string ev.c] 37)) := hp_below E.out hb
  have HB : Hid (Below w.heap.size w wx) := HB.out.trans (hb.mono HB.out.size)
  have R : Hid (R3 w3.heap.size (.slice A3 L.length C3) L wx) := R.out.below hb
  have M : Hid (LN b7 wx (.slice A7 L.length C7) (mkNs 1 L.length)) := M.out.below hb
  clear hb
  go_wp2
  go_ret
  exact ⟨rfl, HB.out⟩
theorem own : ownKnob Tryd.prog.godebug = none := by kernel_rfl
theorem laidOut : laidOutB Tryd.prog = true := by kernel_rfl
theorem door_met (os : Os) (args : Array Value) : laidMetH Tryd.prog Rows.fnExactSealJoinRow.laid ((World.doorLaid Tryd.prog 14 os).forCall (fun _ _ => 0) ⟨#[], args, []⟩).memory :=
  laidMetH_of_parts3 (fuel := 8) (laidMet_of_run' 8 (by kernel_rfl) (by kernel_rfl)) (by kernel_rfl) (by kernel_rfl)
set_option maxRecDepth 100000 in
theorem lifted (os : Os) (started : os.Started) (H : Type) (enc : TypeId × Value → H) :
    ReturnsInHanded {} Tryd.checked os 5 .any (fun w args => (Rows.fnExactSealJoinSpec.pre enc Tryd.prog Tryd.f5 [] false w args ∧ laidMetH Tryd.prog Rows.fnExactSealJoinRow.laid w) ∧ sizedMet enc Tryd.prog Tryd.f5 (OpenSpec.ofChange Rows.fnExactSealJoinSpec) false w args)
      (Rows.fnExactSealJoinSpec.post enc Tryd.prog Tryd.f5 false true false false) := by
  refine returnsInHanded_of_change_and (C := Tryd.checked) (X := fun w _ => laidMetH Tryd.prog Rows.fnExactSealJoinRow.laid w) (fun _ _ _ hh h => h.of_heap hh) own started (by kernel_rfl) Tryd.func5
    (ChangeSpec.witness_shaped (enc := enc) (C := Tryd.checked) (os := os) (X := fun w _ => laidMetH Tryd.prog Rows.fnExactSealJoinRow.laid w) false (World.doorLaid Tryd.prog 14 os) #[.slice none 0 0, .slice none 0 0, .agg #[.int .i64 0, .string ⟨#[]⟩, .string ⟨#[]⟩, .string ⟨#[]⟩]] 8 rfl (World.shaped_of_RefB (by kernel_rfl) (by kernel_rfl)) (by kernel_rfl) (by kernel_rfl) (by kernel_rfl) (door_met os _)) ?_
  intro W base args ds gs before hval0 hW hcnd _ hL _
  have hval : ∀ (j : Nat) t v, Tryd.f5.params[j]? = some t → args[j]? = some v → Value.okWide Tryd.prog W .any base t v := hval0
  have hW' := hW
  obtain ⟨p, q, hA0, hV, rfl, hfz, hnd⟩ := hW
  have hA : DataW.TrodAll enc Tryd.prog W 0 (fun _ => true) true Tryd.f5.params.toList args.toList ds p := hA0
  rw [Tryd.params5] at hA hval
  obtain ⟨v0, vs0, d0, ds0, p0, q0, hargs, rfl, rfl, h0, r0⟩ := trodAll_cons hA
  obtain ⟨v1, vs1, d1, ds1, p1, q1, rfl, rfl, rfl, h1, r1⟩ := trodAll_cons r0
  obtain ⟨v2, vs2, d2, ds2, p2, q2, rfl, rfl, rfl, h2, r2⟩ := trodAll_cons r1
  obtain ⟨rfl, rfl, rfl⟩ := trodAll_nil r2
  obtain rfl : args = #[v0, v1, v2] := by cases args; simp_all
  obtain ⟨_, _, _, _, gd, _, rfl, _⟩ := trodVars_one hV
  have k0 := h0
  have lt0 : ∀ x ∈ p0, x.block < W.heap.size := by obtain ⟨m, hm⟩ := k0; exact DataW.trod_lt m _ _ _ hm
  obtain ⟨rs0, hr0⟩ := openEvsa (hval 0 22 v0 rfl rfl) h0
  have k1 := h1
  have lt1 : ∀ x ∈ p1, x.block < W.heap.size := by obtain ⟨m, hm⟩ := k1; exact DataW.trod_lt m _ _ _ hm
  obtain ⟨zs1, hr1⟩ := openNs (hval 1 24 v1 rfl rfl) h1
  have k2 := h2
  have lt2 : ∀ x ∈ p2, x.block < W.heap.size := by obtain ⟨m, hm⟩ := k2; exact DataW.trod_lt m _ _ _ hm
  obtain ⟨c2, rfl, hc2⟩ := openEva (hval 2 37 v2 rfl rfl) h2
  clear hA0 hval0
  refine (walk v0 rs0 v1 zs1 c2 W hr0 hr1 hc2 hL).mono fun e W' ⟨he, bel⟩ => ?_
  subst he
  exact ⟨_, rfl, _, _, _, [], _, _, hW', trodAll_mk1 (shut_bool Tryd.underlying4 _), (trodAll_cons_mk (Below.trod laidOut (by kernel_rfl) (of_decide_eq_true (by kernel_rfl)) k0 bel lt0) (trodAll_cons_mk (Below.trod laidOut (by kernel_rfl) (of_decide_eq_true (by kernel_rfl)) k1 bel lt1) (trodAll_cons_mk (Below.trod laidOut (by kernel_rfl) (of_decide_eq_true (by kernel_rfl)) k2 bel lt2) trodAll_mk0))), Below.trodVars laidOut bel (by kernel_rfl) hV, bel.frame _, fun h => by cases h⟩
theorem over : Rows.fnExactSealJoinRow.holds Tryd.pinned (OpenSpec.ofChange Rows.fnExactSealJoinSpec) :=
  OpenClaim.holds_of_wide 5 Tryd.f5 rfl rfl rfl rfl rfl rfl rfl ⟨rfl, rfl, rfl, rfl, rfl⟩ rfl rfl rfl rfl rfl (by kernel_rfl) Tryd.func5 (by kernel_rfl)
    (of_decide_eq_true (by kernel_rfl)) (by unfold Func.isWrapper; first | (rw [if_pos (by decide +kernel)]; kernel_rfl) | (rw [if_neg (by decide +kernel)]; exact ⟨rfl, rfl⟩))
    (fun os started H enc _ => lifted os started H enc)
theorem card : Rows.FnExactSealJoinCardSaid :=
  Claim7.holds_tied_plain_at .later [] [.data] true (true, "d6e7dc45e19172ea6cc2aa3a41c2d910d314ee5d2b6bc359248a11bc9cf2512a") false
    over (fun _ h => by cases h) (by kernel_rfl) (fun _ h => by cases h) fnExactSealJoin_row_tie rfl ⟨rfl, rfl⟩ (by kernel_rfl) rfl
    (fun f fn hf hfn => by
      obtain rfl : f = 5 := Option.some.inj ((show Tryd.prog.funcNamed "loop.example/g00096/laws.FnExactSealJoin" = some 5 by kernel_rfl).symm.trans hf) |>.symm
      obtain rfl : fn = Tryd.f5 := (Option.some.inj (Tryd.func5.symm.trans hfn)).symm
      exact ⟨by kernel_rfl, fun j t ht => by
        rw [Tryd.params5] at ht
        have hj : Tryd.prog.wantsStandIn t = false := by
          rcases j with _ | j
          · have e : t = 22 := by simpa using ht.symm
            subst e
            exact (show Tryd.prog.wantsStandIn 22 = false by kernel_rfl)
          rcases j with _ | j
          · have e : t = 24 := by simpa using ht.symm
            subst e
            exact (show Tryd.prog.wantsStandIn 24 = false by kernel_rfl)
          rcases j with _ | j
          · have e : t = 37 := by simpa using ht.symm
            subst e
            exact (show Tryd.prog.wantsStandIn 37 = false by kernel_rfl)
          simp at ht
        exact hj⟩)
    (by kernel_rfl)
end fnExactSealJoin
theorem fnExactSealJoin_holds : Rows.FnExactSealJoinCardSaid := fnExactSealJoin.card
#print axioms fnExactSealJoin_holds
end Go.Proofs.YtibjmokhkjklkaaDoor
