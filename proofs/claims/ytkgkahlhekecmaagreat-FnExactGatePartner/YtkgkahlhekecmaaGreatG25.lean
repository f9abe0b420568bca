/- Texts of ours put together: CpB. -/
import Derived.Test.YtkgkahlhekecmaaGreatG16
import Derived.Test.YtkgkahlhekecmaaGreatG21
import Derived.Deep.RegionLaw
import Derived.Deep.RegionHeld3
import Derived.Deep.AppendLies
import Derived.Sort.Walk0
import Derived.Test.YtkgkahlhekecmaaGreatG24
import Derived.Test.YtkgkahlhekecmaaGreatG23
import Derived.Test.YtkgkahlhekecmaaGreatG01
import Derived.RangeFuncBox
namespace Go.Proofs.YtkgkahlhekecmaaGreat
open Go.ChangeShapes Go.WideShapes Go.ChangeAt Go.RowKit
/-- The boxes of copyOfBook, and the row that grows. -/
structure QB (w W : World) (B bl : Nat) (lv ul : Value) (ls : List OLn) (k : Nat) (ts : List Stk) : Prop where
  bel : Below w.heap.size w W
  res : W.heap[w.heap.size + 1]? = some (.cells #[.slice none 0 0, .slice none 0 0] 38)
  box : W.heap[B]? = some (.cells #[lv, ul] 38)
  own : W.ownsRow (B + 1) 145 2 lv k (clSts ts)
  ln : LOl bl W ul ls
  hB : w.heap.size + 1 < B
  hl : w.heap.size + 2 ≤ bl
  hlB : ls ≠ [] → bl < B
theorem QB.below {w W W' : World} {B bl : Nat} {lv ul : Value} {ls : List OLn} {k : Nat} {ts : List Stk} (h : QB w W B bl lv ul ls k ts) (hb : Below W.heap.size W W') : QB w W' B bl lv ul ls k ts := by
  have hr := (Array.getElem?_eq_some_iff.1 h.res).1
  have hx := (Array.getElem?_eq_some_iff.1 h.box).1
  refine ⟨h.bel.trans (hb.mono h.bel.size), (hb.block _ hr).trans h.res, (hb.block _ hx).trans h.box, ?_, h.ln.below hb, h.hB, h.hl, h.hlB⟩
  refine h.own.kept (row := none) ⟨hb.os, hb.tape, hb.output, hb.size, fun j hj _ => hb.block j hj⟩ ?_
  rcases h.own.2 with ⟨e, _⟩ | ⟨g, cap, cur, e, _⟩
  · exact .inl (by rw [e]; rfl)
  · exact .inr (by rw [e]; simp [Value.ownBlock])
theorem qb_next {w Wx w4 : World} {B bl : Nat} {lv ul v' : Value} {ls : List OLn} {k k' : Nat} {ts ts' : List Stk} (hq : QB w Wx B bl lv ul ls k ts) (hg : Wx.grownBy w4 lv.ownBlock) (bx : w4.heap[B]? = some (.cells #[lv, ul] 38)) (ho : w4.ownsRow (B + 1) 145 2 v' k' (clSts ts')) : QB w (w4.setCell ⟨B, 0, none⟩ v') B bl v' ul ls k' ts' := by
  have hne : ∀ j, j < B → some j ≠ lv.ownBlock := fun j hj e => by
    have := (hq.own.lt j e.symm).1
    omega
  have hxl := (Array.getElem?_eq_some_iff.1 hq.box).1
  have hb4 : Below w.heap.size w w4 := hq.bel.trans ⟨hg.os, hg.tape, hg.output, hg.size, fun j hj => hg.block j (by have := hq.bel.size; omega) (hne j (by have := hq.hB; omega))⟩
  have hB := hq.hB
  refine ⟨hb4.setCell (show w.heap.size ≤ B by omega) _, ?_, set2a _ bx, ?_, hq.ln.of_block fun hn => ?_, hq.hB, hq.hl, hq.hlB⟩
  · rw [setNe _ (by omega)]
    exact (hg.block _ (by omega) (hne _ (by omega))).trans hq.res
  · refine ho.kept (grownBy_setCell' w4 B v') ?_
    rcases ho.2 with ⟨e, _⟩ | ⟨g, cap, cur, e, h1, _⟩
    · exact .inl (by rw [e]; rfl)
    · exact .inr (by rw [e]; simp [Value.ownBlock]; omega)
  · have h1 := hq.hlB hn
    rw [setNe _ (by omega)]
    exact hg.block _ (by omega) (hne _ h1)
theorem LSt.of_blk {W : World} {base : Nat} {v : Value} {rs : List Stk} (h : W.ownsRow base 145 2 v rs.length (clSts rs)) (hl : rs.length ≤ 9223372036854775807) (hz : ∀ (i : Nat) (g : Stk), rs[i]? = some g → g.item.size ≤ 9223372036854775807) : ∃ b, base ≤ b ∧ (rs ≠ [] → b < W.heap.size) ∧ LSt b W v rs := by
  obtain ⟨b, h1, h2⟩ := LSt.of_owns h hl hz
  exact ⟨b, h1, fun hn => h2.lt hn, h2⟩
set_option maxRecDepth 20000 in
set_option maxHeartbeats 8000000 in
theorem copyOfBook_any (p : Bk) (us ul : Value) (w : World) (h : RBk w us ul p) (hP : BdBk 1048576 p) : Calls Tryz.prog 108 #[.agg #[us, ul]] w fun e w' => ∃ us' ul' bs bl, e = .returned (.agg #[us', ul']) ∧ w.heap.size ≤ bs ∧ w.heap.size ≤ bl ∧ LSt bs w' us' p.stocks ∧ LOl bl w' ul' p.lines ∧ w'.ownsRow w.heap.size 145 2 us' p.stocks.length (clSts p.stocks) ∧ Below w.heap.size w w' := by
  obtain ⟨a, c, a', c', rfl, rfl⟩ := h.val
  have hlen := h.st.len
  obtain ⟨j0, hj0i, hi0, hi1, hi2⟩ := info_parts infoStA
  obtain ⟨W0, hW0⟩ : ∃ W0, (w.alloc (.cells #[.slice a p.stocks.length c, .slice a' p.lines.length c'] 38)).alloc (.cells #[.slice none 0 0, .slice none 0 0] 38) = W0 := ⟨_, rfl⟩
  have hb0 : Below w.heap.size w W0 := by rw [← hW0]; exact ((Below.refl _ _).alloc (Nat.le_refl _) _).alloc (by simp) _
  obtain ⟨x0, x1⟩ := fl_two w (.cells #[.slice a p.stocks.length c, .slice a' p.lines.length c'] 38) (.cells #[.slice none 0 0, .slice none 0 0] 38)
  rw [hW0] at x0 x1
  have H0 : Hid (Below w.heap.size w W0 ∧ RBk W0 (.slice a p.stocks.length c) (.slice a' p.lines.length c') p ∧ W0.heap[w.heap.size]? = some (.cells #[.slice a p.stocks.length c, .slice a' p.lines.length c'] 38) ∧ W0.heap[w.heap.size + 1]? = some (.cells #[.slice none 0 0, .slice none 0 0] 38) ∧ BdBk 1048576 p) := ⟨hb0, h.below hb0, x0, x1, hP⟩
  have HRow : Hid (RowSt w (.slice a p.stocks.length c) p.stocks) := h.st
  obtain ⟨c0, c1⟩ := box2 x0
  have hlt0 := (Array.getElem?_eq_some_iff.1 x0).1
  have hlt1 := (Array.getElem?_eq_some_iff.1 x1).1
  have HS2 : Hid (W0.heap.size = w.heap.size + 2) := by rw [← hW0]; simp [Hid]
  have hl1 := hP.2.len
  have hl0 := hP.1.len
  clear h hb0 x0 x1 hP
  go_enter Tryz.func108, Tryz.ntmps108
  go_upto_region 1 with fail
  try rw [hW0]
  clear hW0
  go_wp2_with fail
  refine (copyOls_any _ p.lines _ H0.out.2.1.ln hl1 (fun d hd => by obtain ⟨i, hi⟩ := List.getElem?_of_mem hd; exact H0.out.2.2.2.2.2.2 i d hi)).mono ?_
  rintro e w1 ⟨u1, bl, rfl, hbl, hL1, hb1⟩
  obtain ⟨A2, C2, rfl⟩ := hL1.val
  obtain ⟨B, hB⟩ : ∃ B, B = w1.heap.size := ⟨_, rfl⟩
  obtain ⟨Wb, hWb⟩ : ∃ Wb, w1.alloc (.cells #[.slice none 0 0, .slice A2 p.lines.length C2] 38) = Wb := ⟨_, rfl⟩
  have hbW : Below w1.heap.size w1 Wb := by rw [← hWb]; exact (Below.refl _ _).alloc (Nat.le_refl _) _
  have s1 := hb1.size
  have HQ : Hid (QB w Wb B bl (.slice none 0 0) (.slice A2 p.lines.length C2) p.lines 0 []) := by
    have q1 := (hb1.block _ hlt1).trans H0.out.2.2.2.1
    have hlq := (Array.getElem?_eq_some_iff.1 q1).1
    refine ⟨(H0.out.1.trans (hb1.mono H0.out.1.size)).trans (hbW.mono (by have := H0.out.1.size; omega)), (hbW.block _ hlq).trans q1, ?_, by simpa [clSts] using World.ownsRow_nil Wb (B + 1) 145 2, hL1.below hbW, by omega, by have hs2 := HS2.out; omega, fun hn => by rw [hB]; exact hL1.lt hn⟩
    rw [hB, ← hWb]
    exact World.alloc_heap_new _ _
  have x2 := (hbW.block _ (by omega)).trans ((hb1.block _ hlt0).trans H0.out.2.2.1)
  obtain ⟨d0, d1⟩ := box2 x2
  have HWB : Hid (w1.alloc (.cells #[.slice none 0 0, .slice A2 p.lines.length C2] 38) = Wb ∧ B = w1.heap.size) := ⟨hWb, hB⟩
  clear hL1 hb1 hbW c0 c1 x2 hWb hB
  go_upto_region 2 with fail
  try rw [HWB.out.1]
  try rw [← HWB.out.2]
  clear HWB
  obtain ⟨rs, hrs⟩ : ∃ rs, rs = p.stocks := ⟨_, rfl⟩
  rw [← hrs] at hlen hl0 d0
  have HR : Hid (rs = p.stocks) := hrs
  have HRw : Hid (RowSt w (.slice a rs.length c) rs ∧ BdSt 1048576 rs) := by rw [hrs]; exact ⟨HRow.out, H0.out.2.2.2.2.1⟩
  clear hrs HRow
  go_wp2_with fail
  go_loopw [13] (fun i wr => ∃ (k : Nat) (A : Option Addr) (C : Nat), i = .int .i64 (k : Int) ∧ k ≤ rs.length ∧ QB w wr B bl (.slice A k C) (.slice A2 p.lines.length C2) p.lines k (rs.take k)) (fun i _ => rs.length - (intOf i).toNat)
  case atStart => exact ⟨0, none, 0, rfl, by omega, by simpa using HQ.out⟩
  case round =>
    obtain ⟨k, A1, C1, rfl, hk, hQ⟩ := hrel
    by_cases hlt : k < rs.length
    · have hlt' : (k : Int) < (rs.length : Int) := by omega
      obtain ⟨b, o, cap', c, e, hs, ⟨q0, q1⟩, _⟩ := (HRw.out.1.below hQ.bel).at hlt
      simp only [Value.slice.injEq, true_and] at e
      obtain ⟨rfl, rfl⟩ := e
      have hz := HRw.out.2.2 k c hs
      have hmx : k + 1 ≤ maxLen := by unfold maxLen; omega
      obtain ⟨W1, hW1⟩ : ∃ W1, wr.alloc (.cells #[.string c.item, .int .i64 c.hand] 145) = W1 := ⟨_, rfl⟩
      have ha : Below wr.heap.size wr W1 := by rw [← hW1]; exact (Below.refl _ _).alloc (Nat.le_refl _) _
      have hbx : W1.heap[wr.heap.size]? = some (.cells #[.string c.item, .int .i64 c.hand] 145) := by rw [← hW1]; exact World.alloc_heap_new _ _
      obtain ⟨S, hS⟩ : ∃ S, S = wr.heap.size := ⟨_, rfl⟩
      rw [← hS] at hbx
      have hQ1 := hQ.below ha
      have HG : Hid (QB w W1 B bl (.slice A1 k C1) (.slice A2 p.lines.length C2) p.lines k (rs.take k) ∧ rs[k]? = some c) := ⟨hQ1, hs⟩
      have HX : Hid (∀ W, Below W1.heap.size W1 W → W.heap[B]? = some (.cells #[.slice A1 k C1, .slice A2 p.lines.length C2] 38)) := fun W hW => (hQ1.below hW).box
      have HC : Hid (∀ W, Below W1.heap.size W1 W → W.cell? ⟨S, 0, none⟩ = some (.string c.item) ∧ W.cell? ⟨S, 1, none⟩ = some (.int .i64 c.hand) ∧ W.cell? ⟨B, 0, none⟩ = some (.slice A1 k C1) ∧ W.cell? ⟨B, 1, none⟩ = some (.slice A2 p.lines.length C2) ∧ ∀ o, W.frozen? ⟨B, o, none⟩ = false) := fun W hW => by
        have e1 := (hW.block S (Array.getElem?_eq_some_iff.1 hbx).1).trans hbx
        have e2 := HX.out W hW
        exact ⟨(box2 e1).1, (box2 e1).2, (box2 e2).1, (box2 e2).2, frz2 e2⟩
      have HW : Hid (∀ W, Below W1.heap.size W1 W → W.ownsRow (B + 1) 145 2 (.slice A1 k C1) k (clSts (rs.take k)) ∧ B + 1 ≤ W.heap.size) := fun W hW => by
        have := hQ1.below hW
        exact ⟨this.own, (Array.getElem?_eq_some_iff.1 this.box).1⟩
      have HB : Hid (some B ≠ (Value.slice A1 k C1).ownBlock) := fun e => by
        have := (hQ.own.lt B e.symm).1
        omega
      obtain ⟨b0, b1, b2, b3, b4⟩ := HC.out W1 (Below.refl _ _)
      go_upto_region 5 with fail
      try rw [hW1]
      try rw [← hS]
      clear hW1 ha hbx hQ hQ1 hs q0 q1 hS
      go_region_law (first | (go_simp; go_at_call 105; refine (clone_any _ _ (by omega)).mono ?_; rintro e wa ⟨rfl, hba⟩; have ba : Below W1.heap.size W1 wa := (by first | exact hba | exact undrewS hba); have bd : Below W1.heap.size W1 (wa.alloc (.cells #[.string c.item, .int .i64 c.hand] 145)) := ba.alloc ba.size _; have HD : Hid (Below W1.heap.size W1 (wa.alloc (.cells #[.string c.item, .int .i64 c.hand] 145))) := bd; have rowN := (HW.out _ bd).1; obtain ⟨a0, a1, a2, a3, a4⟩ := HC.out wa ba; obtain ⟨f0, f1, f2, f3, f4⟩ := HC.out _ bd; have szN := (HW.out _ ba).2; clear hba bd; try dsimp only) | (refine step_append_lies _ (by rfl) _ _ _ (by rfl) (B + 1) 145 j0 _ 2 24 Tryz.underlying35 hj0i hi0 hi1 hi2 rfl (by omega) (.slice A1 k C1) k (clSts (rs.take k)) (by rfl) (by first | exact rowN | exact rowN.drew) ⟨wa.heap.size, 0, none⟩ 1 1 (clSt c) (by rfl) (by rfl) (World.news_of_block (cs := #[.string c.item, .int .i64 c.hand]) (t := 145) (fr := (0, 0)) (by first | exact World.alloc_heap_new wa _)) (by simp [Value.oneCell', clSt]) (by omega) hmx (by omega) (by simp; omega) (wa.heap.size + 1) (by simp) ?_; intro gg cap w4 hown4 hgrow hat4 hlt4; have bx4 := (hgrow.block B (by have := (Array.getElem?_eq_some_iff.1 (HX.out _ HD.out)).1; omega) HB.out).trans (HX.out _ HD.out); have u0 := (box2 bx4).1; have u1 := frz2 bx4; try dsimp only))
      all_goals
        have e3 : rs.take (k + 1) = rs.take k ++ [c] := by
          rw [List.take_add_one, HG.out.2]
          rfl
        have H4 : Hid (QB w (w4.setCell ⟨B, 0, none⟩ (.slice (some ⟨gg, 0, none⟩) (k + 1) cap)) B bl (.slice (some ⟨gg, 0, none⟩) (k + 1) cap) (.slice A2 p.lines.length C2) p.lines (k + 1) (rs.take (k + 1))) := by
          have hq := HG.out.1.below HD.out
          have hg4 : (wa.alloc (.cells #[.string c.item, .int .i64 c.hand] 145)).grownBy w4 (Value.slice A1 k C1).ownBlock := hgrow
          exact qb_next hq hg4 bx4 (by rw [e3, clSts_app]; exact hown4)
        clear hown4 hgrow hat4 hlt4 u0 rowN szN
        try go_wp2
        exact ⟨⟨k + 1, _, _, by go_num, by omega, H4.out⟩, by simp [intOf]; omega⟩
    · obtain rfl : k = rs.length := by omega
      have HF : Hid (QB w wr B bl (.slice A1 rs.length C1) (.slice A2 p.lines.length C2) p.lines rs.length rs) := by
        rw [List.take_length] at hQ
        exact hQ
      obtain ⟨y0, y1⟩ := box2 hQ.box
      obtain ⟨z0, z1⟩ := box2 hQ.res
      have zf := frz2 hQ.res
      clear hQ
      go_wp2
      have hF := HF.out
      have hst : ∀ (i : Nat) (x : Value) (W : World), (Below w.heap.size w W ∧ LOl bl W (.slice A2 p.lines.length C2) p.lines ∧ W.ownsRow (B + 1) 145 2 (.slice A1 rs.length C1) rs.length (clSts rs)) → (Below w.heap.size w (W.setCell ⟨w.heap.size + 1, i, none⟩ x) ∧ LOl bl (W.setCell ⟨w.heap.size + 1, i, none⟩ x) (.slice A2 p.lines.length C2) p.lines ∧ (W.setCell ⟨w.heap.size + 1, i, none⟩ x).ownsRow (B + 1) 145 2 (.slice A1 rs.length C1) rs.length (clSts rs)) := fun i x W ⟨k1, k2, k3⟩ => by
        have h1 := hF.hl
        have h2 := hF.hB
        refine ⟨k1.setCell (show w.heap.size ≤ w.heap.size + 1 by omega) x, k2.of_block fun _ => setNe x (by omega), ?_⟩
        refine k3.kept (row := some (w.heap.size + 1)) ⟨rfl, rfl, rfl, by simp, fun j hj hne => setNe x (fun e => hne (by rw [e]))⟩ ?_
        rcases k3.2 with ⟨e, _⟩ | ⟨g, cap, cur, e, h3, _⟩
        · exact .inl (by rw [e]; rfl)
        · exact .inr (by rw [e]; simp [Value.ownBlock]; omega)
      have hE := hst 1 (.slice A2 p.lines.length C2) _ (hst 0 (.slice A1 rs.length C1) _ ⟨hF.bel, hF.ln, hF.own⟩)
      obtain ⟨bs, hbs, _, hLs⟩ := LSt.of_blk hE.2.2 hlen (fun i g hi => by have := HRw.out.2.2 i g hi; omega)
      have hB' := hF.hB
      have hl' := hF.hl
      rw [HR.out] at hLs hE
      exact bodyPost_ret (v := .agg #[.slice A1 p.stocks.length C1, .slice A2 p.lines.length C2]) (by rw [← HR.out]; simp [results, Tryz.results108, go_sem, z0, z1]) rfl ⟨_, _, bs, bl, rfl, by omega, by omega, by rw [← HR.out] at hLs ⊢; exact hLs, by rw [← HR.out] at hE; exact hE.2.1, by rw [← HR.out] at hE ⊢; exact ownsRow_down hE.2.2 (by omega), by rw [← HR.out] at hE; exact hE.1⟩
end Go.Proofs.YtkgkahlhekecmaaGreat
