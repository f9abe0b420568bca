/- Texts of ours put together: ToBk, ToDf, ToOu. -/
import Derived.Test.YtkgkahlhekecmaaGreatG01
import Derived.Test.YtkgkahlhekecmaaGreatG04
namespace Go.Proofs.YtkgkahlhekecmaaGreat
open Go.ChangeShapes Go.WideShapes Go.ChangeAt Go.RowKit
set_option maxHeartbeats 4000000 in
theorem toBk_own (b : Bk) (us ul : Value) (w : World) (h : RBk w us ul b) (hP : BdBk 1048576 b) :
    Calls Tryz.prog 26 #[.agg #[us, ul]] w fun e w' => ∃ us' ul', e = .returned (.agg #[us', ul']) ∧ OwnSt w.heap.size w' us' b.stocks ∧ OwnOl w.heap.size w' ul' b.lines ∧ Below w.heap.size w w' := by
  obtain ⟨stocks, lines⟩ := b
  obtain ⟨a, cap, a2, cap2, rfl, rfl⟩ := h.val
  dsimp only at h ⊢
  have H : Hid ((RowSt w (.slice a stocks.length cap) stocks ∧ BdSt 1048576 stocks) ∧ (RowOl w (.slice a2 lines.length cap2) lines ∧ BdOl 1048576 lines)) := ⟨⟨h.st, hP.1⟩, ⟨h.ln, hP.2⟩⟩
  clear h hP
  go_enter Tryz.func26, Tryz.ntmps26
  go_wp2_with fail
  have hb0 : Below w.heap.size w (((w.alloc (.cells #[.slice a stocks.length cap, .slice a2 lines.length cap2] 27)).alloc (.cells #[.slice none 0 0, .slice none 0 0] 38)).alloc (.cells #[.slice none 0 0, .slice none 0 0] 38)) := (((Below.refl _ _).alloc (Nat.le_refl _) _).alloc (by simp) _).alloc (by simp; omega) _
  have h3 := fl_three w (.cells #[.slice a stocks.length cap, .slice a2 lines.length cap2] 27) (.cells #[.slice none 0 0, .slice none 0 0] 38) (.cells #[.slice none 0 0, .slice none 0 0] 38)
  have hs0 : (((w.alloc (.cells #[.slice a stocks.length cap, .slice a2 lines.length cap2] 27)).alloc (.cells #[.slice none 0 0, .slice none 0 0] 38)).alloc (.cells #[.slice none 0 0, .slice none 0 0] 38)).heap.size = w.heap.size + 3 := by simp
  generalize (((w.alloc (.cells #[.slice a stocks.length cap, .slice a2 lines.length cap2] 27)).alloc (.cells #[.slice none 0 0, .slice none 0 0] 38)).alloc (.cells #[.slice none 0 0, .slice none 0 0] 38)) = W0 at hb0 h3 hs0 ⊢
  refine (toSts_any _ stocks W0 (H.out.1.1.below hb0) H.out.1.2).mono ?_
  rintro e w1 ⟨v1, rfl, hO, hb1⟩
  obtain ⟨A1, L1, C1, hv1⟩ : ∃ A1 L1 C1, v1 = .slice A1 L1 C1 := by
    obtain ⟨b', _, _, h2, _⟩ := hO
    exact ⟨_, _, _, h2⟩
  subst hv1
  have s1 := hb1.size
  have f0 := (hb1.block w.heap.size (by omega)).trans h3.1
  have f1 := (hb1.block (w.heap.size + 1) (by omega)).trans h3.2.1
  have f2 := (hb1.block (w.heap.size + 1 + 1) (by omega)).trans h3.2.2
  obtain ⟨a0, a1⟩ := box2 f0
  obtain ⟨c0, c1⟩ := box2 f2
  have z2 := frz2 f2
  have HS : Hid (w1.heap[w.heap.size]? = some (.cells #[.slice a stocks.length cap, .slice a2 lines.length cap2] 27) ∧ w1.heap[w.heap.size + 1]? = some (.cells #[.slice none 0 0, .slice none 0 0] 38) ∧ w1.heap[w.heap.size + 1 + 1]? = some (.cells #[.slice none 0 0, .slice none 0 0] 38) ∧ Below w.heap.size w w1 ∧ OwnSt (w.heap.size + 3) w1 (.slice A1 L1 C1) stocks) := ⟨f0, f1, f2, hb0.trans (hb1.mono (by omega)), by rw [← hs0]; exact hO⟩
  obtain ⟨W1, hW1⟩ : ∃ W1, w1.setCell ⟨w.heap.size + 1 + 1, 0, none⟩ (.slice A1 L1 C1) = W1 := ⟨_, rfl⟩
  have sW1 : W1.heap.size = w1.heap.size := by rw [← hW1]; simp
  have a1' : W1.cell? ⟨w.heap.size, 1, none⟩ = some (.slice a2 lines.length cap2) := by
    have := (setNe (W := w1) (c := w.heap.size + 1 + 1) (i := 0) (.slice A1 L1 C1) (show w.heap.size ≠ w.heap.size + 1 + 1 by omega)).trans f0
    rw [hW1] at this
    exact (box2 this).2
  have HW : Hid (W1 = w1.setCell ⟨w.heap.size + 1 + 1, 0, none⟩ (.slice A1 L1 C1)) := hW1.symm
  have a1w : (w1.setCell ⟨w.heap.size + 1 + 1, 0, none⟩ (.slice A1 L1 C1)).cell? ⟨w.heap.size, 1, none⟩ = some (.slice a2 lines.length cap2) := by rw [hW1]; exact a1'
  clear f0 f1 f2 hb0 hO h3
  go_wp2_with fail
  try rw [hW1]
  clear hW1 a1w
  have hb1' : Below w.heap.size w W1 := by rw [HW.out]; exact HS.out.2.2.2.1.setCell (show w.heap.size ≤ w.heap.size + 1 + 1 by omega) _
  refine (toOls_any _ lines W1 (H.out.2.1.below hb1') H.out.2.2).mono ?_
  rintro e w2 ⟨v2, rfl, hO2, hb2⟩
  obtain ⟨A2, L2, C2, hv2⟩ : ∃ A1 L1 C1, v2 = .slice A1 L1 C1 := by
    obtain ⟨b', _, _, h2, _⟩ := hO2
    exact ⟨_, _, _, h2⟩
  subst hv2
  have g1 : w2.heap[w.heap.size + 1]? = some (.cells #[.slice none 0 0, .slice none 0 0] 38) := by
    rw [hb2.block _ (by omega), HW.out, setNe _ (by omega)]; exact HS.out.2.1
  have g2 : w2.heap[w.heap.size + 1 + 1]? = some (.cells #[.slice A1 L1 C1, .slice none 0 0] 38) := by
    rw [hb2.block _ (by omega), HW.out]; exact set2a _ HS.out.2.2.1
  obtain ⟨d0, d1⟩ := box2 g1
  obtain ⟨e0, e1⟩ := box2 g2
  have y1 := frz2 g1
  have y2 := frz2 g2
  have HF : Hid (Below w.heap.size w w2 ∧ OwnSt (w.heap.size + 3) w2 (.slice A1 L1 C1) stocks ∧ OwnOl (w.heap.size + 3) w2 (.slice A2 L2 C2) lines) := by
    refine ⟨hb1'.trans (hb2.mono hb1'.size), OwnSt.below ?_ hb2, hO2.mono (by omega)⟩
    rw [HW.out]
    exact HS.out.2.2.2.2.setAt (by omega) _ _
  clear g1 g2 hb1' hb2 hO2 a0 a1 a1' c0 c1 z2 hb1
  go_wp2
  have st : ∀ (W : World) (c i : Nat) (x : Value), w.heap.size ≤ c → c < w.heap.size + 3 → (Below w.heap.size w W ∧ OwnSt (w.heap.size + 3) W (.slice A1 L1 C1) stocks ∧ OwnOl (w.heap.size + 3) W (.slice A2 L2 C2) lines) → (Below w.heap.size w (W.setCell ⟨c, i, none⟩ x) ∧ OwnSt (w.heap.size + 3) (W.setCell ⟨c, i, none⟩ x) (.slice A1 L1 C1) stocks ∧ OwnOl (w.heap.size + 3) (W.setCell ⟨c, i, none⟩ x) (.slice A2 L2 C2) lines) := fun W c i x g1 g2 ⟨k1, k2, k3⟩ => ⟨k1.setCell g1 x, k2.setAt g2 i x, k3.setAt g2 i x⟩
  have hF := st _ (w.heap.size + 1) 1 (.slice A2 L2 C2) (by omega) (by omega) (st _ (w.heap.size + 1) 0 (.slice A1 L1 C1) (by omega) (by omega) (st _ (w.heap.size + 1 + 1) 1 (.slice A2 L2 C2) (by omega) (by omega) HF.out))
  exact bodyPost_ret (v := .agg #[.slice A1 L1 C1, .slice A2 L2 C2]) (by simp [results, Tryz.results26, go_sem, d0, d1]) rfl ⟨_, _, rfl, hF.2.1.mono (by omega), hF.2.2.mono (by omega), hF.1⟩
theorem toBk_any (b : Bk) (us ul : Value) (w : World) (h : RBk w us ul b) (hP : BdBk 1048576 b) :
    Calls Tryz.prog 26 #[.agg #[us, ul]] w fun e w' => ∃ us' ul', e = .returned (.agg #[us', ul']) ∧ RBk w' us' ul' b ∧ Below w.heap.size w w' :=
  (toBk_own b us ul w h hP).mono fun _ _ ⟨u', v', he, hO, hO', hb⟩ => ⟨u', v', he, ⟨hO.row hP.1, hO'.row hP.2⟩, hb⟩
end Go.Proofs.YtkgkahlhekecmaaGreat
namespace Go.Proofs.YtkgkahlhekecmaaGreat
open Go.ChangeShapes Go.WideShapes Go.ChangeAt Go.RowKit
theorem infoDf : (Tryz.prog.info? 110).map (fun i => (i.zero, i.size, i.bytes)) = some (some (.agg #[.int .i64 0, .string ⟨#[]⟩, .string ⟨#[]⟩, .int .i64 0, .string ⟨#[]⟩, .int .i64 0]), 6, 72) := by kernel_rfl
theorem run_make_Df (n : Nat) (hn : n ≤ 1048576) (w : World) : (Instr.makeSlice 39 (.int .i64 (n : Int)) (.int .i64 (n : Int))).run Tryz.prog w = .ok (.slice (some ⟨w.heap.size, 0, none⟩) n n) (w.alloc (.cells (madeCells #[.int .i64 0, .string ⟨#[]⟩, .string ⟨#[]⟩, .int .i64 0, .string ⟨#[]⟩, .int .i64 0] (n * 6)) 110)) := by
  obtain ⟨i0, hi, hz0, hz1, hz2⟩ := info_parts infoDf
  have h := run_make (P := Tryz.prog) w 39 110 i0 (.agg #[.int .i64 0, .string ⟨#[]⟩, .string ⟨#[]⟩, .int .i64 0, .string ⟨#[]⟩, .int .i64 0]) Tryz.underlying39 hi hz0 .i64 .i64 (n : Int) (n : Int) (by omega) (by omega) (by rw [hz2]; omega) (by omega)
  rw [hz1] at h
  simpa [Value.cells] using h
set_option maxHeartbeats 1000000 in
theorem toDf_any (g : Dff) (w : World) :
    Calls Tryz.prog 60 #[.agg #[.int .i64 g.kind, .string g.partner, .string g.ref, .int .i64 g.no, .string g.item, .int .i64 g.qty]] w fun e w' => e = .returned (.agg #[.int .i64 g.kind, .string g.partner, .string g.ref, .int .i64 g.no, .string g.item, .int .i64 g.qty]) ∧ Below w.heap.size w w' := by
  obtain ⟨kind, partner, ref, no, item, qty⟩ := g
  dsimp only
  go_enter Tryz.func60, Tryz.ntmps60
  go_wp2
  exact bodyPost_ret (v := .agg #[.int .i64 kind, .string partner, .string ref, .int .i64 no, .string item, .int .i64 qty]) (by simp [results, Tryz.results60, go_sem]) rfl ⟨rfl, (((Below.refl _ _).alloc (Nat.le_refl _) _).alloc (by simp) _).alloc (by simp; omega) _⟩
/-- A list in a block of its own, not below B. -/
def OwnDf (B : Nat) (W : World) (v : Value) (rs : List Dff) : Prop := ∃ (b : Nat) (f : Nat → Value), B ≤ b ∧ v = .slice (some ⟨b, 0, none⟩) rs.length rs.length ∧ W.rowIs b 110 (rs.length * 6) f ∧ ∀ (i : Nat) (g : Dff), rs[i]? = some g → f (i * 6) = .int .i64 g.kind ∧ f (i * 6 + 1) = .string g.partner ∧ f (i * 6 + 2) = .string g.ref ∧ f (i * 6 + 3) = .int .i64 g.no ∧ f (i * 6 + 4) = .string g.item ∧ f (i * 6 + 5) = .int .i64 g.qty
theorem OwnDf.lst {B : Nat} {W : World} {v : Value} {rs : List Dff} (h : OwnDf B W v rs) (hG : BdDf 1048576 rs) : ∃ b, B ≤ b ∧ LDf b W v rs := by
  obtain ⟨b, f, h1, h2, h3, h4⟩ := h
  have hl := hG.len
  exact ⟨b, h1, ⟨_, _, h2, fun _ => ⟨rfl, _, f, h3, Nat.le_refl _, h4⟩⟩, by omega, fun i g hi => by have := hG.2 i g hi; omega⟩
theorem OwnDf.row {B : Nat} {W : World} {v : Value} {rs : List Dff} (h : OwnDf B W v rs) (hG : BdDf 1048576 rs) : RowDf W v rs := by
  obtain ⟨b, _, h⟩ := h.lst hG
  exact h.row
theorem OwnDf.below {B : Nat} {W W' : World} {v : Value} {rs : List Dff} (h : OwnDf B W v rs) (hb : Below W.heap.size W W') : OwnDf B W' v rs := by
  obtain ⟨b, f, h1, h2, h3, h4⟩ := h
  exact ⟨b, f, h1, h2, h3.of_block (hb.block b h3.lt), h4⟩
theorem OwnDf.setAt {B c : Nat} {W : World} {v : Value} {rs : List Dff} (h : OwnDf B W v rs) (hc : c < B) (i : Nat) (x : Value) : OwnDf B (W.setCell ⟨c, i, none⟩ x) v rs := by
  obtain ⟨b, f, h1, h2, h3, h4⟩ := h
  exact ⟨b, f, h1, h2, h3.setOther (show b ≠ c by omega) x, h4⟩
theorem OwnDf.mono {B C : Nat} {W : World} {v : Value} {rs : List Dff} (h : OwnDf B W v rs) (hC : C ≤ B) : OwnDf C W v rs := by
  obtain ⟨b, f, h1, h2⟩ := h
  exact ⟨b, f, by omega, h2⟩
set_option maxHeartbeats 2000000 in
theorem toDfs_any (v : Value) (rs : List Dff) (w : World) (h : RowDf w v rs) (hG : BdDf 1048576 rs) :
    Calls Tryz.prog 27 #[v] w fun e w' => ∃ v', e = .returned v' ∧ OwnDf w.heap.size w' v' rs ∧ Below w.heap.size w w' := by
  have hlen := hG.len
  obtain ⟨a, cap, rfl⟩ := h.val
  have H : Hid (RowDf w (.slice a rs.length cap) rs ∧ BdDf 1048576 rs) := ⟨h, hG⟩
  clear h hG
  obtain ⟨M, hM, hMs⟩ : ∃ M : Array Value, madeCells #[.int .i64 0, .string ⟨#[]⟩, .string ⟨#[]⟩, .int .i64 0, .string ⟨#[]⟩, .int .i64 0] (rs.length * 6) = M ∧ M.size = rs.length * 6 := ⟨_, rfl, size_madeCells _ _⟩
  have hmk := run_make_Df rs.length hlen
  rw [hM] at hmk
  obtain ⟨f0, hf0⟩ := fl_row w M 110 (rs.length * 6) hMs
  have HF0 : Hid ((w.alloc (.cells M 110)).rowIs w.heap.size 110 (rs.length * 6) f0) := hf0
  clear hM hMs hf0
  go_enter Tryz.func27, Tryz.ntmps27
  go_wp2
  go_loopw [4] (fun i wr => ∃ (k : Nat) (f : Nat → Value), i = .int .i64 (k : Int) ∧ k ≤ rs.length ∧ wr.rowIs w.heap.size 110 (rs.length * 6) f ∧ (∀ (j : Nat) (g : Dff), j < k → rs[j]? = some g → f (j * 6) = .int .i64 g.kind ∧ f (j * 6 + 1) = .string g.partner ∧ f (j * 6 + 2) = .string g.ref ∧ f (j * 6 + 3) = .int .i64 g.no ∧ f (j * 6 + 4) = .string g.item ∧ f (j * 6 + 5) = .int .i64 g.qty) ∧ Below w.heap.size w wr) (fun i _ => rs.length - (intOf i).toNat)
  case atStart => exact ⟨0, f0, rfl, by omega, HF0.out, fun j e hj => by omega, (Below.refl _ _).alloc (Nat.le_refl _) _⟩
  case round =>
    obtain ⟨k, f, rfl, hk, hR, hA, hb⟩ := hrel
    by_cases hlt : k < rs.length
    · have hlt' : (k : Int) < (rs.length : Int) := by omega
      obtain ⟨b, o, cap', g, ee, hs, ⟨q0, q1, q2, q3, q4, q5⟩, hsz⟩ := (H.out.1.below hb).at hlt
      simp only [Value.slice.injEq, true_and] at ee
      obtain ⟨rfl, rfl⟩ := ee
      have HS : Hid (rs[k]? = some g ∧ wr.rowIs w.heap.size 110 (rs.length * 6) f ∧ (∀ (j : Nat) (g : Dff), j < k → rs[j]? = some g → f (j * 6) = .int .i64 g.kind ∧ f (j * 6 + 1) = .string g.partner ∧ f (j * 6 + 2) = .string g.ref ∧ f (j * 6 + 3) = .int .i64 g.no ∧ f (j * 6 + 4) = .string g.item ∧ f (j * 6 + 5) = .int .i64 g.qty) ∧ Below w.heap.size w wr) := ⟨hs, hR, hA, hb⟩
      clear hs hR hA hb
      go_wp2_with fail
      refine (toDf_any g _).mono ?_
      rintro ee w1 ⟨rfl, hb1⟩
      have hlt0 := HS.out.2.1.lt
      have hR1 : w1.rowIs w.heap.size 110 (rs.length * 6) f := HS.out.2.1.of_block (hb1.block _ hlt0)
      have hfz := hR1.frozen
      have k0 := hR1.cell (i := k * 6) (by omega)
      have k1 := hR1.cell (i := k * 6 + 1) (by omega)
      have k2 := hR1.cell (i := k * 6 + 2) (by omega)
      have k3 := hR1.cell (i := k * 6 + 3) (by omega)
      have k4 := hR1.cell (i := k * 6 + 4) (by omega)
      have k5 := hR1.cell (i := k * 6 + 5) (by omega)
      have H1 : Hid (rs[k]? = some g ∧ w1.rowIs w.heap.size 110 (rs.length * 6) f ∧ (∀ (j : Nat) (g : Dff), j < k → rs[j]? = some g → f (j * 6) = .int .i64 g.kind ∧ f (j * 6 + 1) = .string g.partner ∧ f (j * 6 + 2) = .string g.ref ∧ f (j * 6 + 3) = .int .i64 g.no ∧ f (j * 6 + 4) = .string g.item ∧ f (j * 6 + 5) = .int .i64 g.qty) ∧ Below w.heap.size w w1) := ⟨HS.out.1, hR1, HS.out.2.2.1, HS.out.2.2.2.trans (hb1.mono HS.out.2.2.2.size)⟩
      clear HS hR1 hb1
      go_wp2
      go_roundw
      case rel =>
        refine ⟨k + 1, _, by go_num, by omega, ((((((H1.out.2.1.set (k * 6) (.int .i64 g.kind)).set (k * 6 + 1) (.string g.partner)).set (k * 6 + 2) (.string g.ref)).set (k * 6 + 3) (.int .i64 g.no)).set (k * 6 + 4) (.string g.item)).set (k * 6 + 5) (.int .i64 g.qty)), fun j t hj ht => ?_, ((((((H1.out.2.2.2.setCell (Nat.le_refl _) _).setCell (Nat.le_refl _) _).setCell (Nat.le_refl _) _).setCell (Nat.le_refl _) _).setCell (Nat.le_refl _) _).setCell (Nat.le_refl _) _)⟩
        by_cases e1 : j = k
        · subst e1
          rw [H1.out.1] at ht
          cases ht
          refine ⟨?_, ?_, ?_, ?_, ?_, ?_⟩
          · rw [if_neg (by omega), if_neg (by omega), if_neg (by omega), if_neg (by omega), if_neg (by omega), if_pos rfl]
          · rw [if_neg (by omega), if_neg (by omega), if_neg (by omega), if_neg (by omega), if_pos rfl]
          · rw [if_neg (by omega), if_neg (by omega), if_neg (by omega), if_pos rfl]
          · rw [if_neg (by omega), if_neg (by omega), if_pos rfl]
          · rw [if_neg (by omega), if_pos rfl]
          · rw [if_pos rfl]
        · obtain ⟨r0, r1, r2, r3, r4, r5⟩ := H1.out.2.2.1 j t (by omega) ht
          refine ⟨?_, ?_, ?_, ?_, ?_, ?_⟩
          all_goals rw [if_neg (by omega), if_neg (by omega), if_neg (by omega), if_neg (by omega), if_neg (by omega), if_neg (by omega)]
          all_goals assumption
      case measure => simp [intOf]; omega
    · obtain rfl : k = rs.length := by omega
      have HS : Hid (wr.rowIs w.heap.size 110 (rs.length * 6) f ∧ (∀ (j : Nat) (g : Dff), j < rs.length → rs[j]? = some g → f (j * 6) = .int .i64 g.kind ∧ f (j * 6 + 1) = .string g.partner ∧ f (j * 6 + 2) = .string g.ref ∧ f (j * 6 + 3) = .int .i64 g.no ∧ f (j * 6 + 4) = .string g.item ∧ f (j * 6 + 5) = .int .i64 g.qty) ∧ Below w.heap.size w wr) := ⟨hR, hA, hb⟩
      clear hR hA hb
      go_wp2
      go_ret
      exact ⟨_, rfl, ⟨w.heap.size, f, Nat.le_refl _, rfl, HS.out.1, fun i e hi => HS.out.2.1 i e (List.getElem?_eq_some_iff.1 hi).1 hi⟩, HS.out.2.2⟩
end Go.Proofs.YtkgkahlhekecmaaGreat
namespace Go.Proofs.YtkgkahlhekecmaaGreat
open Go.ChangeShapes Go.WideShapes Go.ChangeAt Go.RowKit
theorem infoOu : (Tryz.prog.info? 112).map (fun i => (i.zero, i.size, i.bytes)) = some (some (.agg #[.string ⟨#[]⟩, .int .i64 0, .string ⟨#[]⟩, .int .i64 0, .int .i64 0]), 5, 56) := by kernel_rfl
theorem run_make_Ou (n : Nat) (hn : n ≤ 1048576) (w : World) : (Instr.makeSlice 40 (.int .i64 (n : Int)) (.int .i64 (n : Int))).run Tryz.prog w = .ok (.slice (some ⟨w.heap.size, 0, none⟩) n n) (w.alloc (.cells (madeCells #[.string ⟨#[]⟩, .int .i64 0, .string ⟨#[]⟩, .int .i64 0, .int .i64 0] (n * 5)) 112)) := by
  obtain ⟨i0, hi, hz0, hz1, hz2⟩ := info_parts infoOu
  have h := run_make (P := Tryz.prog) w 40 112 i0 (.agg #[.string ⟨#[]⟩, .int .i64 0, .string ⟨#[]⟩, .int .i64 0, .int .i64 0]) Tryz.underlying40 hi hz0 .i64 .i64 (n : Int) (n : Int) (by omega) (by omega) (by rw [hz2]; omega) (by omega)
  rw [hz1] at h
  simpa [Value.cells] using h
set_option maxHeartbeats 1000000 in
theorem toOu_any (g : OutR) (w : World) :
    Calls Tryz.prog 61 #[.agg #[.string g.partner, .int .i64 g.number, .string g.text, .int .i64 g.tries, .int .i64 g.due]] w fun e w' => e = .returned (.agg #[.string g.partner, .int .i64 g.number, .string g.text, .int .i64 g.tries, .int .i64 g.due]) ∧ Below w.heap.size w w' := by
  obtain ⟨partner, number, text, tries, due⟩ := g
  dsimp only
  go_enter Tryz.func61, Tryz.ntmps61
  go_wp2
  exact bodyPost_ret (v := .agg #[.string partner, .int .i64 number, .string text, .int .i64 tries, .int .i64 due]) (by simp [results, Tryz.results61, go_sem]) rfl ⟨rfl, (((Below.refl _ _).alloc (Nat.le_refl _) _).alloc (by simp) _).alloc (by simp; omega) _⟩
/-- A list in a block of its own, not below B. -/
def OwnOu (B : Nat) (W : World) (v : Value) (rs : List OutR) : Prop := ∃ (b : Nat) (f : Nat → Value), B ≤ b ∧ v = .slice (some ⟨b, 0, none⟩) rs.length rs.length ∧ W.rowIs b 112 (rs.length * 5) f ∧ ∀ (i : Nat) (g : OutR), rs[i]? = some g → f (i * 5) = .string g.partner ∧ f (i * 5 + 1) = .int .i64 g.number ∧ f (i * 5 + 2) = .string g.text ∧ f (i * 5 + 3) = .int .i64 g.tries ∧ f (i * 5 + 4) = .int .i64 g.due
theorem OwnOu.lst {B : Nat} {W : World} {v : Value} {rs : List OutR} (h : OwnOu B W v rs) (hG : BdOu 1048576 rs) : ∃ b, B ≤ b ∧ LOu b W v rs := by
  obtain ⟨b, f, h1, h2, h3, h4⟩ := h
  have hl := hG.len
  exact ⟨b, h1, ⟨_, _, h2, fun _ => ⟨rfl, _, f, h3, Nat.le_refl _, h4⟩⟩, by omega, fun i g hi => by have := hG.2 i g hi; omega⟩
theorem OwnOu.row {B : Nat} {W : World} {v : Value} {rs : List OutR} (h : OwnOu B W v rs) (hG : BdOu 1048576 rs) : RowOu W v rs := by
  obtain ⟨b, _, h⟩ := h.lst hG
  exact h.row
theorem OwnOu.below {B : Nat} {W W' : World} {v : Value} {rs : List OutR} (h : OwnOu B W v rs) (hb : Below W.heap.size W W') : OwnOu B W' v rs := by
  obtain ⟨b, f, h1, h2, h3, h4⟩ := h
  exact ⟨b, f, h1, h2, h3.of_block (hb.block b h3.lt), h4⟩
theorem OwnOu.setAt {B c : Nat} {W : World} {v : Value} {rs : List OutR} (h : OwnOu B W v rs) (hc : c < B) (i : Nat) (x : Value) : OwnOu B (W.setCell ⟨c, i, none⟩ x) v rs := by
  obtain ⟨b, f, h1, h2, h3, h4⟩ := h
  exact ⟨b, f, h1, h2, h3.setOther (show b ≠ c by omega) x, h4⟩
theorem OwnOu.mono {B C : Nat} {W : World} {v : Value} {rs : List OutR} (h : OwnOu B W v rs) (hC : C ≤ B) : OwnOu C W v rs := by
  obtain ⟨b, f, h1, h2⟩ := h
  exact ⟨b, f, by omega, h2⟩
set_option maxHeartbeats 2000000 in
theorem toOus_any (v : Value) (rs : List OutR) (w : World) (h : RowOu w v rs) (hG : BdOu 1048576 rs) :
    Calls Tryz.prog 28 #[v] w fun e w' => ∃ v', e = .returned v' ∧ OwnOu w.heap.size w' v' rs ∧ Below w.heap.size w w' := by
  have hlen := hG.len
  obtain ⟨a, cap, rfl⟩ := h.val
  have H : Hid (RowOu w (.slice a rs.length cap) rs ∧ BdOu 1048576 rs) := ⟨h, hG⟩
  clear h hG
  obtain ⟨M, hM, hMs⟩ : ∃ M : Array Value, madeCells #[.string ⟨#[]⟩, .int .i64 0, .string ⟨#[]⟩, .int .i64 0, .int .i64 0] (rs.length * 5) = M ∧ M.size = rs.length * 5 := ⟨_, rfl, size_madeCells _ _⟩
  have hmk := run_make_Ou rs.length hlen
  rw [hM] at hmk
  obtain ⟨f0, hf0⟩ := fl_row w M 112 (rs.length * 5) hMs
  have HF0 : Hid ((w.alloc (.cells M 112)).rowIs w.heap.size 112 (rs.length * 5) f0) := hf0
  clear hM hMs hf0
  go_enter Tryz.func28, Tryz.ntmps28
  go_wp2
  go_loopw [4] (fun i wr => ∃ (k : Nat) (f : Nat → Value), i = .int .i64 (k : Int) ∧ k ≤ rs.length ∧ wr.rowIs w.heap.size 112 (rs.length * 5) f ∧ (∀ (j : Nat) (g : OutR), j < k → rs[j]? = some g → f (j * 5) = .string g.partner ∧ f (j * 5 + 1) = .int .i64 g.number ∧ f (j * 5 + 2) = .string g.text ∧ f (j * 5 + 3) = .int .i64 g.tries ∧ f (j * 5 + 4) = .int .i64 g.due) ∧ Below w.heap.size w wr) (fun i _ => rs.length - (intOf i).toNat)
  case atStart => exact ⟨0, f0, rfl, by omega, HF0.out, fun j e hj => by omega, (Below.refl _ _).alloc (Nat.le_refl _) _⟩
  case round =>
    obtain ⟨k, f, rfl, hk, hR, hA, hb⟩ := hrel
    by_cases hlt : k < rs.length
    · have hlt' : (k : Int) < (rs.length : Int) := by omega
      obtain ⟨b, o, cap', g, ee, hs, ⟨q0, q1, q2, q3, q4⟩, hsz⟩ := (H.out.1.below hb).at hlt
      simp only [Value.slice.injEq, true_and] at ee
      obtain ⟨rfl, rfl⟩ := ee
      have HS : Hid (rs[k]? = some g ∧ wr.rowIs w.heap.size 112 (rs.length * 5) f ∧ (∀ (j : Nat) (g : OutR), j < k → rs[j]? = some g → f (j * 5) = .string g.partner ∧ f (j * 5 + 1) = .int .i64 g.number ∧ f (j * 5 + 2) = .string g.text ∧ f (j * 5 + 3) = .int .i64 g.tries ∧ f (j * 5 + 4) = .int .i64 g.due) ∧ Below w.heap.size w wr) := ⟨hs, hR, hA, hb⟩
      clear hs hR hA hb
      go_wp2_with fail
      refine (toOu_any g _).mono ?_
      rintro ee w1 ⟨rfl, hb1⟩
      have hlt0 := HS.out.2.1.lt
      have hR1 : w1.rowIs w.heap.size 112 (rs.length * 5) f := HS.out.2.1.of_block (hb1.block _ hlt0)
      have hfz := hR1.frozen
      have k0 := hR1.cell (i := k * 5) (by omega)
      have k1 := hR1.cell (i := k * 5 + 1) (by omega)
      have k2 := hR1.cell (i := k * 5 + 2) (by omega)
      have k3 := hR1.cell (i := k * 5 + 3) (by omega)
      have k4 := hR1.cell (i := k * 5 + 4) (by omega)
      have H1 : Hid (rs[k]? = some g ∧ w1.rowIs w.heap.size 112 (rs.length * 5) f ∧ (∀ (j : Nat) (g : OutR), j < k → rs[j]? = some g → f (j * 5) = .string g.partner ∧ f (j * 5 + 1) = .int .i64 g.number ∧ f (j * 5 + 2) = .string g.text ∧ f (j * 5 + 3) = .int .i64 g.tries ∧ f (j * 5 + 4) = .int .i64 g.due) ∧ Below w.heap.size w w1) := ⟨HS.out.1, hR1, HS.out.2.2.1, HS.out.2.2.2.trans (hb1.mono HS.out.2.2.2.size)⟩
      clear HS hR1 hb1
      go_wp2
      go_roundw
      case rel =>
        refine ⟨k + 1, _, by go_num, by omega, (((((H1.out.2.1.set (k * 5) (.string g.partner)).set (k * 5 + 1) (.int .i64 g.number)).set (k * 5 + 2) (.string g.text)).set (k * 5 + 3) (.int .i64 g.tries)).set (k * 5 + 4) (.int .i64 g.due)), fun j t hj ht => ?_, (((((H1.out.2.2.2.setCell (Nat.le_refl _) _).setCell (Nat.le_refl _) _).setCell (Nat.le_refl _) _).setCell (Nat.le_refl _) _).setCell (Nat.le_refl _) _)⟩
        by_cases e1 : j = k
        · subst e1
          rw [H1.out.1] at ht
          cases ht
          refine ⟨?_, ?_, ?_, ?_, ?_⟩
          · rw [if_neg (by omega), if_neg (by omega), if_neg (by omega), if_neg (by omega), if_pos rfl]
          · rw [if_neg (by omega), if_neg (by omega), if_neg (by omega), if_pos rfl]
          · rw [if_neg (by omega), if_neg (by omega), if_pos rfl]
          · rw [if_neg (by omega), if_pos rfl]
          · rw [if_pos rfl]
        · obtain ⟨r0, r1, r2, r3, r4⟩ := H1.out.2.2.1 j t (by omega) ht
          refine ⟨?_, ?_, ?_, ?_, ?_⟩
          all_goals rw [if_neg (by omega), if_neg (by omega), if_neg (by omega), if_neg (by omega), if_neg (by omega)]
          all_goals assumption
      case measure => simp [intOf]; omega
    · obtain rfl : k = rs.length := by omega
      have HS : Hid (wr.rowIs w.heap.size 112 (rs.length * 5) f ∧ (∀ (j : Nat) (g : OutR), j < rs.length → rs[j]? = some g → f (j * 5) = .string g.partner ∧ f (j * 5 + 1) = .int .i64 g.number ∧ f (j * 5 + 2) = .string g.text ∧ f (j * 5 + 3) = .int .i64 g.tries ∧ f (j * 5 + 4) = .int .i64 g.due) ∧ Below w.heap.size w wr) := ⟨hR, hA, hb⟩
      clear hR hA hb
      go_wp2
      go_ret
      exact ⟨_, rfl, ⟨w.heap.size, f, Nat.le_refl _, rfl, HS.out.1, fun i e hi => HS.out.2.1 i e (List.getElem?_eq_some_iff.1 hi).1 hi⟩, HS.out.2.2⟩
end Go.Proofs.YtkgkahlhekecmaaGreat
