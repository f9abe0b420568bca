/- Texts of ours put together: ToBk, EqSt. -/
import Derived.Test.YtjmkdpnoihpfoaaGreatDoorG03
import Derived.Test.YtjmkdpnoihpfoaaGreatDoorG05
import Derived.Test.YtjmkdpnoihpfoaaGreatDoorG06
import Derived.Test.YtjmkdpnoihpfoaaGreatDoorG01
import Derived.Deep.RegionHeld3
import Derived.Deep.QuietTactic
import Derived.BigQuiet
import Derived.BigRegion
namespace Go.Proofs.YtjmkdpnoihpfoaaGreatDoor
open Go.ChangeShapes Go.WideShapes Go.ChangeAt Go.RowKit
set_option maxHeartbeats 4000000 in
theorem toBk_own (b : Bk) (us ul : Value) (w : World) (h : RBk w us ul b) (hP : BdBk 1048576 b) :
    Calls Tryz.prog 6 #[.agg #[us, ul]] w fun e w' => ∃ us' ul', e = .returned (.agg #[us', ul']) ∧ OwnSt w.heap.size w' us' b.stocks ∧ OwnOl w.heap.size w' ul' b.lines ∧ Below w.heap.size w w' := by
  obtain ⟨stocks, lines⟩ := b
  obtain ⟨a, cap, a2, cap2, rfl, rfl⟩ := h.val
  dsimp only at h ⊢
  have H : Hid ((RowSt w (.slice a stocks.length cap) stocks ∧ BdSt 1048576 stocks) ∧ (RowOl w (.slice a2 lines.length cap2) lines ∧ BdOl 1048576 lines)) := ⟨⟨h.st, hP.1⟩, ⟨h.ln, hP.2⟩⟩
  clear h hP
  go_enter Tryz.func6, Tryz.ntmps6
  go_wp2_with fail
  have hb0 : Below w.heap.size w (((w.alloc (.cells #[.slice a stocks.length cap, .slice a2 lines.length cap2] 25)).alloc (.cells #[.slice none 0 0, .slice none 0 0] 31)).alloc (.cells #[.slice none 0 0, .slice none 0 0] 31)) := (((Below.refl _ _).alloc (Nat.le_refl _) _).alloc (by simp) _).alloc (by simp; omega) _
  have h3 := fl_three w (.cells #[.slice a stocks.length cap, .slice a2 lines.length cap2] 25) (.cells #[.slice none 0 0, .slice none 0 0] 31) (.cells #[.slice none 0 0, .slice none 0 0] 31)
  have hs0 : (((w.alloc (.cells #[.slice a stocks.length cap, .slice a2 lines.length cap2] 25)).alloc (.cells #[.slice none 0 0, .slice none 0 0] 31)).alloc (.cells #[.slice none 0 0, .slice none 0 0] 31)).heap.size = w.heap.size + 3 := by simp
  generalize (((w.alloc (.cells #[.slice a stocks.length cap, .slice a2 lines.length cap2] 25)).alloc (.cells #[.slice none 0 0, .slice none 0 0] 31)).alloc (.cells #[.slice none 0 0, .slice none 0 0] 31)) = W0 at hb0 h3 hs0 ⊢
  refine (toSts_any _ stocks W0 (H.out.1.1.below hb0) H.out.1.2).mono ?_
  rintro e w1 ⟨v1, rfl, hO, hb1⟩
  obtain ⟨A1, L1, C1, hv1⟩ : ∃ A1 L1 C1, v1 = .slice A1 L1 C1 := by
    obtain ⟨b', _, _, h2, _⟩ := hO
    exact ⟨_, _, _, h2⟩
  subst hv1
  have s1 := hb1.size
  have f0 := (hb1.block w.heap.size (by omega)).trans h3.1
  have f1 := (hb1.block (w.heap.size + 1) (by omega)).trans h3.2.1
  have f2 := (hb1.block (w.heap.size + 1 + 1) (by omega)).trans h3.2.2
  obtain ⟨a0, a1⟩ := box2 f0
  obtain ⟨c0, c1⟩ := box2 f2
  have z2 := frz2 f2
  have HS : Hid (w1.heap[w.heap.size]? = some (.cells #[.slice a stocks.length cap, .slice a2 lines.length cap2] 25) ∧ w1.heap[w.heap.size + 1]? = some (.cells #[.slice none 0 0, .slice none 0 0] 31) ∧ w1.heap[w.heap.size + 1 + 1]? = some (.cells #[.slice none 0 0, .slice none 0 0] 31) ∧ Below w.heap.size w w1 ∧ OwnSt (w.heap.size + 3) w1 (.slice A1 L1 C1) stocks) := ⟨f0, f1, f2, hb0.trans (hb1.mono (by omega)), by rw [← hs0]; exact hO⟩
  obtain ⟨W1, hW1⟩ : ∃ W1, w1.setCell ⟨w.heap.size + 1 + 1, 0, none⟩ (.slice A1 L1 C1) = W1 := ⟨_, rfl⟩
  have sW1 : W1.heap.size = w1.heap.size := by rw [← hW1]; simp
  have a1' : W1.cell? ⟨w.heap.size, 1, none⟩ = some (.slice a2 lines.length cap2) := by
    have := (setNe (W := w1) (c := w.heap.size + 1 + 1) (i := 0) (.slice A1 L1 C1) (show w.heap.size ≠ w.heap.size + 1 + 1 by omega)).trans f0
    rw [hW1] at this
    exact (box2 this).2
  have HW : Hid (W1 = w1.setCell ⟨w.heap.size + 1 + 1, 0, none⟩ (.slice A1 L1 C1)) := hW1.symm
  have a1w : (w1.setCell ⟨w.heap.size + 1 + 1, 0, none⟩ (.slice A1 L1 C1)).cell? ⟨w.heap.size, 1, none⟩ = some (.slice a2 lines.length cap2) := by rw [hW1]; exact a1'
  clear f0 f1 f2 hb0 hO h3
  go_wp2_with fail
  try rw [hW1]
  clear hW1 a1w
  have hb1' : Below w.heap.size w W1 := by rw [HW.out]; exact HS.out.2.2.2.1.setCell (show w.heap.size ≤ w.heap.size + 1 + 1 by omega) _
  refine (toOls_any _ lines W1 (H.out.2.1.below hb1') H.out.2.2).mono ?_
  rintro e w2 ⟨v2, rfl, hO2, hb2⟩
  obtain ⟨A2, L2, C2, hv2⟩ : ∃ A1 L1 C1, v2 = .slice A1 L1 C1 := by
    obtain ⟨b', _, _, h2, _⟩ := hO2
    exact ⟨_, _, _, h2⟩
  subst hv2
  have g1 : w2.heap[w.heap.size + 1]? = some (.cells #[.slice none 0 0, .slice none 0 0] 31) := by
    rw [hb2.block _ (by omega), HW.out, setNe _ (by omega)]; exact HS.out.2.1
  have g2 : w2.heap[w.heap.size + 1 + 1]? = some (.cells #[.slice A1 L1 C1, .slice none 0 0] 31) := by
    rw [hb2.block _ (by omega), HW.out]; exact set2a _ HS.out.2.2.1
  obtain ⟨d0, d1⟩ := box2 g1
  obtain ⟨e0, e1⟩ := box2 g2
  have y1 := frz2 g1
  have y2 := frz2 g2
  have HF : Hid (Below w.heap.size w w2 ∧ OwnSt (w.heap.size + 3) w2 (.slice A1 L1 C1) stocks ∧ OwnOl (w.heap.size + 3) w2 (.slice A2 L2 C2) lines) := by
    refine ⟨hb1'.trans (hb2.mono hb1'.size), OwnSt.below ?_ hb2, hO2.mono (by omega)⟩
    rw [HW.out]
    exact HS.out.2.2.2.2.setAt (by omega) _ _
  clear g1 g2 hb1' hb2 hO2 a0 a1 a1' c0 c1 z2 hb1
  go_wp2
  have st : ∀ (W : World) (c i : Nat) (x : Value), w.heap.size ≤ c → c < w.heap.size + 3 → (Below w.heap.size w W ∧ OwnSt (w.heap.size + 3) W (.slice A1 L1 C1) stocks ∧ OwnOl (w.heap.size + 3) W (.slice A2 L2 C2) lines) → (Below w.heap.size w (W.setCell ⟨c, i, none⟩ x) ∧ OwnSt (w.heap.size + 3) (W.setCell ⟨c, i, none⟩ x) (.slice A1 L1 C1) stocks ∧ OwnOl (w.heap.size + 3) (W.setCell ⟨c, i, none⟩ x) (.slice A2 L2 C2) lines) := fun W c i x g1 g2 ⟨k1, k2, k3⟩ => ⟨k1.setCell g1 x, k2.setAt g2 i x, k3.setAt g2 i x⟩
  have hF := st _ (w.heap.size + 1) 1 (.slice A2 L2 C2) (by omega) (by omega) (st _ (w.heap.size + 1) 0 (.slice A1 L1 C1) (by omega) (by omega) (st _ (w.heap.size + 1 + 1) 1 (.slice A2 L2 C2) (by omega) (by omega) HF.out))
  exact bodyPost_ret (v := .agg #[.slice A1 L1 C1, .slice A2 L2 C2]) (by simp [results, Tryz.results6, go_sem, d0, d1]) rfl ⟨_, _, rfl, hF.2.1.mono (by omega), hF.2.2.mono (by omega), hF.1⟩
theorem toBk_any (b : Bk) (us ul : Value) (w : World) (h : RBk w us ul b) (hP : BdBk 1048576 b) :
    Calls Tryz.prog 6 #[.agg #[us, ul]] w fun e w' => ∃ us' ul', e = .returned (.agg #[us', ul']) ∧ RBk w' us' ul' b ∧ Below w.heap.size w w' :=
  (toBk_own b us ul w h hP).mono fun _ _ ⟨u', v', he, hO, hO', hb⟩ => ⟨u', v', he, ⟨hO.row hP.1, hO'.row hP.2⟩, hb⟩
end Go.Proofs.YtjmkdpnoihpfoaaGreatDoor
namespace Go.Proofs.YtjmkdpnoihpfoaaGreatDoor
open Go.ChangeShapes Go.WideShapes Go.ChangeAt Go.RowKit
set_option maxHeartbeats 1000000 in
theorem eqSt_any (g : Stk) (w : World) :
    Calls Tryz.prog 48 #[.agg #[.string g.item, .int .i64 g.hand], .agg #[.string g.item, .int .i64 g.hand]] w fun e w' => e = .returned (.bool true) ∧ Below w.heap.size w w' := by
  obtain ⟨item, hand⟩ := g
  dsimp only
  have b0 : Below w.heap.size w ((w.alloc (.cells #[.string item, .int .i64 hand] 59)).alloc (.cells #[.string item, .int .i64 hand] 59)) := ((Below.refl _ _).alloc (Nat.le_refl _) _).alloc (by simp) _
  go_enter Tryz.func48, Tryz.ntmps48
  go_wp2
  go_ret
  exact ⟨rfl, b0⟩
set_option maxHeartbeats 2000000 in
theorem eqSts_any (v v' : Value) (rs : List Stk) (w : World) (h : RowSt w v rs) (h' : RowSt w v' rs) :
    Calls Tryz.prog 22 #[v, v'] w fun e w' => e = .returned (.bool true) ∧ Below w.heap.size w w' := by
  have hlen := h.len
  obtain ⟨a, cap, rfl⟩ := h.val
  obtain ⟨a', cap', rfl⟩ := h'.val
  have H : Hid (RowSt w (.slice a rs.length cap) rs ∧ RowSt w (.slice a' rs.length cap') rs) := ⟨h, h'⟩
  clear h h'
  go_enter Tryz.func22, Tryz.ntmps22
  go_wp2
  go_loopw [5] (fun i wr => ∃ k : Nat, i = .int .i64 (k : Int) ∧ k ≤ rs.length ∧ Below w.heap.size w wr) (fun i _ => rs.length - (intOf i).toNat)
  case atStart => exact ⟨0, rfl, by omega, Below.refl _ _⟩
  case round =>
    obtain ⟨k, rfl, hk, hb⟩ := hrel
    by_cases hlt : k < rs.length
    · have hlt' : (k : Int) < (rs.length : Int) := by omega
      obtain ⟨b, o, c1, g, e, hs, ⟨q0, q1⟩, _⟩ := (H.out.1.below hb).at hlt
      obtain ⟨b', o', c2, g', e', hs', ⟨p0, p1⟩, _⟩ := (H.out.2.below hb).at hlt
      simp only [Value.slice.injEq, true_and] at e e'
      obtain ⟨rfl, rfl⟩ := e
      obtain ⟨rfl, rfl⟩ := e'
      obtain rfl : g = g' := by rw [hs] at hs'; exact Option.some.inj hs'
      have HB : Hid (Below w.heap.size w wr) := hb
      clear hs hs' hb
      have l1 := cell_lt q0
      have l2 := cell_lt p0
      go_wp2_with fail
      go_region_held3 (fun W => W.cell? ⟨b, o + k * 2, none⟩ = some (.string g.item) ∧ W.cell? ⟨b, o + k * 2 + 1, none⟩ = some (.int .i64 g.hand) ∧ W.cell? ⟨b', o' + k * 2, none⟩ = some (.string g.item) ∧ W.cell? ⟨b', o' + k * 2 + 1, none⟩ = some (.int .i64 g.hand)) (go_keep) (first | (go_at_call 48; refine (eqSt_any g _).mono ?_; rintro e w2 ⟨rfl, hb2⟩; have yb0 := (hb2.cell (p := ⟨b, o + k * 2, none⟩) l1).trans q0; have yb1 := (hb2.cell (p := ⟨b, o + k * 2 + 1, none⟩) l1).trans q1; have yp0 := (hb2.cell (p := ⟨b', o' + k * 2, none⟩) l2).trans p0; have yp1 := (hb2.cell (p := ⟨b', o' + k * 2 + 1, none⟩) l2).trans p1))
      have HB2 : Hid (Below w.heap.size w w2) := HB.out.drew.trans (hb2.mono HB.out.size)
      clear hb2
      rename_i hHeld
      clear hHeld
      go_wp2
      go_roundw
      case rel => exact ⟨k + 1, by go_num, by omega, HB2.out⟩
      case measure => simp [intOf]; omega
    · obtain rfl : k = rs.length := by omega
      have HB : Hid (Below w.heap.size w wr) := hb
      clear hb
      go_wp2
      go_ret
      exact ⟨rfl, HB.out⟩
end Go.Proofs.YtjmkdpnoihpfoaaGreatDoor
