/- Texts of ours put together: MkBk, MkDf, MkOu. -/
import Derived.Test.YtkgkahlhekecmaaGreatG12
import Derived.Test.YtkgkahlhekecmaaGreatG14
import Derived.Deep.RegionHeld3
import Derived.Deep.QuietTactic
import Derived.BigQuiet
import Derived.BigRegion
import Derived.Test.YtkgkahlhekecmaaGreatG13
namespace Go.Proofs.YtkgkahlhekecmaaGreat
open Go.ChangeShapes Go.WideShapes Go.ChangeAt Go.RowKit
set_option maxHeartbeats 4000000 in
theorem heldBk_any (us ul : Value) (b : Bk) (k : Nat) (w : World) (h : RBk w us ul (mkBk k b)) (hk : 0 < k ∧ k + b.stocks.length * 2 + b.lines.length * 8 < 100000000000) :
    Calls Tryz.prog 85 #[.agg #[us, ul], .int .i64 (k : Int)] w fun e w' => e = .returned (.int .i64 ((k + b.stocks.length * 2 + b.lines.length * 8 : Nat) : Int)) ∧ Below w.heap.size w w' := by
  obtain ⟨W0, hW0⟩ : ∃ W0, w.alloc (.cells #[us, ul] 38) = W0 := ⟨_, rfl⟩
  have hb0 : Below w.heap.size w W0 := by rw [← hW0]; exact (Below.refl _ _).alloc (Nat.le_refl _) _
  have hbx : W0.heap[w.heap.size]? = some (.cells #[us, ul] 38) := by rw [← hW0]; exact World.alloc_heap_new _ _
  obtain ⟨A0, C0, hus⟩ := h.st.val
  obtain ⟨A1, C1, hul⟩ := h.ln.val
  have H0 : Hid (Below w.heap.size w W0 ∧ RBk W0 us ul (mkBk k b) ∧ W0.heap[w.heap.size]? = some (.cells #[us, ul] 38)) := ⟨hb0, h.below hb0, hbx⟩
  obtain ⟨c0, c1⟩ := box2 hbx
  have hlt0 := (Array.getElem?_eq_some_iff.1 hbx).1
  clear h hb0 hbx
  obtain ⟨n0, hn0⟩ : ∃ n0, n0 = (mkBk k b).stocks.length := ⟨_, rfl⟩
  obtain ⟨n1, hn1⟩ : ∃ n1, n1 = (mkBk k b).lines.length := ⟨_, rfl⟩
  rw [← hn0] at hus
  rw [← hn1] at hul
  clear hn0 hn1
  subst hus hul
  go_enter Tryz.func85, Tryz.ntmps85
  go_upto_region 1 with fail
  try rw [hW0]
  clear hW0
  go_wp2_with fail
  refine (heldSt_any _ k b.stocks.length _ H0.out.2.1.st ⟨by omega, by omega⟩).mono ?_
  rintro e w1 ⟨rfl, hb1⟩
  have H1 : Hid (Below w.heap.size w w1 ∧ RBk w1 (.slice A0 n0 C0) (.slice A1 n1 C1) (mkBk k b)) := ⟨H0.out.1.trans (hb1.mono H0.out.1.size), H0.out.2.1.below hb1⟩
  obtain ⟨d0, d1⟩ := box2 ((hb1.block _ hlt0).trans H0.out.2.2)
  clear hb1 c0 c1
  obtain ⟨k2, hk2⟩ : ∃ k2, k2 = k + b.stocks.length * 2 := ⟨_, rfl⟩
  have HK2 : Hid (k2 = k + b.stocks.length * 2) := hk2
  have hk2' : 0 < k2 ∧ k2 + b.lines.length * 8 < 1000000000000 := by omega
  rw [← hk2]
  clear hk2
  have hnn : ¬ (k2 : Int) < 0 := by omega
  have HLn : Hid (RowOl w1 (.slice A1 n1 C1) (mkOls k2 b.lines.length)) := by rw [HK2.out]; exact H1.out.2.ln
  go_wp2_with fail
  refine (heldOl_any _ k2 b.lines.length _ HLn.out hk2').mono ?_
  rintro e w2 ⟨rfl, hb2⟩
  have H2 : Hid (Below w.heap.size w w2) := H1.out.1.trans (hb2.mono H1.out.1.size)
  have hnn2 : ¬ ((k2 + b.lines.length * 8 : Nat) : Int) < 0 := by omega
  have HR : Hid ((k + b.stocks.length * 2 + b.lines.length * 8 : Nat) = k2 + b.lines.length * 8) := by rw [HK2.out]; rfl
  clear hb2
  go_wp2
  go_ret
  exact ⟨by rw [HR.out]; rfl, H2.out⟩
end Go.Proofs.YtkgkahlhekecmaaGreat
namespace Go.Proofs.YtkgkahlhekecmaaGreat
open Go.ChangeShapes Go.WideShapes Go.ChangeAt Go.RowKit
set_option maxRecDepth 20000 in
set_option maxHeartbeats 8000000 in
theorem heldDf_any (v : Value) (k n : Nat) (w : World) (h : RowDf w v (mkDfs k n)) (hk : 0 < k ∧ k + n * 6 < 1000000000000) :
    Calls Tryz.prog 86 #[v, .int .i64 (k : Int)] w fun e w' => e = .returned (.int .i64 ((k + n * 6 : Nat) : Int)) ∧ Below w.heap.size w w' := by
  have hlen := h.len
  obtain ⟨a, cap, rfl⟩ := h.val
  have H0 : Hid (RowDf w (.slice a (mkDfs k n).length cap) (mkDfs k n)) := h
  have hml : (mkDfs k n).length = n := mkDfs_len k n
  clear h
  go_enter Tryz.func86, Tryz.ntmps86
  go_wp2
  try rw [hml]
  go_loopw [1, 5] (fun q i wr => ∃ j : Nat, q = .int .i64 ((k + j * 6 : Nat) : Int) ∧ i = .int .i64 (j : Int) ∧ j ≤ n ∧ Below w.heap.size w wr) (fun _ i _ => n - (intOf i).toNat)
  case atStart => exact ⟨0, by simp, rfl, by omega, Below.refl _ _⟩
  case round =>
    obtain ⟨j, rfl, rfl, hj, hb⟩ := hrel
    by_cases hlt : j < n
    · have hlt' : (j : Int) < (n : Int) := by omega
      obtain ⟨b, o, cap', g, e, hs, hat, _⟩ := (H0.out.below hb).at (k := j) (by omega)
      simp only [Value.slice.injEq, true_and] at e
      obtain ⟨rfl, rfl⟩ := e
      obtain ⟨_, rfl⟩ := mkDfs_at hs
      have HB : Hid (Below w.heap.size w wr) := hb
      have HQ : Hid (∀ W, Below wr.heap.size wr W → W.cell? ⟨b, o + j * 6, none⟩ = some (.int .i64 (((k + j * 6 : Nat) : Int))) ∧ W.cell? ⟨b, o + j * 6 + 1, none⟩ = some (.string (mtB (k + j * 6 + 1))) ∧ W.cell? ⟨b, o + j * 6 + 2, none⟩ = some (.string (mtB (k + j * 6 + 2))) ∧ W.cell? ⟨b, o + j * 6 + 3, none⟩ = some (.int .i64 (((k + j * 6 + 3 : Nat) : Int))) ∧ W.cell? ⟨b, o + j * 6 + 4, none⟩ = some (.string (mtB (k + j * 6 + 4))) ∧ W.cell? ⟨b, o + j * 6 + 5, none⟩ = some (.int .i64 (((k + j * 6 + 5 : Nat) : Int)))) := fun W hW => by
        obtain ⟨r0, r1, r2, r3, r4, r5⟩ := hat.below hW
        exact ⟨r0, r1, r2, r3, r4, r5⟩
      clear hs hb hat
      obtain ⟨q0, q1, q2, q3, q4, q5⟩ := HQ.out wr (Below.refl _ _)
      go_upto_region 7 with fail
      have l1 := cell_lt q1
      go_region_held3 (fun W => W.cell? ⟨b, o + j * 6 + 1, none⟩ = some (.string (mtB (k + j * 6 + 1)))) (go_keep) (first | (go_at_call 79; refine (markText_b _ (k + j * 6 + 1) (by omega) _ (by omega) (by omega)).mono ?_; rintro e wa ⟨rfl, hba⟩; have y1 := (hba.cell (p := ⟨b, o + j * 6 + 1, none⟩) l1).trans q1))
      rename_i hHeld
      clear hHeld
      have ba : Below wr.heap.size wr wa := (Below.refl wr.heap.size wr).trans (((Below.refl _ wr).drew.trans hba).mono (Below.refl wr.heap.size wr).size)
      clear hba y1 l1 q0 q1 q2 q3 q4 q5
      obtain ⟨q0, q1, q2, q3, q4, q5⟩ := HQ.out wa ba
      go_upto_region 10 with fail
      have l2 := cell_lt q2
      go_region_held3 (fun W => W.cell? ⟨b, o + j * 6 + 2, none⟩ = some (.string (mtB (k + j * 6 + 2)))) (go_keep) (first | (go_at_call 79; refine (markText_b _ (k + j * 6 + 2) (by omega) _ (by omega) (by omega)).mono ?_; rintro e wb ⟨rfl, hbb⟩; have y2 := (hbb.cell (p := ⟨b, o + j * 6 + 2, none⟩) l2).trans q2))
      rename_i hHeld
      clear hHeld
      have bb : Below wr.heap.size wr wb := ba.trans (((Below.refl _ wa).drew.trans hbb).mono ba.size)
      clear hbb y2 l2 q0 q1 q2 q3 q4 q5
      obtain ⟨q0, q1, q2, q3, q4, q5⟩ := HQ.out wb bb
      go_upto_region 16 with fail
      have l4 := cell_lt q4
      go_region_held3 (fun W => W.cell? ⟨b, o + j * 6 + 4, none⟩ = some (.string (mtB (k + j * 6 + 4)))) (go_keep) (first | (go_at_call 79; refine (markText_b _ (k + j * 6 + 4) (by omega) _ (by omega) (by omega)).mono ?_; rintro e wc ⟨rfl, hbc⟩; have y4 := (hbc.cell (p := ⟨b, o + j * 6 + 4, none⟩) l4).trans q4))
      rename_i hHeld
      clear hHeld
      have bc : Below wr.heap.size wr wc := bb.trans (((Below.refl _ wb).drew.trans hbc).mono bb.size)
      clear hbc y4 l4 q0 q1 q2 q3 q4 q5
      obtain ⟨q0, q1, q2, q3, q4, q5⟩ := HQ.out wc bc
      have HD : Hid (Below w.heap.size w wc) := HB.out.trans (bc.mono HB.out.size)
      clear ba bb bc
      go_wp2
      go_roundw
      case rel => exact ⟨j + 1, by go_num, by go_num, by omega, HD.out⟩
      case measure => simp [intOf]; omega
    · obtain rfl : j = n := by omega
      have HB : Hid (Below w.heap.size w wr) := hb
      clear hb
      go_wp2
      go_ret
      exact ⟨rfl, HB.out⟩
end Go.Proofs.YtkgkahlhekecmaaGreat
namespace Go.Proofs.YtkgkahlhekecmaaGreat
open Go.ChangeShapes Go.WideShapes Go.ChangeAt Go.RowKit
set_option maxRecDepth 20000 in
set_option maxHeartbeats 8000000 in
theorem heldOu_any (v : Value) (k n : Nat) (w : World) (h : RowOu w v (mkOus k n)) (hk : 0 < k ∧ k + n * 5 < 1000000000000) :
    Calls Tryz.prog 87 #[v, .int .i64 (k : Int)] w fun e w' => e = .returned (.int .i64 ((k + n * 5 : Nat) : Int)) ∧ Below w.heap.size w w' := by
  have hlen := h.len
  obtain ⟨a, cap, rfl⟩ := h.val
  have H0 : Hid (RowOu w (.slice a (mkOus k n).length cap) (mkOus k n)) := h
  have hml : (mkOus k n).length = n := mkOus_len k n
  clear h
  go_enter Tryz.func87, Tryz.ntmps87
  go_wp2
  try rw [hml]
  go_loopw [1, 5] (fun q i wr => ∃ j : Nat, q = .int .i64 ((k + j * 5 : Nat) : Int) ∧ i = .int .i64 (j : Int) ∧ j ≤ n ∧ Below w.heap.size w wr) (fun _ i _ => n - (intOf i).toNat)
  case atStart => exact ⟨0, by simp, rfl, by omega, Below.refl _ _⟩
  case round =>
    obtain ⟨j, rfl, rfl, hj, hb⟩ := hrel
    by_cases hlt : j < n
    · have hlt' : (j : Int) < (n : Int) := by omega
      obtain ⟨b, o, cap', g, e, hs, hat, _⟩ := (H0.out.below hb).at (k := j) (by omega)
      simp only [Value.slice.injEq, true_and] at e
      obtain ⟨rfl, rfl⟩ := e
      obtain ⟨_, rfl⟩ := mkOus_at hs
      have HB : Hid (Below w.heap.size w wr) := hb
      have HQ : Hid (∀ W, Below wr.heap.size wr W → W.cell? ⟨b, o + j * 5, none⟩ = some (.string (mtB (k + j * 5))) ∧ W.cell? ⟨b, o + j * 5 + 1, none⟩ = some (.int .i64 (((k + j * 5 + 1 : Nat) : Int))) ∧ W.cell? ⟨b, o + j * 5 + 2, none⟩ = some (.string (mtB (k + j * 5 + 2))) ∧ W.cell? ⟨b, o + j * 5 + 3, none⟩ = some (.int .i64 (((k + j * 5 + 3 : Nat) : Int))) ∧ W.cell? ⟨b, o + j * 5 + 4, none⟩ = some (.int .i64 (((k + j * 5 + 4 : Nat) : Int)))) := fun W hW => by
        obtain ⟨r0, r1, r2, r3, r4⟩ := hat.below hW
        exact ⟨r0, r1, r2, r3, r4⟩
      clear hs hb hat
      obtain ⟨q0, q1, q2, q3, q4⟩ := HQ.out wr (Below.refl _ _)
      go_upto_region 4 with fail
      have l0 := cell_lt q0
      go_region_held3 (fun W => W.cell? ⟨b, o + j * 5, none⟩ = some (.string (mtB (k + j * 5)))) (go_keep) (first | (go_at_call 79; refine (markText_b _ (k + j * 5) (by omega) _ (by omega) (by omega)).mono ?_; rintro e wa ⟨rfl, hba⟩; have y0 := (hba.cell (p := ⟨b, o + j * 5, none⟩) l0).trans q0))
      rename_i hHeld
      clear hHeld
      have ba : Below wr.heap.size wr wa := (Below.refl wr.heap.size wr).trans (((Below.refl _ wr).drew.trans hba).mono (Below.refl wr.heap.size wr).size)
      clear hba y0 l0 q0 q1 q2 q3 q4
      obtain ⟨q0, q1, q2, q3, q4⟩ := HQ.out wa ba
      go_upto_region 10 with fail
      have l2 := cell_lt q2
      go_region_held3 (fun W => W.cell? ⟨b, o + j * 5 + 2, none⟩ = some (.string (mtB (k + j * 5 + 2)))) (go_keep) (first | (go_at_call 79; refine (markText_b _ (k + j * 5 + 2) (by omega) _ (by omega) (by omega)).mono ?_; rintro e wb ⟨rfl, hbb⟩; have y2 := (hbb.cell (p := ⟨b, o + j * 5 + 2, none⟩) l2).trans q2))
      rename_i hHeld
      clear hHeld
      have bb : Below wr.heap.size wr wb := ba.trans (((Below.refl _ wa).drew.trans hbb).mono ba.size)
      clear hbb y2 l2 q0 q1 q2 q3 q4
      obtain ⟨q0, q1, q2, q3, q4⟩ := HQ.out wb bb
      have HD : Hid (Below w.heap.size w wb) := HB.out.trans (bb.mono HB.out.size)
      clear ba bb
      go_wp2
      go_roundw
      case rel => exact ⟨j + 1, by go_num, by go_num, by omega, HD.out⟩
      case measure => simp [intOf]; omega
    · obtain rfl : j = n := by omega
      have HB : Hid (Below w.heap.size w wr) := hb
      clear hb
      go_wp2
      go_ret
      exact ⟨rfl, HB.out⟩
end Go.Proofs.YtkgkahlhekecmaaGreat
