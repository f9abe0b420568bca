/- The marks of lists of order lines. -/
import Derived.Test.YtnaidbpkllmeoaaMaOl
import Derived.Deep.RegionHeld3
import Derived.Deep.QuietTactic
import Derived.BigQuiet
import Derived.BigRegion
namespace Go.Proofs.Ytnaidbpkllmeoaa
open Go.ChangeShapes Go.WideShapes Go.ChangeAt Go.RowKit
set_option maxRecDepth 20000 in
set_option maxHeartbeats 8000000 in
theorem heldOl_any (v : Value) (k n : Nat) (w : World) (h : RowOl w v (mkOls k n)) (hk : 0 < k ∧ k + n * 8 < 1000000000000) :
    Calls Try.prog 25 #[v, .int .i64 (k : Int)] w fun e w' => e = .returned (.int .i64 ((k + n * 8 : Nat) : Int)) ∧ Below w.heap.size w w' := by
  have hlen := h.len
  obtain ⟨a, cap, rfl⟩ := h.val
  have H0 : Hid (RowOl w (.slice a (mkOls k n).length cap) (mkOls k n)) := h
  have hml : (mkOls k n).length = n := mkOls_len k n
  clear h
  go_enter Try.func25, Try.ntmps25
  go_wp2
  try rw [hml]
  go_loopw [1, 5] (fun q i wr => ∃ j : Nat, q = .int .i64 ((k + j * 8 : Nat) : Int) ∧ i = .int .i64 (j : Int) ∧ j ≤ n ∧ Below w.heap.size w wr) (fun _ i _ => n - (intOf i).toNat)
  case atStart => exact ⟨0, by simp, rfl, by omega, Below.refl _ _⟩
  case round =>
    obtain ⟨j, rfl, rfl, hj, hb⟩ := hrel
    by_cases hlt : j < n
    · have hlt' : (j : Int) < (n : Int) := by omega
      obtain ⟨b, o, cap', g, e, hs, hat, _⟩ := (H0.out.below hb).at (k := j) (by omega)
      simp only [Value.slice.injEq, true_and] at e
      obtain ⟨rfl, rfl⟩ := e
      obtain ⟨_, rfl⟩ := mkOls_at hs
      have HB : Hid (Below w.heap.size w wr) := hb
      have HQ : Hid (∀ W, Below wr.heap.size wr W → W.cell? ⟨b, o + j * 8, none⟩ = some (.string (mtB (k + j * 8))) ∧ W.cell? ⟨b, o + j * 8 + 1, none⟩ = some (.string (mtB (k + j * 8 + 1))) ∧ W.cell? ⟨b, o + j * 8 + 2, none⟩ = some (.int .i64 (((k + j * 8 + 2 : Nat) : Int))) ∧ W.cell? ⟨b, o + j * 8 + 3, none⟩ = some (.string (mtB (k + j * 8 + 3))) ∧ W.cell? ⟨b, o + j * 8 + 4, none⟩ = some (.int .i64 (((k + j * 8 + 4 : Nat) : Int))) ∧ W.cell? ⟨b, o + j * 8 + 5, none⟩ = some (.int .i64 (((k + j * 8 + 5 : Nat) : Int))) ∧ W.cell? ⟨b, o + j * 8 + 6, none⟩ = some (.int .i64 (((k + j * 8 + 6 : Nat) : Int))) ∧ W.cell? ⟨b, o + j * 8 + 7, none⟩ = some (.int .i64 (((k + j * 8 + 7 : Nat) : Int)))) := fun W hW => by
        obtain ⟨r0, r1, r2, r3, r4, r5, r6, r7⟩ := hat.below hW
        exact ⟨r0, r1, r2, r3, r4, r5, r6, r7⟩
      clear hs hb hat
      obtain ⟨q0, q1, q2, q3, q4, q5, q6, q7⟩ := HQ.out wr (Below.refl _ _)
      go_upto_region 4 with fail
      have l0 := cell_lt q0
      go_region_held3 (fun W => W.cell? ⟨b, o + j * 8, none⟩ = some (.string (mtB (k + j * 8)))) (go_keep) (first | (go_at_call 40; refine (markText_b _ (k + j * 8) (by omega) _ (by omega) (by omega)).mono ?_; rintro e wa ⟨rfl, hba⟩; have y0 := (hba.cell (p := ⟨b, o + j * 8, none⟩) l0).trans q0))
      rename_i hHeld
      clear hHeld
      have ba : Below wr.heap.size wr wa := (Below.refl wr.heap.size wr).trans (((Below.refl _ wr).drew.trans hba).mono (Below.refl wr.heap.size wr).size)
      clear hba y0 l0 q0 q1 q2 q3 q4 q5 q6 q7
      obtain ⟨q0, q1, q2, q3, q4, q5, q6, q7⟩ := HQ.out wa ba
      go_upto_region 7 with fail
      have l1 := cell_lt q1
      go_region_held3 (fun W => W.cell? ⟨b, o + j * 8 + 1, none⟩ = some (.string (mtB (k + j * 8 + 1)))) (go_keep) (first | (go_at_call 40; refine (markText_b _ (k + j * 8 + 1) (by omega) _ (by omega) (by omega)).mono ?_; rintro e wb ⟨rfl, hbb⟩; have y1 := (hbb.cell (p := ⟨b, o + j * 8 + 1, none⟩) l1).trans q1))
      rename_i hHeld
      clear hHeld
      have bb : Below wr.heap.size wr wb := ba.trans (((Below.refl _ wa).drew.trans hbb).mono ba.size)
      clear hbb y1 l1 q0 q1 q2 q3 q4 q5 q6 q7
      obtain ⟨q0, q1, q2, q3, q4, q5, q6, q7⟩ := HQ.out wb bb
      go_upto_region 13 with fail
      have l3 := cell_lt q3
      go_region_held3 (fun W => W.cell? ⟨b, o + j * 8 + 3, none⟩ = some (.string (mtB (k + j * 8 + 3)))) (go_keep) (first | (go_at_call 40; refine (markText_b _ (k + j * 8 + 3) (by omega) _ (by omega) (by omega)).mono ?_; rintro e wc ⟨rfl, hbc⟩; have y3 := (hbc.cell (p := ⟨b, o + j * 8 + 3, none⟩) l3).trans q3))
      rename_i hHeld
      clear hHeld
      have bc : Below wr.heap.size wr wc := bb.trans (((Below.refl _ wb).drew.trans hbc).mono bb.size)
      clear hbc y3 l3 q0 q1 q2 q3 q4 q5 q6 q7
      obtain ⟨q0, q1, q2, q3, q4, q5, q6, q7⟩ := HQ.out wc bc
      have HD : Hid (Below w.heap.size w wc) := HB.out.trans (bc.mono HB.out.size)
      clear ba bb bc
      go_wp2
      go_roundw
      case rel => exact ⟨j + 1, by go_num, by go_num, by omega, HD.out⟩
      case measure => simp [intOf]; omega
    · obtain rfl : j = n := by omega
      have HB : Hid (Below w.heap.size w wr) := hb
      clear hb
      go_wp2
      go_ret
      exact ⟨rfl, HB.out⟩
end Go.Proofs.Ytnaidbpkllmeoaa
