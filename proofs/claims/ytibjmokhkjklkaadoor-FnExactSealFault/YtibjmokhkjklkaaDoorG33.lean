/- Texts of ours put together: ToN. -/
import Derived.Test.YtibjmokhkjklkaaDoorG24
namespace Go.Proofs.YtibjmokhkjklkaaDoor
open Go.ChangeShapes Go.WideShapes Go.ChangeAt Go.RowKit
theorem run_make_n (n : Nat) (hn : n ≤ 1048576) (w : World) : (Instr.makeSlice 24 (.int .i64 (n : Int)) (.int .i64 (n : Int))).run Tryd.prog w = .ok (.slice (some ⟨w.heap.size, 0, none⟩) n n) (w.alloc (.cells (madeCells #[.int .i64 0] n) 2)) := by
  obtain ⟨i0, hi, hz0, hz1, hz2⟩ := info_parts infoN
  have h := run_make (P := Tryd.prog) w 24 2 i0 (.int .i64 0) Tryd.underlying24 hi hz0 .i64 .i64 (n : Int) (n : Int) (by omega) (by omega) (by rw [hz2]; omega) (by omega)
  rw [hz1] at h
  simpa [Value.cells] using h
set_option maxHeartbeats 2000000 in
theorem toN_any (v : Value) (zs : List Int) (w : World) (h : RowN w v zs) (hlen : zs.length ≤ 1048576) :
    Calls Tryd.prog 16 #[v] w fun e w' => ∃ b, e = .returned (.slice (some ⟨b, 0, none⟩) zs.length zs.length) ∧ w.heap.size ≤ b ∧ b < w'.heap.size ∧ LN b w' (.slice (some ⟨b, 0, none⟩) zs.length zs.length) zs ∧ Below w.heap.size w w' := by
  obtain ⟨a, cap, rfl⟩ := h.val
  have H : Hid (RowN w (.slice a zs.length cap) zs) := h
  clear h
  obtain ⟨M, hM, hMs⟩ : ∃ M : Array Value, madeCells #[.int .i64 0] zs.length = M ∧ M.size = zs.length := ⟨_, rfl, size_madeCells _ _⟩
  have hmk := run_make_n zs.length hlen
  rw [hM] at hmk
  obtain ⟨f0, hf0⟩ := fl_row w M 2 zs.length hMs
  have HF0 : Hid ((w.alloc (.cells M 2)).rowIs w.heap.size 2 zs.length f0) := hf0
  clear hM hMs hf0
  go_enter Tryd.func16, Tryd.ntmps16
  go_wp2
  go_loopw [4] (fun i wr => ∃ (k : Nat) (f : Nat → Value), i = .int .i64 (k : Int) ∧ k ≤ zs.length ∧ wr.rowIs w.heap.size 2 zs.length f ∧ (∀ (j : Nat) (z : Int), j < k → zs[j]? = some z → f j = .int .i64 z) ∧ Below w.heap.size w wr) (fun i _ => zs.length - (intOf i).toNat)
  case atStart => exact ⟨0, f0, rfl, by omega, HF0.out, fun j e hj => by omega, (Below.refl _ _).alloc (Nat.le_refl _) _⟩
  case round =>
    obtain ⟨k, f, rfl, hk, hR, hA, hb⟩ := hrel
    by_cases hlt : k < zs.length
    · have hlt' : (k : Int) < (zs.length : Int) := by omega
      obtain ⟨b, o, cap', z, ee, hs, q0⟩ := (H.out.below hb).at hlt
      simp only [Value.slice.injEq, true_and] at ee
      obtain ⟨rfl, rfl⟩ := ee
      have hfz := hR.frozen
      have k0 := hR.cell (i := k) hlt
      have H1 : Hid (zs[k]? = some z ∧ wr.rowIs w.heap.size 2 zs.length f ∧ (∀ (j : Nat) (z : Int), j < k → zs[j]? = some z → f j = .int .i64 z) ∧ Below w.heap.size w wr) := ⟨hs, hR, hA, hb⟩
      clear hs hR hA hb
      go_wp2
      go_roundw
      case rel =>
        refine ⟨k + 1, _, by go_num, by omega, H1.out.2.1.set k (.int .i64 z), fun j t hj ht => ?_, H1.out.2.2.2.setCell (Nat.le_refl _) _⟩
        by_cases e1 : j = k
        · subst e1
          rw [H1.out.1] at ht
          cases ht
          rw [if_pos rfl]
        · rw [if_neg e1]
          exact H1.out.2.2.1 j t (by omega) ht
      case measure => simp [intOf]; omega
    · obtain rfl : k = zs.length := by omega
      have HS : Hid (wr.rowIs w.heap.size 2 zs.length f ∧ (∀ (j : Nat) (z : Int), j < zs.length → zs[j]? = some z → f j = .int .i64 z) ∧ Below w.heap.size w wr) := ⟨hR, hA, hb⟩
      clear hR hA hb
      go_wp2
      go_ret
      exact ⟨w.heap.size, rfl, Nat.le_refl _, HS.out.1.lt, ⟨⟨_, _, rfl, fun _ => ⟨rfl, _, f, HS.out.1, Nat.le_refl _, fun i e hi => HS.out.2.1 i e (List.getElem?_eq_some_iff.1 hi).1 hi⟩⟩, by omega⟩, HS.out.2.2⟩
set_option maxHeartbeats 2000000 in
theorem eqN_any (v v' : Value) (zs : List Int) (w : World) (h : RowN w v zs) (h' : RowN w v' zs) :
    Calls Tryd.prog 10 #[v, v'] w fun e w' => e = .returned (.bool true) ∧ Below w.heap.size w w' := by
  have hlen := h.len
  obtain ⟨a, cap, rfl⟩ := h.val
  obtain ⟨a', cap', rfl⟩ := h'.val
  have H : Hid (RowN w (.slice a zs.length cap) zs ∧ RowN w (.slice a' zs.length cap') zs) := ⟨h, h'⟩
  clear h h'
  go_enter Tryd.func10, Tryd.ntmps10
  go_wp2
  go_loopw [5] (fun i wr => ∃ k : Nat, i = .int .i64 (k : Int) ∧ k ≤ zs.length ∧ Below w.heap.size w wr) (fun i _ => zs.length - (intOf i).toNat)
  case atStart => exact ⟨0, rfl, by omega, Below.refl _ _⟩
  case round =>
    obtain ⟨k, rfl, hk, hb⟩ := hrel
    by_cases hlt : k < zs.length
    · have hlt' : (k : Int) < (zs.length : Int) := by omega
      obtain ⟨b, o, c1, z, e, hs, q0⟩ := (H.out.1.below hb).at hlt
      obtain ⟨b', o', c2, z', e', hs', p0⟩ := (H.out.2.below hb).at hlt
      simp only [Value.slice.injEq, true_and] at e e'
      obtain ⟨rfl, rfl⟩ := e
      obtain ⟨rfl, rfl⟩ := e'
      obtain rfl : z = z' := by rw [hs] at hs'; exact Option.some.inj hs'
      have HB : Hid (Below w.heap.size w wr) := hb
      clear hs hs' hb
      go_wp2
      all_goals first
        | (go_quiet (fail); go_wp2; go_roundw; (case rel => exact ⟨k + 1, by go_num, by omega, below_drewN HB.out _⟩); (case measure => simp [intOf]; omega))
        | (go_roundw; (case rel => exact ⟨k + 1, by go_num, by omega, HB.out⟩); (case measure => simp [intOf]; omega))
    · obtain rfl : k = zs.length := by omega
      have HB : Hid (Below w.heap.size w wr) := hb
      clear hb
      go_wp2
      go_ret
      exact ⟨rfl, HB.out⟩
/-- What the marks make of it. -/
def mkNs (k : Int) (n : Nat) : List Int := (List.range n).map fun i : Nat => k + (i : Int)
theorem mkNs_len (k : Int) (n : Nat) : (mkNs k n).length = n := by simp [mkNs]
theorem mkNs_at {k : Int} {n i : Nat} {z : Int} (h : (mkNs k n)[i]? = some z) : i < n ∧ z = k + (i : Int) := by
  have hi := (List.getElem?_eq_some_iff.1 h).1
  rw [mkNs_len] at hi
  refine ⟨hi, ?_⟩
  simpa [mkNs, hi] using h.symm
set_option maxHeartbeats 2000000 in
theorem markN_any (b : Nat) (v : Value) (zs : List Int) (k : Int) (w : World) (h : LN b w v zs) (hk : 0 ≤ k ∧ k + (zs.length : Int) ≤ 9000000000000000000) :
    Calls Tryd.prog 13 #[v, .int .i64 k] w fun e w' => e = .returned (.int .i64 (k + (zs.length : Int))) ∧ LN b w' v (mkNs k zs.length) ∧ Keep b w w' := by
  have hlen := h.len
  obtain ⟨a, cap, rfl⟩ := h.val
  have H : Hid (LN b w (.slice a zs.length cap) zs) := h
  clear h
  go_enter Tryd.func13, Tryd.ntmps13
  go_wp2
  go_loopw [1, 5] (fun q i wr => ∃ j : Nat, q = .int .i64 (k + (j : Int)) ∧ i = .int .i64 (j : Int) ∧ j ≤ zs.length ∧ LN b wr (.slice a zs.length cap) ((mkNs k j) ++ zs.drop j) ∧ Keep b w wr) (fun _ i _ => zs.length - (intOf i).toNat)
  case atStart => exact ⟨0, by simp, rfl, by omega, by simpa [mkNs] using H.out, Keep.refl _ _⟩
  case round =>
    obtain ⟨j, rfl, rfl, hj, hL, hK⟩ := hrel
    have hll : (mkNs k j ++ zs.drop j).length = zs.length := by rw [List.length_append, mkNs_len, List.length_drop]; omega
    by_cases hlt : j < zs.length
    · have hlt' : (j : Int) < (zs.length : Int) := by omega
      obtain ⟨a', cap', e, hc⟩ := hL.shape
      rw [hll] at e
      simp only [Value.slice.injEq, true_and] at e
      obtain ⟨rfl, rfl⟩ := e
      obtain ⟨rfl, n, f, hR, hn, hf⟩ := hc (by intro e; rw [e] at hll; simp at hll; omega)
      rw [hll] at hn
      obtain ⟨z0, hz0⟩ : ∃ z, (mkNs k j ++ zs.drop j)[j]? = some z := ⟨_, List.getElem?_eq_getElem (by omega)⟩
      have k0 := hR.cell (i := j) (by omega)
      rw [hf j z0 hz0] at k0
      have hfz := hR.frozen
      have HS : Hid (wr.rowIs b 2 n f ∧ (∀ (i : Nat) (z : Int), (mkNs k j ++ zs.drop j)[i]? = some z → f i = .int .i64 z) ∧ Keep b w wr) := ⟨hR, hf, hK⟩
      clear hR hf hK hL hz0 hc
      go_wp2
      go_roundw
      case rel =>
        refine ⟨j + 1, by go_num, by go_num, by omega, ⟨⟨_, cap, ?_, fun _ => ⟨rfl, n, _, HS.out.1.set j _, ?_, fun i z hz => ?_⟩⟩, ?_⟩, HS.out.2.2.setCell _ _⟩
        · rw [List.length_append, mkNs_len, List.length_drop, show j + 1 + (zs.length - (j + 1)) = zs.length by omega]
        · rw [List.length_append, mkNs_len, List.length_drop]; omega
        · by_cases e1 : i = j
          · subst e1
            rw [if_pos rfl]
            rw [List.getElem?_append_left (by rw [mkNs_len]; omega)] at hz
            obtain ⟨_, rfl⟩ := mkNs_at hz
            rfl
          · rw [if_neg e1]
            refine HS.out.2.1 i z ?_
            by_cases e2 : i < j
            · rw [List.getElem?_append_left (by rw [mkNs_len]; omega)] at hz ⊢
              obtain ⟨_, rfl⟩ := mkNs_at hz
              rw [mkNs, List.getElem?_map, List.getElem?_range e2]
              rfl
            · rw [List.getElem?_append_right (by rw [mkNs_len]; omega), mkNs_len, List.getElem?_drop] at hz ⊢
              rw [← hz]
              congr 1
              omega
        · rw [List.length_append, mkNs_len, List.length_drop]; omega
      case measure => simp [intOf]; omega
    · obtain rfl : j = zs.length := by omega
      have HS : Hid (LN b wr (.slice a zs.length cap) (mkNs k zs.length) ∧ Keep b w wr) := ⟨by rw [List.drop_length, List.append_nil] at hL; exact hL, hK⟩
      clear hL hK
      go_wp2
      go_ret
      exact ⟨rfl, HS.out.1, HS.out.2⟩
set_option maxHeartbeats 2000000 in
theorem heldN_any (v : Value) (n : Nat) (k : Int) (w : World) (h : RowN w v (mkNs k n)) (hk : 0 ≤ k ∧ k + (n : Int) ≤ 9000000000000000000) :
    Calls Tryd.prog 14 #[v, .int .i64 k] w fun e w' => e = .returned (.int .i64 (k + (n : Int))) ∧ Below w.heap.size w w' := by
  have hlen := h.len
  obtain ⟨a, cap, hv⟩ := h.val
  rw [mkNs_len] at hlen hv
  subst hv
  have H : Hid (RowN w (.slice a n cap) (mkNs k n)) := h
  clear h
  go_enter Tryd.func14, Tryd.ntmps14
  go_wp2
  go_loopw [1, 5] (fun q i wr => ∃ j : Nat, q = .int .i64 (k + (j : Int)) ∧ i = .int .i64 (j : Int) ∧ j ≤ n ∧ Below w.heap.size w wr) (fun _ i _ => n - (intOf i).toNat)
  case atStart => exact ⟨0, by simp, rfl, by omega, Below.refl _ _⟩
  case round =>
    obtain ⟨j, rfl, rfl, hj, hb⟩ := hrel
    have HB : Hid (Below w.heap.size w wr) := hb
    by_cases hlt : j < n
    · have hlt' : (j : Int) < (n : Int) := by omega
      obtain ⟨b, o, c1, g, e, hs, q0⟩ := (H.out.below hb).at (k := j) (by rw [mkNs_len]; exact hlt)
      simp only [mkNs_len, Value.slice.injEq, true_and] at e
      obtain ⟨rfl, rfl⟩ := e
      obtain ⟨_, rfl⟩ := mkNs_at hs
      clear hs hb
      go_wp2
      go_roundw
      case rel => exact ⟨j + 1, by go_num, by go_num, by omega, HB.out⟩
      case measure => simp [intOf]; omega
    · obtain rfl : j = n := by omega
      clear hb
      go_wp2
      go_ret
      exact ⟨rfl, HB.out⟩
end Go.Proofs.YtibjmokhkjklkaaDoor
