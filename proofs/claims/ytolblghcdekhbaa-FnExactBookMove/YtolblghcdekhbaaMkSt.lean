/- The marks of lists of stocks. -/
import Derived.Test.YtolblghcdekhbaaMkT
import Derived.Test.YtolblghcdekhbaaRowSt
import Derived.Deep.RegionHeld3
import Derived.Deep.QuietTactic
import Derived.BigQuiet
import Derived.BigRegion
namespace Go.Proofs.Ytolblghcdekhbaa
open Go.ChangeShapes Go.WideShapes Go.ChangeAt Go.RowKit
/-- What the marks make of it. -/
def mkSt (k i : Nat) : Stk := ⟨mtB (k + i * 2), ((k + i * 2 + 1 : Nat) : Int)⟩
def mkSts (k n : Nat) : List Stk := (List.range n).map (mkSt k)
theorem mkSts_len (k n : Nat) : (mkSts k n).length = n := by simp [mkSts]
theorem mkSts_at {k n i : Nat} {g : Stk} (h : (mkSts k n)[i]? = some g) : i < n ∧ g = mkSt k i := by
  have hi := (List.getElem?_eq_some_iff.1 h).1
  rw [mkSts_len] at hi
  refine ⟨hi, ?_⟩
  simpa [mkSts, hi] using h.symm
theorem mkSts_sizes {k n : Nat} : ∀ (i : Nat) (g : Stk), (mkSts k n)[i]? = some g → g.item.size ≤ 9223372036854775807 := fun i g h => by
  obtain ⟨_, rfl⟩ := mkSts_at h
  have h0 := mtB_size (k + i * 2)
  simp only [mkSt]
  omega
set_option maxRecDepth 20000 in
set_option maxHeartbeats 8000000 in
theorem markSt_any (b : Nat) (v : Value) (rs : List Stk) (k : Nat) (w : World) (h : LSt b w v rs) (hk : 0 < k ∧ k + rs.length * 2 < 1000000000000) :
    Calls Try.prog 24 #[v, .int .i64 (k : Int)] w fun e w' => e = .returned (.int .i64 ((k + rs.length * 2 : Nat) : Int)) ∧ LSt b w' v (mkSts k rs.length) ∧ Keep b w w' := by
  have hlen := h.len
  obtain ⟨a, cap, rfl⟩ := h.val
  rcases Nat.eq_zero_or_pos rs.length with h0 | h0
  · have hnil : rs = [] := List.eq_nil_of_length_eq_zero h0
    subst hnil
    clear h
    go_enter Try.func24, Try.ntmps24
    go_wp2
    go_loopw [1, 5] (fun q i wr => q = .int .i64 (k : Int) ∧ i = .int .i64 0 ∧ wr = w) (fun _ _ _ => 0)
    case atStart => exact ⟨rfl, rfl, rfl⟩
    case round =>
      obtain ⟨rfl, rfl, rfl⟩ := hrel
      go_wp2
      go_ret
      exact ⟨rfl, ⟨⟨_, _, rfl, fun h => absurd rfl h⟩, by simp [mkSts], mkSts_sizes⟩, Keep.refl _ _⟩
  · obtain ⟨a', cap', e, hc⟩ := h.shape
    simp only [Value.slice.injEq, true_and] at e
    obtain ⟨rfl, rfl⟩ := e
    obtain ⟨rfl, m, f, hR, hm, _⟩ := hc (by intro g; rw [g] at h0; simp at h0)
    have HR : Hid (w.rowIs b 61 m f) := hR
    clear h hR hc
    go_enter Try.func24, Try.ntmps24
    go_wp2
    go_loopw [1, 5] (fun q i wr => ∃ (j : Nat) (f : Nat → Value), q = .int .i64 ((k + j * 2 : Nat) : Int) ∧ i = .int .i64 (j : Int) ∧ j ≤ rs.length ∧ wr.rowIs b 61 m f ∧ (∀ i, i < j → f (i * 2) = .string (mtB (k + i * 2)) ∧ f (i * 2 + 1) = .int .i64 ((k + i * 2 + 1 : Nat) : Int)) ∧ Keep b w wr) (fun _ i _ => rs.length - (intOf i).toNat)
    case atStart => exact ⟨0, f, by simp, rfl, by omega, HR.out, fun i hi => by omega, Keep.refl _ _⟩
    case round =>
      obtain ⟨j, f, rfl, rfl, hj, hR, hA, hK⟩ := hrel
      have HS : Hid (wr.rowIs b 61 m f ∧ (∀ i, i < j → f (i * 2) = .string (mtB (k + i * 2)) ∧ f (i * 2 + 1) = .int .i64 ((k + i * 2 + 1 : Nat) : Int)) ∧ Keep b w wr) := ⟨hR, hA, hK⟩
      clear hR hA hK
      by_cases hlt : j < rs.length
      · have hlt' : (j : Int) < (rs.length : Int) := by omega
        go_wp2_with fail
        refine (markText_b _ (k + j * 2) (by omega) _ (by omega) (by omega)).mono ?_
        rintro e wa ⟨rfl, hba⟩
        have Ra := HS.out.1.of_block (hba.block b HS.out.1.lt)
        have fa := Ra.frozen
        have ca := Ra.cell (i := j * 2) (by omega)
        have cb := Ra.cell (i := j * 2 + 1) (by omega)
        have HA : Hid (((wa.setCell ⟨b, j * 2, none⟩ (.string (mtB (k + j * 2)))).setCell ⟨b, j * 2 + 1, none⟩ (.int .i64 (((k + j * 2 : Nat) : Int) + 1))).rowIs b 61 m _ ∧ Keep b w ((wa.setCell ⟨b, j * 2, none⟩ (.string (mtB (k + j * 2)))).setCell ⟨b, j * 2 + 1, none⟩ (.int .i64 (((k + j * 2 : Nat) : Int) + 1)))) := ⟨(Ra.set (j * 2) (.string (mtB (k + j * 2)))).set (j * 2 + 1) (.int .i64 (((k + j * 2 : Nat) : Int) + 1)), ((HS.out.2.2.trans (Keep.of_below hba)).setCell _ _).setCell _ _⟩
        clear hba Ra
        go_wp2
        go_roundw
        case rel =>
          refine ⟨j + 1, _, by go_num, by go_num, by omega, HA.out.1, fun i hi => ?_, HA.out.2⟩
          by_cases e1 : i = j
          · subst e1
            refine ⟨?_, ?_⟩
            · rw [if_neg (by omega), if_pos rfl]
            · rw [if_pos rfl]
              first | rfl | (congr 1; omega)
          · obtain ⟨r0, r1⟩ := HS.out.2.1 i (by omega)
            refine ⟨?_, ?_⟩
            all_goals rw [if_neg (by omega), if_neg (by omega)]
            all_goals assumption
        case measure => simp [intOf]; omega
      · obtain rfl : j = rs.length := by omega
        go_wp2
        go_ret
        refine ⟨rfl, ⟨⟨_, _, by rw [mkSts_len], fun _ => ⟨rfl, m, f, HS.out.1, by rw [mkSts_len]; exact hm, fun i g hi => ?_⟩⟩, by rw [mkSts_len]; exact hlen, mkSts_sizes⟩, HS.out.2.2⟩
        obtain ⟨hi', rfl⟩ := mkSts_at hi
        exact HS.out.2.1 i hi'
set_option maxRecDepth 20000 in
set_option maxHeartbeats 8000000 in
theorem heldSt_any (v : Value) (k n : Nat) (w : World) (h : RowSt w v (mkSts k n)) (hk : 0 < k ∧ k + n * 2 < 1000000000000) :
    Calls Try.prog 26 #[v, .int .i64 (k : Int)] w fun e w' => e = .returned (.int .i64 ((k + n * 2 : Nat) : Int)) ∧ Below w.heap.size w w' := by
  have hlen := h.len
  obtain ⟨a, cap, rfl⟩ := h.val
  have H0 : Hid (RowSt w (.slice a (mkSts k n).length cap) (mkSts k n)) := h
  have hml : (mkSts k n).length = n := mkSts_len k n
  clear h
  go_enter Try.func26, Try.ntmps26
  go_wp2
  try rw [hml]
  go_loopw [1, 5] (fun q i wr => ∃ j : Nat, q = .int .i64 ((k + j * 2 : Nat) : Int) ∧ i = .int .i64 (j : Int) ∧ j ≤ n ∧ Below w.heap.size w wr) (fun _ i _ => n - (intOf i).toNat)
  case atStart => exact ⟨0, by simp, rfl, by omega, Below.refl _ _⟩
  case round =>
    obtain ⟨j, rfl, rfl, hj, hb⟩ := hrel
    by_cases hlt : j < n
    · have hlt' : (j : Int) < (n : Int) := by omega
      obtain ⟨b, o, cap', g, e, hs, hat, _⟩ := (H0.out.below hb).at (k := j) (by omega)
      simp only [Value.slice.injEq, true_and] at e
      obtain ⟨rfl, rfl⟩ := e
      obtain ⟨_, rfl⟩ := mkSts_at hs
      have HB : Hid (Below w.heap.size w wr) := hb
      have HQ : Hid (∀ W, Below wr.heap.size wr W → W.cell? ⟨b, o + j * 2, none⟩ = some (.string (mtB (k + j * 2))) ∧ W.cell? ⟨b, o + j * 2 + 1, none⟩ = some (.int .i64 ((k + j * 2 + 1 : Nat) : Int))) := fun W hW => by
        obtain ⟨r0, r1⟩ := hat.below hW
        exact ⟨r0, r1⟩
      clear hs hb hat
      obtain ⟨q0, q1⟩ := HQ.out wr (Below.refl _ _)
      go_upto_region 4 with fail
      have l0 := cell_lt q0
      go_region_held3 (fun W => W.cell? ⟨b, o + j * 2, none⟩ = some (.string (mtB (k + j * 2)))) (go_keep) (first | (go_at_call 45; refine (markText_b _ (k + j * 2) (by omega) _ (by omega) (by omega)).mono ?_; rintro e wa ⟨rfl, hba⟩; have y0 := (hba.cell (p := ⟨b, o + j * 2, none⟩) l0).trans q0))
      rename_i hHeld
      clear hHeld
      have ba : Below wr.heap.size wr wa := (Below.refl _ wr).drew.trans hba
      clear hba y0 l0 q0 q1
      obtain ⟨q0, q1⟩ := HQ.out wa ba
      have HD : Hid (Below w.heap.size w wa) := HB.out.trans (ba.mono HB.out.size)
      clear ba
      go_wp2
      go_roundw
      case rel => exact ⟨j + 1, by go_num, by go_num, by omega, HD.out⟩
      case measure => simp [intOf]; omega
    · obtain rfl : j = n := by omega
      have HB : Hid (Below w.heap.size w wr) := hb
      clear hb
      go_wp2
      go_ret
      exact ⟨rfl, HB.out⟩
end Go.Proofs.Ytolblghcdekhbaa
