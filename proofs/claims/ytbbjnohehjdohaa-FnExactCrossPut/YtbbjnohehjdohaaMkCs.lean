/- The marks of lists of crosses. -/
import Derived.Test.YtbbjnohehjdohaaMkT
import Derived.Test.YtbbjnohehjdohaaRowCs
import Derived.Deep.RegionHeld3
import Derived.Deep.QuietTactic
import Derived.BigQuiet
import Derived.BigRegion
namespace Go.Proofs.Ytbbjnohehjdohaa
open Go.ChangeShapes Go.WideShapes Go.ChangeAt Go.RowKit
/-- What the marks make of it. -/
def mkCs (k i : Nat) : Crs := ⟨mtB (k + i * 3), mtB (k + i * 3 + 1), mtB (k + i * 3 + 2)⟩
def mkCss (k n : Nat) : List Crs := (List.range n).map (mkCs k)
theorem mkCss_len (k n : Nat) : (mkCss k n).length = n := by simp [mkCss]
theorem mkCss_at {k n i : Nat} {g : Crs} (h : (mkCss k n)[i]? = some g) : i < n ∧ g = mkCs k i := by
  have hi := (List.getElem?_eq_some_iff.1 h).1
  rw [mkCss_len] at hi
  refine ⟨hi, ?_⟩
  simpa [mkCss, hi] using h.symm
theorem mkCss_sizes {k n : Nat} : ∀ (i : Nat) (g : Crs), (mkCss k n)[i]? = some g → g.partner.size ≤ 9223372036854775807 ∧ g.theirs.size ≤ 9223372036854775807 ∧ g.own.size ≤ 9223372036854775807 := fun i g h => by
  obtain ⟨_, rfl⟩ := mkCss_at h
  have h0 := mtB_size (k + i * 3)
  have h1 := mtB_size (k + i * 3 + 1)
  have h2 := mtB_size (k + i * 3 + 2)
  simp only [mkCs]
  omega
set_option maxHeartbeats 4000000 in
theorem markCs_any (b : Nat) (v : Value) (rs : List Crs) (k : Nat) (w : World) (h : LCs b w v rs) (hk : 0 < k ∧ k + rs.length * 3 < 1000000000000) :
    Calls Try.prog 12 #[v, .int .i64 (k : Int)] w fun e w' => e = .returned (.int .i64 ((k + rs.length * 3 : Nat) : Int)) ∧ LCs b w' v (mkCss k rs.length) ∧ Keep b w w' := by
  have hlen := h.len
  obtain ⟨a, cap, rfl⟩ := h.val
  rcases Nat.eq_zero_or_pos rs.length with h0 | h0
  · have hnil : rs = [] := List.eq_nil_of_length_eq_zero h0
    subst hnil
    clear h
    go_enter Try.func12, Try.ntmps12
    go_wp2
    go_loopw [1, 5] (fun q i wr => q = .int .i64 (k : Int) ∧ i = .int .i64 0 ∧ wr = w) (fun _ _ _ => 0)
    case atStart => exact ⟨rfl, rfl, rfl⟩
    case round =>
      obtain ⟨rfl, rfl, rfl⟩ := hrel
      go_wp2
      go_ret
      exact ⟨rfl, ⟨⟨_, _, rfl, fun h => absurd rfl h⟩, by simp [mkCss], mkCss_sizes⟩, Keep.refl _ _⟩
  · obtain ⟨a', cap', e, hc⟩ := h.shape
    simp only [Value.slice.injEq, true_and] at e
    obtain ⟨rfl, rfl⟩ := e
    obtain ⟨rfl, m, f, hR, hm, _⟩ := hc (by intro g; rw [g] at h0; simp at h0)
    have HR : Hid (w.rowIs b 30 m f) := hR
    clear h hR hc
    go_enter Try.func12, Try.ntmps12
    go_wp2
    go_loopw [1, 5] (fun q i wr => ∃ (j : Nat) (f : Nat → Value), q = .int .i64 ((k + j * 3 : Nat) : Int) ∧ i = .int .i64 (j : Int) ∧ j ≤ rs.length ∧ wr.rowIs b 30 m f ∧ (∀ i, i < j → f (i * 3) = .string (mtB (k + i * 3)) ∧ f (i * 3 + 1) = .string (mtB (k + i * 3 + 1)) ∧ f (i * 3 + 2) = .string (mtB (k + i * 3 + 2))) ∧ Keep b w wr) (fun _ i _ => rs.length - (intOf i).toNat)
    case atStart => exact ⟨0, f, by simp, rfl, by omega, HR.out, fun i hi => by omega, Keep.refl _ _⟩
    case round =>
      obtain ⟨j, f, rfl, rfl, hj, hR, hA, hK⟩ := hrel
      by_cases hlt : j < rs.length
      · have hlt' : (j : Int) < (rs.length : Int) := by omega
        have HS : Hid (wr.rowIs b 30 m f ∧ (∀ i, i < j → f (i * 3) = .string (mtB (k + i * 3)) ∧ f (i * 3 + 1) = .string (mtB (k + i * 3 + 1)) ∧ f (i * 3 + 2) = .string (mtB (k + i * 3 + 2))) ∧ Keep b w wr) := ⟨hR, hA, hK⟩
        clear hR hA hK
        go_wp2_with fail
        refine (markText_b _ (k + j * 3) (by omega) _ (by omega) (by omega)).mono ?_
        rintro e wa ⟨rfl, hba⟩
        have Ra := HS.out.1.of_block (hba.block b HS.out.1.lt)
        have fa := Ra.frozen
        have ca := Ra.cell (i := j * 3) (by omega)
        have HA : Hid ((wa.setCell ⟨b, j * 3, none⟩ (.string (mtB (k + j * 3)))).rowIs b 30 m _ ∧ Keep b w (wa.setCell ⟨b, j * 3, none⟩ (.string (mtB (k + j * 3))))) := ⟨Ra.set (j * 3) (.string (mtB (k + j * 3))), (HS.out.2.2.trans (Keep.of_below hba)).setCell _ _⟩
        clear hba Ra
        go_wp2_with fail
        refine (markText_b _ (k + j * 3 + 1) (by omega) _ (by omega) (by omega)).mono ?_
        rintro e wb ⟨rfl, hbb⟩
        have Rb := HA.out.1.of_block (hbb.block b HA.out.1.lt)
        have fb := Rb.frozen
        have cb := Rb.cell (i := j * 3 + 1) (by omega)
        have HB : Hid ((wb.setCell ⟨b, j * 3 + 1, none⟩ (.string (mtB (k + j * 3 + 1)))).rowIs b 30 m _ ∧ Keep b w (wb.setCell ⟨b, j * 3 + 1, none⟩ (.string (mtB (k + j * 3 + 1))))) := ⟨Rb.set (j * 3 + 1) (.string (mtB (k + j * 3 + 1))), (HA.out.2.trans (Keep.of_below hbb)).setCell _ _⟩
        clear hbb Rb ca fa
        go_wp2_with fail
        refine (markText_b _ (k + j * 3 + 2) (by omega) _ (by omega) (by omega)).mono ?_
        rintro e wc ⟨rfl, hbc⟩
        have Rc := HB.out.1.of_block (hbc.block b HB.out.1.lt)
        have fc := Rc.frozen
        have cc := Rc.cell (i := j * 3 + 2) (by omega)
        have HC : Hid ((wc.setCell ⟨b, j * 3 + 2, none⟩ (.string (mtB (k + j * 3 + 2)))).rowIs b 30 m _ ∧ Keep b w (wc.setCell ⟨b, j * 3 + 2, none⟩ (.string (mtB (k + j * 3 + 2))))) := ⟨Rc.set (j * 3 + 2) (.string (mtB (k + j * 3 + 2))), (HB.out.2.trans (Keep.of_below hbc)).setCell _ _⟩
        clear hbc Rc cb fb
        go_wp2
        go_roundw
        case rel =>
          refine ⟨j + 1, _, by go_num, by go_num, by omega, HC.out.1, fun i hi => ?_, HC.out.2⟩
          by_cases e1 : i = j
          · subst e1
            refine ⟨?_, ?_, ?_⟩
            · rw [if_neg (by omega), if_neg (by omega), if_pos rfl]
            · rw [if_neg (by omega), if_pos rfl]
            · rw [if_pos rfl]
          · obtain ⟨r0, r1, r2⟩ := HS.out.2.1 i (by omega)
            refine ⟨?_, ?_, ?_⟩
            all_goals rw [if_neg (by omega), if_neg (by omega), if_neg (by omega)]
            all_goals assumption
        case measure => simp [intOf]; omega
      · obtain rfl : j = rs.length := by omega
        have HS : Hid (wr.rowIs b 30 m f ∧ (∀ i, i < rs.length → f (i * 3) = .string (mtB (k + i * 3)) ∧ f (i * 3 + 1) = .string (mtB (k + i * 3 + 1)) ∧ f (i * 3 + 2) = .string (mtB (k + i * 3 + 2))) ∧ Keep b w wr) := ⟨hR, hA, hK⟩
        clear hR hA hK
        go_wp2
        go_ret
        refine ⟨rfl, ⟨⟨_, _, by rw [mkCss_len], fun _ => ⟨rfl, m, f, HS.out.1, by rw [mkCss_len]; exact hm, fun i g hi => ?_⟩⟩, by rw [mkCss_len]; exact hlen, mkCss_sizes⟩, HS.out.2.2⟩
        obtain ⟨hi', rfl⟩ := mkCss_at hi
        exact HS.out.2.1 i hi'
set_option maxHeartbeats 4000000 in
theorem heldCs_any (v : Value) (k n : Nat) (w : World) (h : RowCs w v (mkCss k n)) (hk : 0 < k ∧ k + n * 3 < 1000000000000) :
    Calls Try.prog 13 #[v, .int .i64 (k : Int)] w fun e w' => e = .returned (.int .i64 ((k + n * 3 : Nat) : Int)) ∧ Below w.heap.size w w' := by
  have hlen := h.len
  obtain ⟨a, cap, rfl⟩ := h.val
  have H0 : Hid (RowCs w (.slice a (mkCss k n).length cap) (mkCss k n)) := h
  have hml : (mkCss k n).length = n := mkCss_len k n
  clear h
  go_enter Try.func13, Try.ntmps13
  go_wp2
  try rw [hml]
  go_loopw [1, 5] (fun q i wr => ∃ j : Nat, q = .int .i64 ((k + j * 3 : Nat) : Int) ∧ i = .int .i64 (j : Int) ∧ j ≤ n ∧ Below w.heap.size w wr) (fun _ i _ => n - (intOf i).toNat)
  case atStart => exact ⟨0, by simp, rfl, by omega, Below.refl _ _⟩
  case round =>
    obtain ⟨j, rfl, rfl, hj, hb⟩ := hrel
    by_cases hlt : j < n
    · have hlt' : (j : Int) < (n : Int) := by omega
      obtain ⟨b, o, cap', g, e, hs, ⟨q0, q1, q2⟩, _⟩ := (H0.out.below hb).at (k := j) (by omega)
      simp only [Value.slice.injEq, true_and] at e
      obtain ⟨rfl, rfl⟩ := e
      obtain ⟨_, rfl⟩ := mkCss_at hs
      simp only [mkCs] at q0 q1 q2
      have HB : Hid (Below w.heap.size w wr) := hb
      have HQ : Hid (∀ W, Below wr.heap.size wr W → W.cell? ⟨b, o + j * 3 + 1, none⟩ = some (.string (mtB (k + j * 3 + 1))) ∧ W.cell? ⟨b, o + j * 3 + 2, none⟩ = some (.string (mtB (k + j * 3 + 2)))) := fun W hW => ⟨(hW.cell (cell_lt q1)).trans q1, (hW.cell (cell_lt q2)).trans q2⟩
      clear hs hb
      go_upto_region 4 with fail
      have l0 := cell_lt q0
      go_region_held3 (fun W => W.cell? ⟨b, o + j * 3, none⟩ = some (.string (mtB (k + j * 3)))) (go_keep) (first | (go_at_call 24; refine (markText_b _ (k + j * 3) (by omega) _ (by omega) (by omega)).mono ?_; rintro e wa ⟨rfl, hbwa⟩; have y0 := (hbwa.cell (p := ⟨b, o + j * 3, none⟩) l0).trans q0))
      rename_i hHeld
      clear hHeld
      have ba : Below wr.heap.size wr wa := (Below.refl _ _).drew.trans hbwa
      obtain ⟨q1a, q2a⟩ := HQ.out wa ba
      have HA : Hid (Below wr.heap.size wr wa) := ba
      clear hbwa ba y0 q0 q1 q2 l0
      go_upto_region 7 with fail
      have l1 := cell_lt q1a
      go_region_held3 (fun W => W.cell? ⟨b, o + j * 3 + 1, none⟩ = some (.string (mtB (k + j * 3 + 1)))) (go_keep) (first | (go_at_call 24; refine (markText_b _ (k + j * 3 + 1) (by omega) _ (by omega) (by omega)).mono ?_; rintro e wb ⟨rfl, hbwb⟩; have y1 := (hbwb.cell (p := ⟨b, o + j * 3 + 1, none⟩) l1).trans q1a))
      rename_i hHeld
      clear hHeld
      have bb : Below wr.heap.size wr wb := HA.out.trans (((Below.refl _ _).drew.trans hbwb).mono HA.out.size)
      obtain ⟨_, q2b⟩ := HQ.out wb bb
      have HC : Hid (Below wr.heap.size wr wb) := bb
      clear hbwb bb y1 q1a q2a l1
      go_upto_region 10 with fail
      have l2 := cell_lt q2b
      go_region_held3 (fun W => W.cell? ⟨b, o + j * 3 + 2, none⟩ = some (.string (mtB (k + j * 3 + 2)))) (go_keep) (first | (go_at_call 24; refine (markText_b _ (k + j * 3 + 2) (by omega) _ (by omega) (by omega)).mono ?_; rintro e wc ⟨rfl, hbwc⟩; have y2 := (hbwc.cell (p := ⟨b, o + j * 3 + 2, none⟩) l2).trans q2b))
      rename_i hHeld
      clear hHeld
      have bc : Below wr.heap.size wr wc := HC.out.trans (((Below.refl _ _).drew.trans hbwc).mono HC.out.size)
      have HD : Hid (Below w.heap.size w wc) := HB.out.trans (bc.mono HB.out.size)
      clear hbwc bc y2 q2b l2
      go_wp2
      go_roundw
      case rel => exact ⟨j + 1, by go_num, by go_num, by omega, HD.out⟩
      case measure => simp [intOf]; omega
    · obtain rfl : j = n := by omega
      have HB : Hid (Below w.heap.size w wr) := hb
      clear hb
      go_wp2
      go_ret
      exact ⟨rfl, HB.out⟩
end Go.Proofs.Ytbbjnohehjdohaa
