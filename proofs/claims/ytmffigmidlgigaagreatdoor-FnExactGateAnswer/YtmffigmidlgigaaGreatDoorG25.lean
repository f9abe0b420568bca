/- Texts of ours put together: MaCs, MaSt. -/
import Derived.Test.YtmffigmidlgigaaGreatDoorG23
import Derived.Test.YtmffigmidlgigaaGreatDoorG03
import Derived.Deep.RegionHeld3
import Derived.Deep.QuietTactic
import Derived.BigQuiet
import Derived.BigRegion
namespace Go.Proofs.YtmffigmidlgigaaGreatDoor
open Go.ChangeShapes Go.WideShapes Go.ChangeAt Go.RowKit
/-- What the marks make of it. -/
def mkCs (k i : Nat) : Crs := ⟨mtB (k + i * 3), mtB (k + i * 3 + 1), mtB (k + i * 3 + 2)⟩
def mkCss (k n : Nat) : List Crs := (List.range n).map (mkCs k)
theorem mkCss_len (k n : Nat) : (mkCss k n).length = n := by simp [mkCss]
theorem mkCss_at {k n i : Nat} {g : Crs} (h : (mkCss k n)[i]? = some g) : i < n ∧ g = mkCs k i := by
  have hi := (List.getElem?_eq_some_iff.1 h).1
  rw [mkCss_len] at hi
  refine ⟨hi, ?_⟩
  simpa [mkCss, hi] using h.symm
theorem mkCss_sizes {k n : Nat} : ∀ (i : Nat) (g : Crs), (mkCss k n)[i]? = some g → g.partner.size ≤ 9223372036854775807 ∧ g.theirs.size ≤ 9223372036854775807 ∧ g.own.size ≤ 9223372036854775807 := fun i g h => by
  obtain ⟨_, rfl⟩ := mkCss_at h
  have h0 := mtB_size (k + i * 3)
  have h1 := mtB_size (k + i * 3 + 1)
  have h2 := mtB_size (k + i * 3 + 2)
  simp only [mkCs]
  omega
set_option maxHeartbeats 4000000 in
theorem markCs_any (b : Nat) (v : Value) (rs : List Crs) (k : Nat) (w : World) (h : LCs b w v rs) (hk : 0 < k ∧ k + rs.length * 3 < 1000000000000) :
    Calls Tryz.prog 40 #[v, .int .i64 (k : Int)] w fun e w' => e = .returned (.int .i64 ((k + rs.length * 3 : Nat) : Int)) ∧ LCs b w' v (mkCss k rs.length) ∧ Keep b w w' := by
  have hlen := h.len
  obtain ⟨a, cap, rfl⟩ := h.val
  rcases Nat.eq_zero_or_pos rs.length with h0 | h0
  · have hnil : rs = [] := List.eq_nil_of_length_eq_zero h0
    subst hnil
    clear h
    go_enter Tryz.func40, Tryz.ntmps40
    go_wp2
    go_loopw [1, 5] (fun q i wr => q = .int .i64 (k : Int) ∧ i = .int .i64 0 ∧ wr = w) (fun _ _ _ => 0)
    case atStart => exact ⟨rfl, rfl, rfl⟩
    case round =>
      obtain ⟨rfl, rfl, rfl⟩ := hrel
      go_wp2
      go_ret
      exact ⟨rfl, ⟨⟨_, _, rfl, fun h => absurd rfl h⟩, by simp [mkCss], mkCss_sizes⟩, Keep.refl _ _⟩
  · obtain ⟨a', cap', e, hc⟩ := h.shape
    simp only [Value.slice.injEq, true_and] at e
    obtain ⟨rfl, rfl⟩ := e
    obtain ⟨rfl, m, f, hR, hm, _⟩ := hc (by intro g; rw [g] at h0; simp at h0)
    have HR : Hid (w.rowIs b 108 m f) := hR
    clear h hR hc
    go_enter Tryz.func40, Tryz.ntmps40
    go_wp2
    go_loopw [1, 5] (fun q i wr => ∃ (j : Nat) (f : Nat → Value), q = .int .i64 ((k + j * 3 : Nat) : Int) ∧ i = .int .i64 (j : Int) ∧ j ≤ rs.length ∧ wr.rowIs b 108 m f ∧ (∀ i, i < j → f (i * 3) = .string (mtB (k + i * 3)) ∧ f (i * 3 + 1) = .string (mtB (k + i * 3 + 1)) ∧ f (i * 3 + 2) = .string (mtB (k + i * 3 + 2))) ∧ Keep b w wr) (fun _ i _ => rs.length - (intOf i).toNat)
    case atStart => exact ⟨0, f, by simp, rfl, by omega, HR.out, fun i hi => by omega, Keep.refl _ _⟩
    case round =>
      obtain ⟨j, f, rfl, rfl, hj, hR, hA, hK⟩ := hrel
      by_cases hlt : j < rs.length
      · have hlt' : (j : Int) < (rs.length : Int) := by omega
        have HS : Hid (wr.rowIs b 108 m f ∧ (∀ i, i < j → f (i * 3) = .string (mtB (k + i * 3)) ∧ f (i * 3 + 1) = .string (mtB (k + i * 3 + 1)) ∧ f (i * 3 + 2) = .string (mtB (k + i * 3 + 2))) ∧ Keep b w wr) := ⟨hR, hA, hK⟩
        clear hR hA hK
        go_wp2_with fail
        refine (markText_b _ (k + j * 3) (by omega) _ (by omega) (by omega)).mono ?_
        rintro e wa ⟨rfl, hba⟩
        have Ra := HS.out.1.of_block (hba.block b HS.out.1.lt)
        have fa := Ra.frozen
        have ca := Ra.cell (i := j * 3) (by omega)
        have HA : Hid ((wa.setCell ⟨b, j * 3, none⟩ (.string (mtB (k + j * 3)))).rowIs b 108 m _ ∧ Keep b w (wa.setCell ⟨b, j * 3, none⟩ (.string (mtB (k + j * 3))))) := ⟨Ra.set (j * 3) (.string (mtB (k + j * 3))), (HS.out.2.2.trans (Keep.of_below hba)).setCell _ _⟩
        clear hba Ra
        go_wp2_with fail
        refine (markText_b _ (k + j * 3 + 1) (by omega) _ (by omega) (by omega)).mono ?_
        rintro e wb ⟨rfl, hbb⟩
        have Rb := HA.out.1.of_block (hbb.block b HA.out.1.lt)
        have fb := Rb.frozen
        have cb := Rb.cell (i := j * 3 + 1) (by omega)
        have HB : Hid ((wb.setCell ⟨b, j * 3 + 1, none⟩ (.string (mtB (k + j * 3 + 1)))).rowIs b 108 m _ ∧ Keep b w (wb.setCell ⟨b, j * 3 + 1, none⟩ (.string (mtB (k + j * 3 + 1))))) := ⟨Rb.set (j * 3 + 1) (.string (mtB (k + j * 3 + 1))), (HA.out.2.trans (Keep.of_below hbb)).setCell _ _⟩
        clear hbb Rb ca fa
        go_wp2_with fail
        refine (markText_b _ (k + j * 3 + 2) (by omega) _ (by omega) (by omega)).mono ?_
        rintro e wc ⟨rfl, hbc⟩
        have Rc := HB.out.1.of_block (hbc.block b HB.out.1.lt)
        have fc := Rc.frozen
        have cc := Rc.cell (i := j * 3 + 2) (by omega)
        have HC : Hid ((wc.setCell ⟨b, j * 3 + 2, none⟩ (.string (mtB (k + j * 3 + 2)))).rowIs b 108 m _ ∧ Keep b w (wc.setCell ⟨b, j * 3 + 2, none⟩ (.string (mtB (k + j * 3 + 2))))) := ⟨Rc.set (j * 3 + 2) (.string (mtB (k + j * 3 + 2))), (HB.out.2.trans (Keep.of_below hbc)).setCell _ _⟩
        clear hbc Rc cb fb
        go_wp2
        go_roundw
        case rel =>
          refine ⟨j + 1, _, by go_num, by go_num, by omega, HC.out.1, fun i hi => ?_, HC.out.2⟩
          by_cases e1 : i = j
          · subst e1
            refine ⟨?_, ?_, ?_⟩
            · rw [if_neg (by omega), if_neg (by omega), if_pos rfl]
            · rw [if_neg (by omega), if_pos rfl]
            · rw [if_pos rfl]
          · obtain ⟨r0, r1, r2⟩ := HS.out.2.1 i (by omega)
            refine ⟨?_, ?_, ?_⟩
            all_goals rw [if_neg (by omega), if_neg (by omega), if_neg (by omega)]
            all_goals assumption
        case measure => simp [intOf]; omega
      · obtain rfl : j = rs.length := by omega
        have HS : Hid (wr.rowIs b 108 m f ∧ (∀ i, i < rs.length → f (i * 3) = .string (mtB (k + i * 3)) ∧ f (i * 3 + 1) = .string (mtB (k + i * 3 + 1)) ∧ f (i * 3 + 2) = .string (mtB (k + i * 3 + 2))) ∧ Keep b w wr) := ⟨hR, hA, hK⟩
        clear hR hA hK
        go_wp2
        go_ret
        refine ⟨rfl, ⟨⟨_, _, by rw [mkCss_len], fun _ => ⟨rfl, m, f, HS.out.1, by rw [mkCss_len]; exact hm, fun i g hi => ?_⟩⟩, by rw [mkCss_len]; exact hlen, mkCss_sizes⟩, HS.out.2.2⟩
        obtain ⟨hi', rfl⟩ := mkCss_at hi
        exact HS.out.2.1 i hi'
end Go.Proofs.YtmffigmidlgigaaGreatDoor
namespace Go.Proofs.YtmffigmidlgigaaGreatDoor
open Go.ChangeShapes Go.WideShapes Go.ChangeAt Go.RowKit
/-- What the marks make of it. -/
def mkSt (k i : Nat) : Stk := ⟨mtB (k + i * 2), ((k + i * 2 + 1 : Nat) : Int)⟩
def mkSts (k n : Nat) : List Stk := (List.range n).map (mkSt k)
theorem mkSts_len (k n : Nat) : (mkSts k n).length = n := by simp [mkSts]
theorem mkSts_at {k n i : Nat} {g : Stk} (h : (mkSts k n)[i]? = some g) : i < n ∧ g = mkSt k i := by
  have hi := (List.getElem?_eq_some_iff.1 h).1
  rw [mkSts_len] at hi
  refine ⟨hi, ?_⟩
  simpa [mkSts, hi] using h.symm
theorem mkSts_sizes {k n : Nat} : ∀ (i : Nat) (g : Stk), (mkSts k n)[i]? = some g → g.item.size ≤ 9223372036854775807 := fun i g h => by
  obtain ⟨_, rfl⟩ := mkSts_at h
  have h0 := mtB_size (k + i * 2)
  simp only [mkSt]
  omega
set_option maxRecDepth 20000 in
set_option maxHeartbeats 8000000 in
theorem markSt_any (b : Nat) (v : Value) (rs : List Stk) (k : Nat) (w : World) (h : LSt b w v rs) (hk : 0 < k ∧ k + rs.length * 2 < 1000000000000) :
    Calls Tryz.prog 80 #[v, .int .i64 (k : Int)] w fun e w' => e = .returned (.int .i64 ((k + rs.length * 2 : Nat) : Int)) ∧ LSt b w' v (mkSts k rs.length) ∧ Keep b w w' := by
  have hlen := h.len
  obtain ⟨a, cap, rfl⟩ := h.val
  rcases Nat.eq_zero_or_pos rs.length with h0 | h0
  · have hnil : rs = [] := List.eq_nil_of_length_eq_zero h0
    subst hnil
    clear h
    go_enter Tryz.func80, Tryz.ntmps80
    go_wp2
    go_loopw [1, 5] (fun q i wr => q = .int .i64 (k : Int) ∧ i = .int .i64 0 ∧ wr = w) (fun _ _ _ => 0)
    case atStart => exact ⟨rfl, rfl, rfl⟩
    case round =>
      obtain ⟨rfl, rfl, rfl⟩ := hrel
      go_wp2
      go_ret
      exact ⟨rfl, ⟨⟨_, _, rfl, fun h => absurd rfl h⟩, by simp [mkSts], mkSts_sizes⟩, Keep.refl _ _⟩
  · obtain ⟨a', cap', e, hc⟩ := h.shape
    simp only [Value.slice.injEq, true_and] at e
    obtain ⟨rfl, rfl⟩ := e
    obtain ⟨rfl, m, f, hR, hm, _⟩ := hc (by intro g; rw [g] at h0; simp at h0)
    have HR : Hid (w.rowIs b 137 m f) := hR
    clear h hR hc
    go_enter Tryz.func80, Tryz.ntmps80
    go_wp2
    go_loopw [1, 5] (fun q i wr => ∃ (j : Nat) (f : Nat → Value), q = .int .i64 ((k + j * 2 : Nat) : Int) ∧ i = .int .i64 (j : Int) ∧ j ≤ rs.length ∧ wr.rowIs b 137 m f ∧ (∀ i, i < j → f (i * 2) = .string (mtB (k + i * 2)) ∧ f (i * 2 + 1) = .int .i64 ((k + i * 2 + 1 : Nat) : Int)) ∧ Keep b w wr) (fun _ i _ => rs.length - (intOf i).toNat)
    case atStart => exact ⟨0, f, by simp, rfl, by omega, HR.out, fun i hi => by omega, Keep.refl _ _⟩
    case round =>
      obtain ⟨j, f, rfl, rfl, hj, hR, hA, hK⟩ := hrel
      have HS : Hid (wr.rowIs b 137 m f ∧ (∀ i, i < j → f (i * 2) = .string (mtB (k + i * 2)) ∧ f (i * 2 + 1) = .int .i64 ((k + i * 2 + 1 : Nat) : Int)) ∧ Keep b w wr) := ⟨hR, hA, hK⟩
      clear hR hA hK
      by_cases hlt : j < rs.length
      · have hlt' : (j : Int) < (rs.length : Int) := by omega
        go_wp2_with fail
        refine (markText_b _ (k + j * 2) (by omega) _ (by omega) (by omega)).mono ?_
        rintro e wa ⟨rfl, hba⟩
        have Ra := HS.out.1.of_block (hba.block b HS.out.1.lt)
        have fa := Ra.frozen
        have ca := Ra.cell (i := j * 2) (by omega)
        have cb := Ra.cell (i := j * 2 + 1) (by omega)
        have HA : Hid (((wa.setCell ⟨b, j * 2, none⟩ (.string (mtB (k + j * 2)))).setCell ⟨b, j * 2 + 1, none⟩ (.int .i64 (((k + j * 2 : Nat) : Int) + 1))).rowIs b 137 m _ ∧ Keep b w ((wa.setCell ⟨b, j * 2, none⟩ (.string (mtB (k + j * 2)))).setCell ⟨b, j * 2 + 1, none⟩ (.int .i64 (((k + j * 2 : Nat) : Int) + 1)))) := ⟨(Ra.set (j * 2) (.string (mtB (k + j * 2)))).set (j * 2 + 1) (.int .i64 (((k + j * 2 : Nat) : Int) + 1)), ((HS.out.2.2.trans (Keep.of_below hba)).setCell _ _).setCell _ _⟩
        clear hba Ra
        go_wp2
        go_roundw
        case rel =>
          refine ⟨j + 1, _, by go_num, by go_num, by omega, HA.out.1, fun i hi => ?_, HA.out.2⟩
          by_cases e1 : i = j
          · subst e1
            refine ⟨?_, ?_⟩
            · rw [if_neg (by omega), if_pos rfl]
            · rw [if_pos rfl]
              first | rfl | (congr 1; omega)
          · obtain ⟨r0, r1⟩ := HS.out.2.1 i (by omega)
            refine ⟨?_, ?_⟩
            all_goals rw [if_neg (by omega), if_neg (by omega)]
            all_goals assumption
        case measure => simp [intOf]; omega
      · obtain rfl : j = rs.length := by omega
        go_wp2
        go_ret
        refine ⟨rfl, ⟨⟨_, _, by rw [mkSts_len], fun _ => ⟨rfl, m, f, HS.out.1, by rw [mkSts_len]; exact hm, fun i g hi => ?_⟩⟩, by rw [mkSts_len]; exact hlen, mkSts_sizes⟩, HS.out.2.2⟩
        obtain ⟨hi', rfl⟩ := mkSts_at hi
        exact HS.out.2.1 i hi'
end Go.Proofs.YtmffigmidlgigaaGreatDoor
