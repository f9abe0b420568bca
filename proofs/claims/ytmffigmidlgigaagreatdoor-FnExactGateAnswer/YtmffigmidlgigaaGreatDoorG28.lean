/- Texts of ours put together: MaOu. -/
import Derived.Test.YtmffigmidlgigaaGreatDoorG23
import Derived.Test.YtmffigmidlgigaaGreatDoorG05
import Derived.Deep.RegionHeld3
import Derived.Deep.QuietTactic
import Derived.BigQuiet
import Derived.BigRegion
namespace Go.Proofs.YtmffigmidlgigaaGreatDoor
open Go.ChangeShapes Go.WideShapes Go.ChangeAt Go.RowKit
/-- What the marks make of it. -/
def mkOu (k i : Nat) : OutR := ⟨mtB (k + i * 5), ((k + i * 5 + 1 : Nat) : Int), mtB (k + i * 5 + 2), ((k + i * 5 + 3 : Nat) : Int), ((k + i * 5 + 4 : Nat) : Int)⟩
def mkOus (k n : Nat) : List OutR := (List.range n).map (mkOu k)
theorem mkOus_len (k n : Nat) : (mkOus k n).length = n := by simp [mkOus]
theorem mkOus_at {k n i : Nat} {g : OutR} (h : (mkOus k n)[i]? = some g) : i < n ∧ g = mkOu k i := by
  have hi := (List.getElem?_eq_some_iff.1 h).1
  rw [mkOus_len] at hi
  refine ⟨hi, ?_⟩
  simpa [mkOus, hi] using h.symm
theorem mkOus_sizes {k n : Nat} : ∀ (i : Nat) (g : OutR), (mkOus k n)[i]? = some g → g.partner.size ≤ 9223372036854775807 ∧ g.text.size ≤ 9223372036854775807 := fun i g h => by
  obtain ⟨_, rfl⟩ := mkOus_at h
  have h0 := mtB_size (k + i * 5)
  have h2 := mtB_size (k + i * 5 + 2)
  simp only [mkOu]
  omega
set_option maxRecDepth 20000 in
set_option maxHeartbeats 8000000 in
theorem markOu_any (b : Nat) (v : Value) (rs : List OutR) (k : Nat) (w : World) (h : LOu b w v rs) (hk : 0 < k ∧ k + rs.length * 5 < 1000000000000) :
    Calls Tryz.prog 43 #[v, .int .i64 (k : Int)] w fun e w' => e = .returned (.int .i64 ((k + rs.length * 5 : Nat) : Int)) ∧ LOu b w' v (mkOus k rs.length) ∧ Keep b w w' := by
  have hlen := h.len
  obtain ⟨a, cap, rfl⟩ := h.val
  rcases Nat.eq_zero_or_pos rs.length with h0 | h0
  · have hnil : rs = [] := List.eq_nil_of_length_eq_zero h0
    subst hnil
    clear h
    go_enter Tryz.func43, Tryz.ntmps43
    go_wp2
    go_loopw [1, 5] (fun q i wr => q = .int .i64 (k : Int) ∧ i = .int .i64 0 ∧ wr = w) (fun _ _ _ => 0)
    case atStart => exact ⟨rfl, rfl, rfl⟩
    case round =>
      obtain ⟨rfl, rfl, rfl⟩ := hrel
      go_wp2
      go_ret
      exact ⟨rfl, ⟨⟨_, _, rfl, fun h => absurd rfl h⟩, by simp [mkOus], mkOus_sizes⟩, Keep.refl _ _⟩
  · obtain ⟨a', cap', e, hc⟩ := h.shape
    simp only [Value.slice.injEq, true_and] at e
    obtain ⟨rfl, rfl⟩ := e
    obtain ⟨rfl, m, f, hR, hm, _⟩ := hc (by intro g; rw [g] at h0; simp at h0)
    have HR : Hid (w.rowIs b 114 m f) := hR
    clear h hR hc
    go_enter Tryz.func43, Tryz.ntmps43
    go_wp2
    go_loopw [1, 5] (fun q i wr => ∃ (j : Nat) (f : Nat → Value), q = .int .i64 ((k + j * 5 : Nat) : Int) ∧ i = .int .i64 (j : Int) ∧ j ≤ rs.length ∧ wr.rowIs b 114 m f ∧ (∀ i, i < j → f (i * 5) = .string (mtB (k + i * 5)) ∧ f (i * 5 + 1) = .int .i64 (((k + i * 5 + 1 : Nat) : Int)) ∧ f (i * 5 + 2) = .string (mtB (k + i * 5 + 2)) ∧ f (i * 5 + 3) = .int .i64 (((k + i * 5 + 3 : Nat) : Int)) ∧ f (i * 5 + 4) = .int .i64 (((k + i * 5 + 4 : Nat) : Int))) ∧ Keep b w wr) (fun _ i _ => rs.length - (intOf i).toNat)
    case atStart => exact ⟨0, f, by simp, rfl, by omega, HR.out, fun i hi => by omega, Keep.refl _ _⟩
    case round =>
      obtain ⟨j, f, rfl, rfl, hj, hR, hA, hK⟩ := hrel
      have HS : Hid (wr.rowIs b 114 m f ∧ (∀ i, i < j → f (i * 5) = .string (mtB (k + i * 5)) ∧ f (i * 5 + 1) = .int .i64 (((k + i * 5 + 1 : Nat) : Int)) ∧ f (i * 5 + 2) = .string (mtB (k + i * 5 + 2)) ∧ f (i * 5 + 3) = .int .i64 (((k + i * 5 + 3 : Nat) : Int)) ∧ f (i * 5 + 4) = .int .i64 (((k + i * 5 + 4 : Nat) : Int))) ∧ Keep b w wr) := ⟨hR, hA, hK⟩
      clear hR hA hK
      by_cases hlt : j < rs.length
      · have hlt' : (j : Int) < (rs.length : Int) := by omega
        go_wp2_with fail
        refine (markText_b _ (k + j * 5) (by omega) _ (by omega) (by omega)).mono ?_
        rintro e wa ⟨rfl, hba⟩
        have Ra := HS.out.1.of_block (hba.block b HS.out.1.lt)
        have fa := Ra.frozen
        have ca0 := Ra.cell (i := j * 5) (by omega)
        have ca1 := Ra.cell (i := j * 5 + 1) (by omega)
        have Ha : Hid (((wa.setCell ⟨b, j * 5, none⟩ (.string (mtB (k + j * 5)))).setCell ⟨b, j * 5 + 1, none⟩ (.int .i64 (((k + j * 5 : Nat) : Int) + 1))).rowIs b 114 m _ ∧ Keep b w ((wa.setCell ⟨b, j * 5, none⟩ (.string (mtB (k + j * 5)))).setCell ⟨b, j * 5 + 1, none⟩ (.int .i64 (((k + j * 5 : Nat) : Int) + 1)))) := ⟨((Ra.set (j * 5) (.string (mtB (k + j * 5)))).set (j * 5 + 1) (.int .i64 (((k + j * 5 : Nat) : Int) + 1))), (((HS.out.2.2.trans (Keep.of_below hba)).setCell _ _).setCell _ _)⟩
        clear hba Ra
        go_wp2_with fail
        refine (markText_b _ (k + j * 5 + 2) (by omega) _ (by omega) (by omega)).mono ?_
        rintro e wb ⟨rfl, hbb⟩
        have Rb := Ha.out.1.of_block (hbb.block b Ha.out.1.lt)
        have fb := Rb.frozen
        have cb2 := Rb.cell (i := j * 5 + 2) (by omega)
        have cb3 := Rb.cell (i := j * 5 + 3) (by omega)
        have cb4 := Rb.cell (i := j * 5 + 4) (by omega)
        have Hb : Hid ((((wb.setCell ⟨b, j * 5 + 2, none⟩ (.string (mtB (k + j * 5 + 2)))).setCell ⟨b, j * 5 + 3, none⟩ (.int .i64 (((k + j * 5 : Nat) : Int) + 1 + 1 + 1))).setCell ⟨b, j * 5 + 4, none⟩ (.int .i64 (((k + j * 5 : Nat) : Int) + 1 + 1 + 1 + 1))).rowIs b 114 m _ ∧ Keep b w (((wb.setCell ⟨b, j * 5 + 2, none⟩ (.string (mtB (k + j * 5 + 2)))).setCell ⟨b, j * 5 + 3, none⟩ (.int .i64 (((k + j * 5 : Nat) : Int) + 1 + 1 + 1))).setCell ⟨b, j * 5 + 4, none⟩ (.int .i64 (((k + j * 5 : Nat) : Int) + 1 + 1 + 1 + 1)))) := ⟨(((Rb.set (j * 5 + 2) (.string (mtB (k + j * 5 + 2)))).set (j * 5 + 3) (.int .i64 (((k + j * 5 : Nat) : Int) + 1 + 1 + 1))).set (j * 5 + 4) (.int .i64 (((k + j * 5 : Nat) : Int) + 1 + 1 + 1 + 1))), ((((Ha.out.2.trans (Keep.of_below hbb)).setCell _ _).setCell _ _).setCell _ _)⟩
        clear hbb Rb fa ca0 ca1
        go_wp2
        go_roundw
        case rel =>
          refine ⟨j + 1, _, by go_num, by go_num, by omega, Hb.out.1, fun i hi => ?_, Hb.out.2⟩
          by_cases e1 : i = j
          · subst e1
            refine ⟨?_, ?_, ?_, ?_, ?_⟩
            · rw [if_neg (by omega), if_neg (by omega), if_neg (by omega), if_neg (by omega), if_pos rfl]
            · rw [if_neg (by omega), if_neg (by omega), if_neg (by omega), if_pos rfl]
              first | rfl | (congr 1; omega)
            · rw [if_neg (by omega), if_neg (by omega), if_pos rfl]
            · rw [if_neg (by omega), if_pos rfl]
              first | rfl | (congr 1; omega)
            · rw [if_pos rfl]
              first | rfl | (congr 1; omega)
          · obtain ⟨r0, r1, r2, r3, r4⟩ := HS.out.2.1 i (by omega)
            refine ⟨?_, ?_, ?_, ?_, ?_⟩
            all_goals rw [if_neg (by omega), if_neg (by omega), if_neg (by omega), if_neg (by omega), if_neg (by omega)]
            all_goals assumption
        case measure => simp [intOf]; omega
      · obtain rfl : j = rs.length := by omega
        go_wp2
        go_ret
        refine ⟨rfl, ⟨⟨_, _, by rw [mkOus_len], fun _ => ⟨rfl, m, f, HS.out.1, by rw [mkOus_len]; exact hm, fun i g hi => ?_⟩⟩, by rw [mkOus_len]; exact hlen, mkOus_sizes⟩, HS.out.2.2⟩
        obtain ⟨hi', rfl⟩ := mkOus_at hi
        exact HS.out.2.1 i hi'
end Go.Proofs.YtmffigmidlgigaaGreatDoor
