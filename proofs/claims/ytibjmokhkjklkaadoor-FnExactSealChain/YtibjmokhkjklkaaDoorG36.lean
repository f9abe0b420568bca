/- Texts of ours put together: MaEv. -/
import Derived.Test.YtibjmokhkjklkaaDoorG35
import Derived.Test.YtibjmokhkjklkaaDoorG01
import Derived.Deep.RegionHeld3
import Derived.Deep.QuietTactic
import Derived.BigQuiet
import Derived.BigRegion
namespace Go.Proofs.YtibjmokhkjklkaaDoor
open Go.ChangeShapes Go.WideShapes Go.ChangeAt Go.RowKit
/-- What the marks make of it. -/
def mkEv (k i : Nat) : EvR := ⟨((k + i * 4 : Nat) : Int), mtB (k + i * 4 + 1), mtB (k + i * 4 + 2), mtB (k + i * 4 + 3)⟩
def mkEvs (k n : Nat) : List EvR := (List.range n).map (mkEv k)
theorem mkEvs_len (k n : Nat) : (mkEvs k n).length = n := by simp [mkEvs]
theorem mkEvs_at {k n i : Nat} {g : EvR} (h : (mkEvs k n)[i]? = some g) : i < n ∧ g = mkEv k i := by
  have hi := (List.getElem?_eq_some_iff.1 h).1
  rw [mkEvs_len] at hi
  refine ⟨hi, ?_⟩
  simpa [mkEvs, hi] using h.symm
theorem mkEvs_sizes {k n : Nat} : ∀ (i : Nat) (g : EvR), (mkEvs k n)[i]? = some g → g.a.size ≤ 9223372036854775807 ∧ g.b.size ≤ 9223372036854775807 ∧ g.c.size ≤ 9223372036854775807 := fun i g h => by
  obtain ⟨_, rfl⟩ := mkEvs_at h
  have h1 := mtB_size (k + i * 4 + 1)
  have h2 := mtB_size (k + i * 4 + 2)
  have h3 := mtB_size (k + i * 4 + 3)
  simp only [mkEv]
  omega
set_option maxRecDepth 20000 in
set_option maxHeartbeats 8000000 in
theorem markEv_any (b : Nat) (v : Value) (rs : List EvR) (k : Nat) (w : World) (h : LEv b w v rs) (hk : 0 < k ∧ k + rs.length * 4 < 1000000000000) :
    Calls Tryd.prog 12 #[v, .int .i64 (k : Int)] w fun e w' => e = .returned (.int .i64 ((k + rs.length * 4 : Nat) : Int)) ∧ LEv b w' v (mkEvs k rs.length) ∧ Keep b w w' := by
  have hlen := h.len
  obtain ⟨a, cap, rfl⟩ := h.val
  rcases Nat.eq_zero_or_pos rs.length with h0 | h0
  · have hnil : rs = [] := List.eq_nil_of_length_eq_zero h0
    subst hnil
    clear h
    go_enter Tryd.func12, Tryd.ntmps12
    go_wp2
    go_loopw [1, 5] (fun q i wr => q = .int .i64 (k : Int) ∧ i = .int .i64 0 ∧ wr = w) (fun _ _ _ => 0)
    case atStart => exact ⟨rfl, rfl, rfl⟩
    case round =>
      obtain ⟨rfl, rfl, rfl⟩ := hrel
      go_wp2
      go_ret
      exact ⟨rfl, ⟨⟨_, _, rfl, fun h => absurd rfl h⟩, by simp [mkEvs], mkEvs_sizes⟩, Keep.refl _ _⟩
  · obtain ⟨a', cap', e, hc⟩ := h.shape
    simp only [Value.slice.injEq, true_and] at e
    obtain ⟨rfl, rfl⟩ := e
    obtain ⟨rfl, m, f, hR, hm, _⟩ := hc (by intro g; rw [g] at h0; simp at h0)
    have HR : Hid (w.rowIs b 40 m f) := hR
    clear h hR hc
    go_enter Tryd.func12, Tryd.ntmps12
    go_wp2
    go_loopw [1, 5] (fun q i wr => ∃ (j : Nat) (f : Nat → Value), q = .int .i64 ((k + j * 4 : Nat) : Int) ∧ i = .int .i64 (j : Int) ∧ j ≤ rs.length ∧ wr.rowIs b 40 m f ∧ (∀ i, i < j → f (i * 4) = .int .i64 (((k + i * 4 : Nat) : Int)) ∧ f (i * 4 + 1) = .string (mtB (k + i * 4 + 1)) ∧ f (i * 4 + 2) = .string (mtB (k + i * 4 + 2)) ∧ f (i * 4 + 3) = .string (mtB (k + i * 4 + 3))) ∧ Keep b w wr) (fun _ i _ => rs.length - (intOf i).toNat)
    case atStart => exact ⟨0, f, by simp, rfl, by omega, HR.out, fun i hi => by omega, Keep.refl _ _⟩
    case round =>
      obtain ⟨j, f, rfl, rfl, hj, hR, hA, hK⟩ := hrel
      have HS : Hid (wr.rowIs b 40 m f ∧ (∀ i, i < j → f (i * 4) = .int .i64 (((k + i * 4 : Nat) : Int)) ∧ f (i * 4 + 1) = .string (mtB (k + i * 4 + 1)) ∧ f (i * 4 + 2) = .string (mtB (k + i * 4 + 2)) ∧ f (i * 4 + 3) = .string (mtB (k + i * 4 + 3))) ∧ Keep b w wr) := ⟨hR, hA, hK⟩
      clear hR hA hK
      by_cases hlt : j < rs.length
      · have hlt' : (j : Int) < (rs.length : Int) := by omega
        have fy := HS.out.1.frozen
        have cy0 := HS.out.1.cell (i := j * 4) (by omega)
        have Hy : Hid ((wr.setCell ⟨b, j * 4, none⟩ (.int .i64 (((k + j * 4 : Nat) : Int)))).rowIs b 40 m _ ∧ Keep b w (wr.setCell ⟨b, j * 4, none⟩ (.int .i64 (((k + j * 4 : Nat) : Int))))) := ⟨(HS.out.1.set (j * 4) (.int .i64 (((k + j * 4 : Nat) : Int)))), (HS.out.2.2.setCell _ _)⟩
        go_wp2_with fail
        refine (markText_b _ (k + j * 4 + 1) (by omega) _ (by omega) (by omega)).mono ?_
        rintro e wa ⟨rfl, hba⟩
        have Ra := Hy.out.1.of_block (hba.block b Hy.out.1.lt)
        have fa := Ra.frozen
        have ca1 := Ra.cell (i := j * 4 + 1) (by omega)
        have Ha : Hid ((wa.setCell ⟨b, j * 4 + 1, none⟩ (.string (mtB (k + j * 4 + 1)))).rowIs b 40 m _ ∧ Keep b w (wa.setCell ⟨b, j * 4 + 1, none⟩ (.string (mtB (k + j * 4 + 1))))) := ⟨(Ra.set (j * 4 + 1) (.string (mtB (k + j * 4 + 1)))), ((Hy.out.2.trans (Keep.of_below hba)).setCell _ _)⟩
        clear hba Ra fy cy0
        go_wp2_with fail
        refine (markText_b _ (k + j * 4 + 2) (by omega) _ (by omega) (by omega)).mono ?_
        rintro e wb ⟨rfl, hbb⟩
        have Rb := Ha.out.1.of_block (hbb.block b Ha.out.1.lt)
        have fb := Rb.frozen
        have cb2 := Rb.cell (i := j * 4 + 2) (by omega)
        have Hb : Hid ((wb.setCell ⟨b, j * 4 + 2, none⟩ (.string (mtB (k + j * 4 + 2)))).rowIs b 40 m _ ∧ Keep b w (wb.setCell ⟨b, j * 4 + 2, none⟩ (.string (mtB (k + j * 4 + 2))))) := ⟨(Rb.set (j * 4 + 2) (.string (mtB (k + j * 4 + 2)))), ((Ha.out.2.trans (Keep.of_below hbb)).setCell _ _)⟩
        clear hbb Rb fa ca1
        go_wp2_with fail
        refine (markText_b _ (k + j * 4 + 3) (by omega) _ (by omega) (by omega)).mono ?_
        rintro e wc ⟨rfl, hbc⟩
        have Rc := Hb.out.1.of_block (hbc.block b Hb.out.1.lt)
        have fc := Rc.frozen
        have cc3 := Rc.cell (i := j * 4 + 3) (by omega)
        have Hc : Hid ((wc.setCell ⟨b, j * 4 + 3, none⟩ (.string (mtB (k + j * 4 + 3)))).rowIs b 40 m _ ∧ Keep b w (wc.setCell ⟨b, j * 4 + 3, none⟩ (.string (mtB (k + j * 4 + 3))))) := ⟨(Rc.set (j * 4 + 3) (.string (mtB (k + j * 4 + 3)))), ((Hb.out.2.trans (Keep.of_below hbc)).setCell _ _)⟩
        clear hbc Rc fb cb2
        go_wp2
        go_roundw
        case rel =>
          refine ⟨j + 1, _, by go_num, by go_num, by omega, Hc.out.1, fun i hi => ?_, Hc.out.2⟩
          by_cases e1 : i = j
          · subst e1
            refine ⟨?_, ?_, ?_, ?_⟩
            · rw [if_neg (by omega), if_neg (by omega), if_neg (by omega), if_pos rfl]
              try (first | rfl | (congr 1; omega))
            · rw [if_neg (by omega), if_neg (by omega), if_pos rfl]
            · rw [if_neg (by omega), if_pos rfl]
            · rw [if_pos rfl]
          · obtain ⟨r0, r1, r2, r3⟩ := HS.out.2.1 i (by omega)
            refine ⟨?_, ?_, ?_, ?_⟩
            all_goals rw [if_neg (by omega), if_neg (by omega), if_neg (by omega), if_neg (by omega)]
            all_goals assumption
        case measure => simp [intOf]; omega
      · obtain rfl : j = rs.length := by omega
        go_wp2
        go_ret
        refine ⟨rfl, ⟨⟨_, _, by rw [mkEvs_len], fun _ => ⟨rfl, m, f, HS.out.1, by rw [mkEvs_len]; exact hm, fun i g hi => ?_⟩⟩, by rw [mkEvs_len]; exact hlen, mkEvs_sizes⟩, HS.out.2.2⟩
        obtain ⟨hi', rfl⟩ := mkEvs_at hi
        exact HS.out.2.1 i hi'
end Go.Proofs.YtibjmokhkjklkaaDoor
