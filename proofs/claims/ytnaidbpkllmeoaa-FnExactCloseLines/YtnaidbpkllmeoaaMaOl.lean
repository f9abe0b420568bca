/- The marks of lists of order lines. -/
import Derived.Test.YtnaidbpkllmeoaaMkT
import Derived.Test.YtnaidbpkllmeoaaRowOl
import Derived.Deep.RegionHeld3
import Derived.Deep.QuietTactic
import Derived.BigQuiet
import Derived.BigRegion
namespace Go.Proofs.Ytnaidbpkllmeoaa
open Go.ChangeShapes Go.WideShapes Go.ChangeAt Go.RowKit
/-- What the marks make of it. -/
def mkOl (k i : Nat) : OLn := ⟨mtB (k + i * 8), mtB (k + i * 8 + 1), ((k + i * 8 + 2 : Nat) : Int), mtB (k + i * 8 + 3), ((k + i * 8 + 4 : Nat) : Int), ((k + i * 8 + 5 : Nat) : Int), ((k + i * 8 + 6 : Nat) : Int), ((k + i * 8 + 7 : Nat) : Int)⟩
def mkOls (k n : Nat) : List OLn := (List.range n).map (mkOl k)
theorem mkOls_len (k n : Nat) : (mkOls k n).length = n := by simp [mkOls]
theorem mkOls_at {k n i : Nat} {g : OLn} (h : (mkOls k n)[i]? = some g) : i < n ∧ g = mkOl k i := by
  have hi := (List.getElem?_eq_some_iff.1 h).1
  rw [mkOls_len] at hi
  refine ⟨hi, ?_⟩
  simpa [mkOls, hi] using h.symm
theorem mkOls_sizes {k n : Nat} : ∀ (i : Nat) (g : OLn), (mkOls k n)[i]? = some g → g.partner.size ≤ 9223372036854775807 ∧ g.ref.size ≤ 9223372036854775807 ∧ g.item.size ≤ 9223372036854775807 := fun i g h => by
  obtain ⟨_, rfl⟩ := mkOls_at h
  have h0 := mtB_size (k + i * 8)
  have h1 := mtB_size (k + i * 8 + 1)
  have h2 := mtB_size (k + i * 8 + 3)
  simp only [mkOl]
  omega
set_option maxRecDepth 20000 in
set_option maxHeartbeats 8000000 in
theorem markOl_any (b : Nat) (v : Value) (rs : List OLn) (k : Nat) (w : World) (h : LOl b w v rs) (hk : 0 < k ∧ k + rs.length * 8 < 1000000000000) :
    Calls Try.prog 24 #[v, .int .i64 (k : Int)] w fun e w' => e = .returned (.int .i64 ((k + rs.length * 8 : Nat) : Int)) ∧ LOl b w' v (mkOls k rs.length) ∧ Keep b w w' := by
  have hlen := h.len
  obtain ⟨a, cap, rfl⟩ := h.val
  rcases Nat.eq_zero_or_pos rs.length with h0 | h0
  · have hnil : rs = [] := List.eq_nil_of_length_eq_zero h0
    subst hnil
    clear h
    go_enter Try.func24, Try.ntmps24
    go_wp2
    go_loopw [1, 5] (fun q i wr => q = .int .i64 (k : Int) ∧ i = .int .i64 0 ∧ wr = w) (fun _ _ _ => 0)
    case atStart => exact ⟨rfl, rfl, rfl⟩
    case round =>
      obtain ⟨rfl, rfl, rfl⟩ := hrel
      go_wp2
      go_ret
      exact ⟨rfl, ⟨⟨_, _, rfl, fun h => absurd rfl h⟩, by simp [mkOls], mkOls_sizes⟩, Keep.refl _ _⟩
  · obtain ⟨a', cap', e, hc⟩ := h.shape
    simp only [Value.slice.injEq, true_and] at e
    obtain ⟨rfl, rfl⟩ := e
    obtain ⟨rfl, m, f, hR, hm, _⟩ := hc (by intro g; rw [g] at h0; simp at h0)
    have HR : Hid (w.rowIs b 26 m f) := hR
    clear h hR hc
    go_enter Try.func24, Try.ntmps24
    go_wp2
    go_loopw [1, 5] (fun q i wr => ∃ (j : Nat) (f : Nat → Value), q = .int .i64 ((k + j * 8 : Nat) : Int) ∧ i = .int .i64 (j : Int) ∧ j ≤ rs.length ∧ wr.rowIs b 26 m f ∧ (∀ i, i < j → f (i * 8) = .string (mtB (k + i * 8)) ∧ f (i * 8 + 1) = .string (mtB (k + i * 8 + 1)) ∧ f (i * 8 + 2) = .int .i64 (((k + i * 8 + 2 : Nat) : Int)) ∧ f (i * 8 + 3) = .string (mtB (k + i * 8 + 3)) ∧ f (i * 8 + 4) = .int .i64 (((k + i * 8 + 4 : Nat) : Int)) ∧ f (i * 8 + 5) = .int .i64 (((k + i * 8 + 5 : Nat) : Int)) ∧ f (i * 8 + 6) = .int .i64 (((k + i * 8 + 6 : Nat) : Int)) ∧ f (i * 8 + 7) = .int .i64 (((k + i * 8 + 7 : Nat) : Int))) ∧ Keep b w wr) (fun _ i _ => rs.length - (intOf i).toNat)
    case atStart => exact ⟨0, f, by simp, rfl, by omega, HR.out, fun i hi => by omega, Keep.refl _ _⟩
    case round =>
      obtain ⟨j, f, rfl, rfl, hj, hR, hA, hK⟩ := hrel
      have HS : Hid (wr.rowIs b 26 m f ∧ (∀ i, i < j → f (i * 8) = .string (mtB (k + i * 8)) ∧ f (i * 8 + 1) = .string (mtB (k + i * 8 + 1)) ∧ f (i * 8 + 2) = .int .i64 (((k + i * 8 + 2 : Nat) : Int)) ∧ f (i * 8 + 3) = .string (mtB (k + i * 8 + 3)) ∧ f (i * 8 + 4) = .int .i64 (((k + i * 8 + 4 : Nat) : Int)) ∧ f (i * 8 + 5) = .int .i64 (((k + i * 8 + 5 : Nat) : Int)) ∧ f (i * 8 + 6) = .int .i64 (((k + i * 8 + 6 : Nat) : Int)) ∧ f (i * 8 + 7) = .int .i64 (((k + i * 8 + 7 : Nat) : Int))) ∧ Keep b w wr) := ⟨hR, hA, hK⟩
      clear hR hA hK
      by_cases hlt : j < rs.length
      · have hlt' : (j : Int) < (rs.length : Int) := by omega
        go_wp2_with fail
        refine (markText_b _ (k + j * 8) (by omega) _ (by omega) (by omega)).mono ?_
        rintro e wa ⟨rfl, hba⟩
        have Ra := HS.out.1.of_block (hba.block b HS.out.1.lt)
        have fa := Ra.frozen
        have ca := Ra.cell (i := j * 8) (by omega)
        have HA : Hid ((wa.setCell ⟨b, j * 8, none⟩ (.string (mtB (k + j * 8)))).rowIs b 26 m _ ∧ Keep b w (wa.setCell ⟨b, j * 8, none⟩ (.string (mtB (k + j * 8))))) := ⟨Ra.set (j * 8) (.string (mtB (k + j * 8))), (HS.out.2.2.trans (Keep.of_below hba)).setCell _ _⟩
        clear hba Ra
        go_wp2_with fail
        refine (markText_b _ (k + j * 8 + 1) (by omega) _ (by omega) (by omega)).mono ?_
        rintro e wb ⟨rfl, hbb⟩
        have Rb := HA.out.1.of_block (hbb.block b HA.out.1.lt)
        have fb := Rb.frozen
        have cb1 := Rb.cell (i := j * 8 + 1) (by omega)
        have cb2 := Rb.cell (i := j * 8 + 2) (by omega)
        have HB : Hid (((wb.setCell ⟨b, j * 8 + 1, none⟩ (.string (mtB (k + j * 8 + 1)))).setCell ⟨b, j * 8 + 2, none⟩ (.int .i64 (((k + j * 8 : Nat) : Int) + 1 + 1))).rowIs b 26 m _ ∧ Keep b w ((wb.setCell ⟨b, j * 8 + 1, none⟩ (.string (mtB (k + j * 8 + 1)))).setCell ⟨b, j * 8 + 2, none⟩ (.int .i64 (((k + j * 8 : Nat) : Int) + 1 + 1)))) := ⟨(Rb.set (j * 8 + 1) (.string (mtB (k + j * 8 + 1)))).set (j * 8 + 2) (.int .i64 (((k + j * 8 : Nat) : Int) + 1 + 1)), ((HA.out.2.trans (Keep.of_below hbb)).setCell _ _).setCell _ _⟩
        clear hbb Rb ca fa
        go_wp2_with fail
        refine (markText_b _ (k + j * 8 + 3) (by omega) _ (by omega) (by omega)).mono ?_
        rintro e wc ⟨rfl, hbc⟩
        have Rc := HB.out.1.of_block (hbc.block b HB.out.1.lt)
        have fc := Rc.frozen
        have cc3 := Rc.cell (i := j * 8 + 3) (by omega)
        have cc4 := Rc.cell (i := j * 8 + 4) (by omega)
        have cc5 := Rc.cell (i := j * 8 + 5) (by omega)
        have cc6 := Rc.cell (i := j * 8 + 6) (by omega)
        have cc7 := Rc.cell (i := j * 8 + 7) (by omega)
        have HC : Hid ((((((wc.setCell ⟨b, j * 8 + 3, none⟩ (.string (mtB (k + j * 8 + 3)))).setCell ⟨b, j * 8 + 4, none⟩ (.int .i64 (((k + j * 8 : Nat) : Int) + 1 + 1 + 1 + 1))).setCell ⟨b, j * 8 + 5, none⟩ (.int .i64 (((k + j * 8 : Nat) : Int) + 1 + 1 + 1 + 1 + 1))).setCell ⟨b, j * 8 + 6, none⟩ (.int .i64 (((k + j * 8 : Nat) : Int) + 1 + 1 + 1 + 1 + 1 + 1))).setCell ⟨b, j * 8 + 7, none⟩ (.int .i64 (((k + j * 8 : Nat) : Int) + 1 + 1 + 1 + 1 + 1 + 1 + 1))).rowIs b 26 m _ ∧ Keep b w (((((wc.setCell ⟨b, j * 8 + 3, none⟩ (.string (mtB (k + j * 8 + 3)))).setCell ⟨b, j * 8 + 4, none⟩ (.int .i64 (((k + j * 8 : Nat) : Int) + 1 + 1 + 1 + 1))).setCell ⟨b, j * 8 + 5, none⟩ (.int .i64 (((k + j * 8 : Nat) : Int) + 1 + 1 + 1 + 1 + 1))).setCell ⟨b, j * 8 + 6, none⟩ (.int .i64 (((k + j * 8 : Nat) : Int) + 1 + 1 + 1 + 1 + 1 + 1))).setCell ⟨b, j * 8 + 7, none⟩ (.int .i64 (((k + j * 8 : Nat) : Int) + 1 + 1 + 1 + 1 + 1 + 1 + 1)))) := ⟨(((((Rc.set (j * 8 + 3) (.string (mtB (k + j * 8 + 3)))).set (j * 8 + 4) (.int .i64 (((k + j * 8 : Nat) : Int) + 1 + 1 + 1 + 1))).set (j * 8 + 5) (.int .i64 (((k + j * 8 : Nat) : Int) + 1 + 1 + 1 + 1 + 1))).set (j * 8 + 6) (.int .i64 (((k + j * 8 : Nat) : Int) + 1 + 1 + 1 + 1 + 1 + 1))).set (j * 8 + 7) (.int .i64 (((k + j * 8 : Nat) : Int) + 1 + 1 + 1 + 1 + 1 + 1 + 1))), ((((((HB.out.2.trans (Keep.of_below hbc)).setCell _ _).setCell _ _).setCell _ _).setCell _ _).setCell _ _)⟩
        clear hbc Rc cb1 cb2 fb
        go_wp2
        go_roundw
        case rel =>
          refine ⟨j + 1, _, by go_num, by go_num, by omega, HC.out.1, fun i hi => ?_, HC.out.2⟩
          by_cases e1 : i = j
          · subst e1
            refine ⟨?_, ?_, ?_, ?_, ?_, ?_, ?_, ?_⟩
            · rw [if_neg (by omega), if_neg (by omega), if_neg (by omega), if_neg (by omega), if_neg (by omega), if_neg (by omega), if_neg (by omega), if_pos rfl]
            · rw [if_neg (by omega), if_neg (by omega), if_neg (by omega), if_neg (by omega), if_neg (by omega), if_neg (by omega), if_pos rfl]
            · rw [if_neg (by omega), if_neg (by omega), if_neg (by omega), if_neg (by omega), if_neg (by omega), if_pos rfl]
              first | rfl | (congr 1; omega)
            · rw [if_neg (by omega), if_neg (by omega), if_neg (by omega), if_neg (by omega), if_pos rfl]
            · rw [if_neg (by omega), if_neg (by omega), if_neg (by omega), if_pos rfl]
              first | rfl | (congr 1; omega)
            · rw [if_neg (by omega), if_neg (by omega), if_pos rfl]
              first | rfl | (congr 1; omega)
            · rw [if_neg (by omega), if_pos rfl]
              first | rfl | (congr 1; omega)
            · rw [if_pos rfl]
              first | rfl | (congr 1; omega)
          · obtain ⟨r0, r1, r2, r3, r4, r5, r6, r7⟩ := HS.out.2.1 i (by omega)
            refine ⟨?_, ?_, ?_, ?_, ?_, ?_, ?_, ?_⟩
            all_goals rw [if_neg (by omega), if_neg (by omega), if_neg (by omega), if_neg (by omega), if_neg (by omega), if_neg (by omega), if_neg (by omega), if_neg (by omega)]
            all_goals assumption
        case measure => simp [intOf]; omega
      · obtain rfl : j = rs.length := by omega
        go_wp2
        go_ret
        refine ⟨rfl, ⟨⟨_, _, by rw [mkOls_len], fun _ => ⟨rfl, m, f, HS.out.1, by rw [mkOls_len]; exact hm, fun i g hi => ?_⟩⟩, by rw [mkOls_len]; exact hlen, mkOls_sizes⟩, HS.out.2.2⟩
        obtain ⟨hi', rfl⟩ := mkOls_at hi
        exact HS.out.2.1 i hi'
end Go.Proofs.Ytnaidbpkllmeoaa
