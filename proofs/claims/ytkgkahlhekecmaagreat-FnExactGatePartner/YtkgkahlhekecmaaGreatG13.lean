/- Texts of ours put together: MaOu, MkGb, MaGt, MkSn, MkPts. -/
import Derived.Test.YtkgkahlhekecmaaGreatG10
import Derived.Test.YtkgkahlhekecmaaGreatG01
import Derived.Deep.RegionHeld3
import Derived.Deep.QuietTactic
import Derived.BigQuiet
import Derived.BigRegion
import Derived.Test.YtkgkahlhekecmaaGreatG11
import Derived.Test.YtkgkahlhekecmaaGreatG12
namespace Go.Proofs.YtkgkahlhekecmaaGreat
open Go.ChangeShapes Go.WideShapes Go.ChangeAt Go.RowKit
/-- What the marks make of it. -/
def mkOu (k i : Nat) : OutR := ⟨mtB (k + i * 5), ((k + i * 5 + 1 : Nat) : Int), mtB (k + i * 5 + 2), ((k + i * 5 + 3 : Nat) : Int), ((k + i * 5 + 4 : Nat) : Int)⟩
def mkOus (k n : Nat) : List OutR := (List.range n).map (mkOu k)
theorem mkOus_len (k n : Nat) : (mkOus k n).length = n := by simp [mkOus]
theorem mkOus_at {k n i : Nat} {g : OutR} (h : (mkOus k n)[i]? = some g) : i < n ∧ g = mkOu k i := by
  have hi := (List.getElem?_eq_some_iff.1 h).1
  rw [mkOus_len] at hi
  refine ⟨hi, ?_⟩
  simpa [mkOus, hi] using h.symm
theorem mkOus_sizes {k n : Nat} : ∀ (i : Nat) (g : OutR), (mkOus k n)[i]? = some g → g.partner.size ≤ 9223372036854775807 ∧ g.text.size ≤ 9223372036854775807 := fun i g h => by
  obtain ⟨_, rfl⟩ := mkOus_at h
  have h0 := mtB_size (k + i * 5)
  have h2 := mtB_size (k + i * 5 + 2)
  simp only [mkOu]
  omega
set_option maxRecDepth 20000 in
set_option maxHeartbeats 8000000 in
theorem markOu_any (b : Nat) (v : Value) (rs : List OutR) (k : Nat) (w : World) (h : LOu b w v rs) (hk : 0 < k ∧ k + rs.length * 5 < 1000000000000) :
    Calls Tryz.prog 42 #[v, .int .i64 (k : Int)] w fun e w' => e = .returned (.int .i64 ((k + rs.length * 5 : Nat) : Int)) ∧ LOu b w' v (mkOus k rs.length) ∧ Keep b w w' := by
  have hlen := h.len
  obtain ⟨a, cap, rfl⟩ := h.val
  rcases Nat.eq_zero_or_pos rs.length with h0 | h0
  · have hnil : rs = [] := List.eq_nil_of_length_eq_zero h0
    subst hnil
    clear h
    go_enter Tryz.func42, Tryz.ntmps42
    go_wp2
    go_loopw [1, 5] (fun q i wr => q = .int .i64 (k : Int) ∧ i = .int .i64 0 ∧ wr = w) (fun _ _ _ => 0)
    case atStart => exact ⟨rfl, rfl, rfl⟩
    case round =>
      obtain ⟨rfl, rfl, rfl⟩ := hrel
      go_wp2
      go_ret
      exact ⟨rfl, ⟨⟨_, _, rfl, fun h => absurd rfl h⟩, by simp [mkOus], mkOus_sizes⟩, Keep.refl _ _⟩
  · obtain ⟨a', cap', e, hc⟩ := h.shape
    simp only [Value.slice.injEq, true_and] at e
    obtain ⟨rfl, rfl⟩ := e
    obtain ⟨rfl, m, f, hR, hm, _⟩ := hc (by intro g; rw [g] at h0; simp at h0)
    have HR : Hid (w.rowIs b 112 m f) := hR
    clear h hR hc
    go_enter Tryz.func42, Tryz.ntmps42
    go_wp2
    go_loopw [1, 5] (fun q i wr => ∃ (j : Nat) (f : Nat → Value), q = .int .i64 ((k + j * 5 : Nat) : Int) ∧ i = .int .i64 (j : Int) ∧ j ≤ rs.length ∧ wr.rowIs b 112 m f ∧ (∀ i, i < j → f (i * 5) = .string (mtB (k + i * 5)) ∧ f (i * 5 + 1) = .int .i64 (((k + i * 5 + 1 : Nat) : Int)) ∧ f (i * 5 + 2) = .string (mtB (k + i * 5 + 2)) ∧ f (i * 5 + 3) = .int .i64 (((k + i * 5 + 3 : Nat) : Int)) ∧ f (i * 5 + 4) = .int .i64 (((k + i * 5 + 4 : Nat) : Int))) ∧ Keep b w wr) (fun _ i _ => rs.length - (intOf i).toNat)
    case atStart => exact ⟨0, f, by simp, rfl, by omega, HR.out, fun i hi => by omega, Keep.refl _ _⟩
    case round =>
      obtain ⟨j, f, rfl, rfl, hj, hR, hA, hK⟩ := hrel
      have HS : Hid (wr.rowIs b 112 m f ∧ (∀ i, i < j → f (i * 5) = .string (mtB (k + i * 5)) ∧ f (i * 5 + 1) = .int .i64 (((k + i * 5 + 1 : Nat) : Int)) ∧ f (i * 5 + 2) = .string (mtB (k + i * 5 + 2)) ∧ f (i * 5 + 3) = .int .i64 (((k + i * 5 + 3 : Nat) : Int)) ∧ f (i * 5 + 4) = .int .i64 (((k + i * 5 + 4 : Nat) : Int))) ∧ Keep b w wr) := ⟨hR, hA, hK⟩
      clear hR hA hK
      by_cases hlt : j < rs.length
      · have hlt' : (j : Int) < (rs.length : Int) := by omega
        go_wp2_with fail
        refine (markText_b _ (k + j * 5) (by omega) _ (by omega) (by omega)).mono ?_
        rintro e wa ⟨rfl, hba⟩
        have Ra := HS.out.1.of_block (hba.block b HS.out.1.lt)
        have fa := Ra.frozen
        have ca0 := Ra.cell (i := j * 5) (by omega)
        have ca1 := Ra.cell (i := j * 5 + 1) (by omega)
        have Ha : Hid (((wa.setCell ⟨b, j * 5, none⟩ (.string (mtB (k + j * 5)))).setCell ⟨b, j * 5 + 1, none⟩ (.int .i64 (((k + j * 5 : Nat) : Int) + 1))).rowIs b 112 m _ ∧ Keep b w ((wa.setCell ⟨b, j * 5, none⟩ (.string (mtB (k + j * 5)))).setCell ⟨b, j * 5 + 1, none⟩ (.int .i64 (((k + j * 5 : Nat) : Int) + 1)))) := ⟨((Ra.set (j * 5) (.string (mtB (k + j * 5)))).set (j * 5 + 1) (.int .i64 (((k + j * 5 : Nat) : Int) + 1))), (((HS.out.2.2.trans (Keep.of_below hba)).setCell _ _).setCell _ _)⟩
        clear hba Ra
        go_wp2_with fail
        refine (markText_b _ (k + j * 5 + 2) (by omega) _ (by omega) (by omega)).mono ?_
        rintro e wb ⟨rfl, hbb⟩
        have Rb := Ha.out.1.of_block (hbb.block b Ha.out.1.lt)
        have fb := Rb.frozen
        have cb2 := Rb.cell (i := j * 5 + 2) (by omega)
        have cb3 := Rb.cell (i := j * 5 + 3) (by omega)
        have cb4 := Rb.cell (i := j * 5 + 4) (by omega)
        have Hb : Hid ((((wb.setCell ⟨b, j * 5 + 2, none⟩ (.string (mtB (k + j * 5 + 2)))).setCell ⟨b, j * 5 + 3, none⟩ (.int .i64 (((k + j * 5 : Nat) : Int) + 1 + 1 + 1))).setCell ⟨b, j * 5 + 4, none⟩ (.int .i64 (((k + j * 5 : Nat) : Int) + 1 + 1 + 1 + 1))).rowIs b 112 m _ ∧ Keep b w (((wb.setCell ⟨b, j * 5 + 2, none⟩ (.string (mtB (k + j * 5 + 2)))).setCell ⟨b, j * 5 + 3, none⟩ (.int .i64 (((k + j * 5 : Nat) : Int) + 1 + 1 + 1))).setCell ⟨b, j * 5 + 4, none⟩ (.int .i64 (((k + j * 5 : Nat) : Int) + 1 + 1 + 1 + 1)))) := ⟨(((Rb.set (j * 5 + 2) (.string (mtB (k + j * 5 + 2)))).set (j * 5 + 3) (.int .i64 (((k + j * 5 : Nat) : Int) + 1 + 1 + 1))).set (j * 5 + 4) (.int .i64 (((k + j * 5 : Nat) : Int) + 1 + 1 + 1 + 1))), ((((Ha.out.2.trans (Keep.of_below hbb)).setCell _ _).setCell _ _).setCell _ _)⟩
        clear hbb Rb fa ca0 ca1
        go_wp2
        go_roundw
        case rel =>
          refine ⟨j + 1, _, by go_num, by go_num, by omega, Hb.out.1, fun i hi => ?_, Hb.out.2⟩
          by_cases e1 : i = j
          · subst e1
            refine ⟨?_, ?_, ?_, ?_, ?_⟩
            · rw [if_neg (by omega), if_neg (by omega), if_neg (by omega), if_neg (by omega), if_pos rfl]
            · rw [if_neg (by omega), if_neg (by omega), if_neg (by omega), if_pos rfl]
              first | rfl | (congr 1; omega)
            · rw [if_neg (by omega), if_neg (by omega), if_pos rfl]
            · rw [if_neg (by omega), if_pos rfl]
              first | rfl | (congr 1; omega)
            · rw [if_pos rfl]
              first | rfl | (congr 1; omega)
          · obtain ⟨r0, r1, r2, r3, r4⟩ := HS.out.2.1 i (by omega)
            refine ⟨?_, ?_, ?_, ?_, ?_⟩
            all_goals rw [if_neg (by omega), if_neg (by omega), if_neg (by omega), if_neg (by omega), if_neg (by omega)]
            all_goals assumption
        case measure => simp [intOf]; omega
      · obtain rfl : j = rs.length := by omega
        go_wp2
        go_ret
        refine ⟨rfl, ⟨⟨_, _, by rw [mkOus_len], fun _ => ⟨rfl, m, f, HS.out.1, by rw [mkOus_len]; exact hm, fun i g hi => ?_⟩⟩, by rw [mkOus_len]; exact hlen, mkOus_sizes⟩, HS.out.2.2⟩
        obtain ⟨hi', rfl⟩ := mkOus_at hi
        exact HS.out.2.1 i hi'
end Go.Proofs.YtkgkahlhekecmaaGreat
namespace Go.Proofs.YtkgkahlhekecmaaGreat
open Go.ChangeShapes Go.WideShapes Go.ChangeAt Go.RowKit
theorem markCs_nil (a : Option Addr) (c : Nat) (k : Int) (w : World) : Calls Tryz.prog 39 #[.slice a 0 c, .int .i64 k] w fun e w' => e = .returned (.int .i64 k) ∧ w' = w := by
  go_enter Tryz.func39, Tryz.ntmps39
  go_wp2
  go_loopw [1, 5] (fun q i wr => q = .int .i64 k ∧ i = .int .i64 0 ∧ wr = w) (fun _ _ _ => 0)
  case atStart => exact ⟨rfl, rfl, rfl⟩
  case round =>
    obtain ⟨rfl, rfl, rfl⟩ := hrel
    go_wp2
    go_ret
    exact ⟨rfl, rfl⟩
theorem markCs_k (b : Nat) (v : Value) (rs : List Crs) (k : Nat) (w : World) (h : LCs b w v rs) (hk : 0 < k ∧ k + rs.length * 3 < 1000000000000) :
    Calls Tryz.prog 39 #[v, .int .i64 (k : Int)] w fun e w' => e = .returned (.int .i64 ((k + rs.length * 3 : Nat) : Int)) ∧ LCs b w' v (mkCss k rs.length) ∧ KeepP (fun j => j = b ∧ rs ≠ []) w w' := by
  by_cases hn : rs = []
  · subst hn
    obtain ⟨a, c, rfl⟩ := h.val
    exact (markCs_nil a c k w).mono fun _ _ ⟨h1, h2⟩ => ⟨by rw [h1]; rfl, by rw [h2]; exact h, by rw [h2]; exact KeepP.of_below (Below.refl _ _)⟩
  · exact (markCs_any b v rs k w h hk).mono fun _ _ ⟨h1, h2, h3⟩ => ⟨h1, h2, keepP_of_keep h3 ⟨rfl, hn⟩⟩
theorem LCs.typ {b : Nat} {W : World} {v : Value} {rs : List Crs} (h : LCs b W v rs) {t : Nat} (ht : 106 ≠ t) : ∀ k, (k = b ∧ rs ≠ []) → ∀ m f, ¬ W.rowIs k t m f := fun k ⟨hk, hn⟩ m f hR => by
  subst hk
  obtain ⟨a, cap, e, hc⟩ := h.shape
  obtain ⟨_, m', f', hR', _⟩ := hc hn
  exact rowIs_ne hR' hR ht rfl
theorem LCs.kp {b : Nat} {W W' : World} {v : Value} {rs : List Crs} {S : Nat → Prop} (h : LCs b W v rs) (hk : KeepP S W W') (hS : ∀ k, S k → ∀ m f, ¬ W.rowIs k 106 m f) : LCs b W' v rs := h.of_block fun hn => hk.block b (h.lt hn) fun hs => by
  obtain ⟨a, cap, e, hc⟩ := h.shape
  obtain ⟨_, m', f', hR', _⟩ := hc hn
  exact hS b hs _ _ hR'
theorem markSt_nil (a : Option Addr) (c : Nat) (k : Int) (w : World) : Calls Tryz.prog 81 #[.slice a 0 c, .int .i64 k] w fun e w' => e = .returned (.int .i64 k) ∧ w' = w := by
  go_enter Tryz.func81, Tryz.ntmps81
  go_wp2
  go_loopw [1, 5] (fun q i wr => q = .int .i64 k ∧ i = .int .i64 0 ∧ wr = w) (fun _ _ _ => 0)
  case atStart => exact ⟨rfl, rfl, rfl⟩
  case round =>
    obtain ⟨rfl, rfl, rfl⟩ := hrel
    go_wp2
    go_ret
    exact ⟨rfl, rfl⟩
theorem markSt_k (b : Nat) (v : Value) (rs : List Stk) (k : Nat) (w : World) (h : LSt b w v rs) (hk : 0 < k ∧ k + rs.length * 2 < 1000000000000) :
    Calls Tryz.prog 81 #[v, .int .i64 (k : Int)] w fun e w' => e = .returned (.int .i64 ((k + rs.length * 2 : Nat) : Int)) ∧ LSt b w' v (mkSts k rs.length) ∧ KeepP (fun j => j = b ∧ rs ≠ []) w w' := by
  by_cases hn : rs = []
  · subst hn
    obtain ⟨a, c, rfl⟩ := h.val
    exact (markSt_nil a c k w).mono fun _ _ ⟨h1, h2⟩ => ⟨by rw [h1]; rfl, by rw [h2]; exact h, by rw [h2]; exact KeepP.of_below (Below.refl _ _)⟩
  · exact (markSt_any b v rs k w h hk).mono fun _ _ ⟨h1, h2, h3⟩ => ⟨h1, h2, keepP_of_keep h3 ⟨rfl, hn⟩⟩
theorem LSt.typ {b : Nat} {W : World} {v : Value} {rs : List Stk} (h : LSt b W v rs) {t : Nat} (ht : 145 ≠ t) : ∀ k, (k = b ∧ rs ≠ []) → ∀ m f, ¬ W.rowIs k t m f := fun k ⟨hk, hn⟩ m f hR => by
  subst hk
  obtain ⟨a, cap, e, hc⟩ := h.shape
  obtain ⟨_, m', f', hR', _⟩ := hc hn
  exact rowIs_ne hR' hR ht rfl
theorem LSt.kp {b : Nat} {W W' : World} {v : Value} {rs : List Stk} {S : Nat → Prop} (h : LSt b W v rs) (hk : KeepP S W W') (hS : ∀ k, S k → ∀ m f, ¬ W.rowIs k 145 m f) : LSt b W' v rs := h.of_block fun hn => hk.block b (h.lt hn) fun hs => by
  obtain ⟨a, cap, e, hc⟩ := h.shape
  obtain ⟨_, m', f', hR', _⟩ := hc hn
  exact hS b hs _ _ hR'
theorem markOl_nil (a : Option Addr) (c : Nat) (k : Int) (w : World) : Calls Tryz.prog 82 #[.slice a 0 c, .int .i64 k] w fun e w' => e = .returned (.int .i64 k) ∧ w' = w := by
  go_enter Tryz.func82, Tryz.ntmps82
  go_wp2
  go_loopw [1, 5] (fun q i wr => q = .int .i64 k ∧ i = .int .i64 0 ∧ wr = w) (fun _ _ _ => 0)
  case atStart => exact ⟨rfl, rfl, rfl⟩
  case round =>
    obtain ⟨rfl, rfl, rfl⟩ := hrel
    go_wp2
    go_ret
    exact ⟨rfl, rfl⟩
theorem markOl_k (b : Nat) (v : Value) (rs : List OLn) (k : Nat) (w : World) (h : LOl b w v rs) (hk : 0 < k ∧ k + rs.length * 8 < 1000000000000) :
    Calls Tryz.prog 82 #[v, .int .i64 (k : Int)] w fun e w' => e = .returned (.int .i64 ((k + rs.length * 8 : Nat) : Int)) ∧ LOl b w' v (mkOls k rs.length) ∧ KeepP (fun j => j = b ∧ rs ≠ []) w w' := by
  by_cases hn : rs = []
  · subst hn
    obtain ⟨a, c, rfl⟩ := h.val
    exact (markOl_nil a c k w).mono fun _ _ ⟨h1, h2⟩ => ⟨by rw [h1]; rfl, by rw [h2]; exact h, by rw [h2]; exact KeepP.of_below (Below.refl _ _)⟩
  · exact (markOl_any b v rs k w h hk).mono fun _ _ ⟨h1, h2, h3⟩ => ⟨h1, h2, keepP_of_keep h3 ⟨rfl, hn⟩⟩
theorem LOl.typ {b : Nat} {W : World} {v : Value} {rs : List OLn} (h : LOl b W v rs) {t : Nat} (ht : 151 ≠ t) : ∀ k, (k = b ∧ rs ≠ []) → ∀ m f, ¬ W.rowIs k t m f := fun k ⟨hk, hn⟩ m f hR => by
  subst hk
  obtain ⟨a, cap, e, hc⟩ := h.shape
  obtain ⟨_, m', f', hR', _⟩ := hc hn
  exact rowIs_ne hR' hR ht rfl
theorem LOl.kp {b : Nat} {W W' : World} {v : Value} {rs : List OLn} {S : Nat → Prop} (h : LOl b W v rs) (hk : KeepP S W W') (hS : ∀ k, S k → ∀ m f, ¬ W.rowIs k 151 m f) : LOl b W' v rs := h.of_block fun hn => hk.block b (h.lt hn) fun hs => by
  obtain ⟨a, cap, e, hc⟩ := h.shape
  obtain ⟨_, m', f', hR', _⟩ := hc hn
  exact hS b hs _ _ hR'
theorem markDf_nil (a : Option Addr) (c : Nat) (k : Int) (w : World) : Calls Tryz.prog 41 #[.slice a 0 c, .int .i64 k] w fun e w' => e = .returned (.int .i64 k) ∧ w' = w := by
  go_enter Tryz.func41, Tryz.ntmps41
  go_wp2
  go_loopw [1, 5] (fun q i wr => q = .int .i64 k ∧ i = .int .i64 0 ∧ wr = w) (fun _ _ _ => 0)
  case atStart => exact ⟨rfl, rfl, rfl⟩
  case round =>
    obtain ⟨rfl, rfl, rfl⟩ := hrel
    go_wp2
    go_ret
    exact ⟨rfl, rfl⟩
theorem markDf_k (b : Nat) (v : Value) (rs : List Dff) (k : Nat) (w : World) (h : LDf b w v rs) (hk : 0 < k ∧ k + rs.length * 6 < 1000000000000) :
    Calls Tryz.prog 41 #[v, .int .i64 (k : Int)] w fun e w' => e = .returned (.int .i64 ((k + rs.length * 6 : Nat) : Int)) ∧ LDf b w' v (mkDfs k rs.length) ∧ KeepP (fun j => j = b ∧ rs ≠ []) w w' := by
  by_cases hn : rs = []
  · subst hn
    obtain ⟨a, c, rfl⟩ := h.val
    exact (markDf_nil a c k w).mono fun _ _ ⟨h1, h2⟩ => ⟨by rw [h1]; rfl, by rw [h2]; exact h, by rw [h2]; exact KeepP.of_below (Below.refl _ _)⟩
  · exact (markDf_any b v rs k w h hk).mono fun _ _ ⟨h1, h2, h3⟩ => ⟨h1, h2, keepP_of_keep h3 ⟨rfl, hn⟩⟩
theorem LDf.typ {b : Nat} {W : World} {v : Value} {rs : List Dff} (h : LDf b W v rs) {t : Nat} (ht : 110 ≠ t) : ∀ k, (k = b ∧ rs ≠ []) → ∀ m f, ¬ W.rowIs k t m f := fun k ⟨hk, hn⟩ m f hR => by
  subst hk
  obtain ⟨a, cap, e, hc⟩ := h.shape
  obtain ⟨_, m', f', hR', _⟩ := hc hn
  exact rowIs_ne hR' hR ht rfl
theorem LDf.kp {b : Nat} {W W' : World} {v : Value} {rs : List Dff} {S : Nat → Prop} (h : LDf b W v rs) (hk : KeepP S W W') (hS : ∀ k, S k → ∀ m f, ¬ W.rowIs k 110 m f) : LDf b W' v rs := h.of_block fun hn => hk.block b (h.lt hn) fun hs => by
  obtain ⟨a, cap, e, hc⟩ := h.shape
  obtain ⟨_, m', f', hR', _⟩ := hc hn
  exact hS b hs _ _ hR'
theorem markOu_nil (a : Option Addr) (c : Nat) (k : Int) (w : World) : Calls Tryz.prog 42 #[.slice a 0 c, .int .i64 k] w fun e w' => e = .returned (.int .i64 k) ∧ w' = w := by
  go_enter Tryz.func42, Tryz.ntmps42
  go_wp2
  go_loopw [1, 5] (fun q i wr => q = .int .i64 k ∧ i = .int .i64 0 ∧ wr = w) (fun _ _ _ => 0)
  case atStart => exact ⟨rfl, rfl, rfl⟩
  case round =>
    obtain ⟨rfl, rfl, rfl⟩ := hrel
    go_wp2
    go_ret
    exact ⟨rfl, rfl⟩
theorem markOu_k (b : Nat) (v : Value) (rs : List OutR) (k : Nat) (w : World) (h : LOu b w v rs) (hk : 0 < k ∧ k + rs.length * 5 < 1000000000000) :
    Calls Tryz.prog 42 #[v, .int .i64 (k : Int)] w fun e w' => e = .returned (.int .i64 ((k + rs.length * 5 : Nat) : Int)) ∧ LOu b w' v (mkOus k rs.length) ∧ KeepP (fun j => j = b ∧ rs ≠ []) w w' := by
  by_cases hn : rs = []
  · subst hn
    obtain ⟨a, c, rfl⟩ := h.val
    exact (markOu_nil a c k w).mono fun _ _ ⟨h1, h2⟩ => ⟨by rw [h1]; rfl, by rw [h2]; exact h, by rw [h2]; exact KeepP.of_below (Below.refl _ _)⟩
  · exact (markOu_any b v rs k w h hk).mono fun _ _ ⟨h1, h2, h3⟩ => ⟨h1, h2, keepP_of_keep h3 ⟨rfl, hn⟩⟩
theorem LOu.typ {b : Nat} {W : World} {v : Value} {rs : List OutR} (h : LOu b W v rs) {t : Nat} (ht : 112 ≠ t) : ∀ k, (k = b ∧ rs ≠ []) → ∀ m f, ¬ W.rowIs k t m f := fun k ⟨hk, hn⟩ m f hR => by
  subst hk
  obtain ⟨a, cap, e, hc⟩ := h.shape
  obtain ⟨_, m', f', hR', _⟩ := hc hn
  exact rowIs_ne hR' hR ht rfl
theorem LOu.kp {b : Nat} {W W' : World} {v : Value} {rs : List OutR} {S : Nat → Prop} (h : LOu b W v rs) (hk : KeepP S W W') (hS : ∀ k, S k → ∀ m f, ¬ W.rowIs k 112 m f) : LOu b W' v rs := h.of_block fun hn => hk.block b (h.lt hn) fun hs => by
  obtain ⟨a, cap, e, hc⟩ := h.shape
  obtain ⟨_, m', f', hR', _⟩ := hc hn
  exact hS b hs _ _ hR'
theorem LPt.typ {W : World} {v : Value} {ps : List Ptn} {b : Nat} {f : Nat → Value} {β : Nat → Nat} (h : LPt W v ps b f β) {t : Nat} (h1 : 63 ≠ t) (h2 : 148 ≠ t) : ∀ k, blkP ps b β k → ∀ m f, ¬ W.rowIs k t m f := fun k hk m g hR => by
  rcases hk with ⟨rfl, hn⟩ | ⟨i, p, hi, hn, rfl⟩
  · obtain ⟨a, cap, e, hc⟩ := h.shape
    obtain ⟨_, m', g', hR', _⟩ := hc hn
    exact rowIs_ne hR' hR h1 rfl
  · obtain ⟨m', g', hR'⟩ := (h.sn i p hi).rowIs hn
    exact rowIs_ne hR' hR h2 rfl
theorem LPt.kp {W W' : World} {v : Value} {ps : List Ptn} {b : Nat} {f : Nat → Value} {β : Nat → Nat} {S : Nat → Prop} (h : LPt W v ps b f β) (hk : KeepP S W W') (hS : ∀ k, S k → ∀ m f, ¬ W.rowIs k 63 m f) (hT : ∀ k, S k → ∀ m f, ¬ W.rowIs k 148 m f) : LPt W' v ps b f β := h.of_blocks fun k hb => hk.block k (h.lt hb) fun hs => by
  rcases hb with ⟨rfl, hn⟩ | ⟨i, p, hi, hn, rfl⟩
  · obtain ⟨a, cap, e, hc⟩ := h.shape
    obtain ⟨_, m', g', hR', _⟩ := hc hn
    exact hS _ hs _ _ hR'
  · obtain ⟨m', g', hR'⟩ := (h.sn i p hi).rowIs hn
    exact hT _ hs _ _ hR'
/-- A gate whose memory may be marked. -/
structure LGt (W : World) (up uc us ul ud uo : Value) (g : Gat) (b : Nat) (f : Nat → Value) (β : Nat → Nat) (bc bs bl bd bo : Nat) : Prop where
  nm : g.name.size ≤ 9223372036854775807
  pt : LPt W up g.ptns b f β
  cs : LCs bc W uc g.crss
  st : LSt bs W us g.book.stocks
  ln : LOl bl W ul g.book.lines
  df : LDf bd W ud g.dffs
  ou : LOu bo W uo g.outs
def blkG (g : Gat) (b : Nat) (β : Nat → Nat) (bc bs bl bd bo : Nat) (k : Nat) : Prop := blkP g.ptns b β k ∨ (k = bc ∧ g.crss ≠ []) ∨ (k = bs ∧ g.book.stocks ≠ []) ∨ (k = bl ∧ g.book.lines ≠ []) ∨ (k = bd ∧ g.dffs ≠ []) ∨ (k = bo ∧ g.outs ≠ [])
theorem LGt.row {W : World} {up uc us ul ud uo : Value} {g : Gat} {b : Nat} {f : Nat → Value} {β : Nat → Nat} {bc bs bl bd bo : Nat} (h : LGt W up uc us ul ud uo g b f β bc bs bl bd bo) : RGt W up uc us ul ud uo g := ⟨h.nm, h.pt.row, h.cs.row, ⟨h.st.row, h.ln.row⟩, h.df.row, h.ou.row⟩
theorem LGt.lt {W : World} {up uc us ul ud uo : Value} {g : Gat} {b : Nat} {f : Nat → Value} {β : Nat → Nat} {bc bs bl bd bo : Nat} (h : LGt W up uc us ul ud uo g b f β bc bs bl bd bo) {k : Nat} (hk : blkG g b β bc bs bl bd bo k) : k < W.heap.size := by
  rcases hk with hk | ⟨rfl, hn⟩ | ⟨rfl, hn⟩ | ⟨rfl, hn⟩ | ⟨rfl, hn⟩ | ⟨rfl, hn⟩
  · exact h.pt.lt hk
  · exact h.cs.lt hn
  · exact h.st.lt hn
  · exact h.ln.lt hn
  · exact h.df.lt hn
  · exact h.ou.lt hn
theorem LGt.below {W W' : World} {up uc us ul ud uo : Value} {g : Gat} {b : Nat} {f : Nat → Value} {β : Nat → Nat} {bc bs bl bd bo : Nat} (h : LGt W up uc us ul ud uo g b f β bc bs bl bd bo) (hb : Below W.heap.size W W') : LGt W' up uc us ul ud uo g b f β bc bs bl bd bo := ⟨h.nm, h.pt.below hb, h.cs.below hb, h.st.below hb, h.ln.below hb, h.df.below hb, h.ou.below hb⟩
theorem LGt.of_blocks {W W' : World} {up uc us ul ud uo : Value} {g : Gat} {b : Nat} {f : Nat → Value} {β : Nat → Nat} {bc bs bl bd bo : Nat} (h : LGt W up uc us ul ud uo g b f β bc bs bl bd bo) (hb : ∀ k, blkG g b β bc bs bl bd bo k → W'.heap[k]? = W.heap[k]?) : LGt W' up uc us ul ud uo g b f β bc bs bl bd bo :=
  ⟨h.nm, h.pt.of_blocks fun k hk => hb k (.inl hk), h.cs.of_block fun hn => hb _ (.inr (.inl ⟨rfl, hn⟩)), h.st.of_block fun hn => hb _ (.inr (.inr (.inl ⟨rfl, hn⟩))), h.ln.of_block fun hn => hb _ (.inr (.inr (.inr (.inl ⟨rfl, hn⟩)))), h.df.of_block fun hn => hb _ (.inr (.inr (.inr (.inr (.inl ⟨rfl, hn⟩))))), h.ou.of_block fun hn => hb _ (.inr (.inr (.inr (.inr (.inr ⟨rfl, hn⟩)))))⟩
def cntG (g : Gat) : Nat := cntP g.ptns + g.crss.length * 3 + g.book.stocks.length * 2 + g.book.lines.length * 8 + g.dffs.length * 6 + g.outs.length * 5
def mkG (k : Nat) (g : Gat) : Gat := ⟨g.name, g.day, mkPts k g.ptns, mkCss (k + cntP g.ptns) g.crss.length, mkBk (k + cntP g.ptns + g.crss.length * 3) g.book, mkDfs (k + cntP g.ptns + g.crss.length * 3 + g.book.stocks.length * 2 + g.book.lines.length * 8) g.dffs.length, mkOus (k + cntP g.ptns + g.crss.length * 3 + g.book.stocks.length * 2 + g.book.lines.length * 8 + g.dffs.length * 6) g.outs.length⟩
set_option maxHeartbeats 4000000 in
theorem markBkG_any (bs bl : Nat) (us ul : Value) (b : Bk) (k : Nat) (w : World) (h1 : LSt bs w us b.stocks) (h2 : LOl bl w ul b.lines) (hk : 0 < k ∧ k + b.stocks.length * 2 + b.lines.length * 8 < 100000000000) :
    Calls Tryz.prog 40 #[.agg #[us, ul], .int .i64 (k : Int)] w fun e w' => e = .returned (.int .i64 ((k + b.stocks.length * 2 + b.lines.length * 8 : Nat) : Int)) ∧ LSt bs w' us (mkBk k b).stocks ∧ LOl bl w' ul (mkBk k b).lines ∧ KeepP (fun j => (j = bs ∧ b.stocks ≠ []) ∨ (j = bl ∧ b.lines ≠ [])) w w' := by
  obtain ⟨a2, c2, rfl⟩ := h1.val
  obtain ⟨a3, c3, rfl⟩ := h2.val
  obtain ⟨W0, hW0⟩ : ∃ W0, w.alloc (.cells #[.slice a2 b.stocks.length c2, .slice a3 b.lines.length c3] 38) = W0 := ⟨_, rfl⟩
  have hb0 : Below w.heap.size w W0 := by rw [← hW0]; exact (Below.refl _ _).alloc (Nat.le_refl _) _
  have hbx : W0.heap[w.heap.size]? = some (.cells #[.slice a2 b.stocks.length c2, .slice a3 b.lines.length c3] 38) := by rw [← hW0]; exact World.alloc_heap_new _ _
  have H0 : Hid (KeepP (fun j => (j = bs ∧ b.stocks ≠ []) ∨ (j = bl ∧ b.lines ≠ [])) w W0 ∧ LSt bs W0 (.slice a2 b.stocks.length c2) b.stocks ∧ LOl bl W0 (.slice a3 b.lines.length c3) b.lines ∧ W0.heap[w.heap.size]? = some (.cells #[.slice a2 b.stocks.length c2, .slice a3 b.lines.length c3] 38) ∧ (b.stocks ≠ [] → bs < w.heap.size)) := ⟨KeepP.of_below hb0, h1.below hb0, h2.below hb0, hbx, fun hn => h1.lt hn⟩
  clear h1 h2 hb0 hbx
  go_enter Tryz.func40, Tryz.ntmps40
  go_upto_region 1 with fail
  try rw [hW0]
  clear hW0
  obtain ⟨x0, x1⟩ := box2 H0.out.2.2.2.1
  go_wp2_with fail
  refine (markSt_k bs _ b.stocks k _ H0.out.2.1 ⟨by omega, by omega⟩).mono ?_
  rintro e w1 ⟨rfl, hL, hkp⟩
  have hbx1 := (hkp.block _ (Array.getElem?_eq_some_iff.1 H0.out.2.2.2.1).1 (fun hs => by have := H0.out.2.2.2.2 hs.2; omega)).trans H0.out.2.2.2.1
  have H1 : Hid (KeepP (fun j => (j = bs ∧ b.stocks ≠ []) ∨ (j = bl ∧ b.lines ≠ [])) w w1 ∧ LSt bs w1 (.slice a2 b.stocks.length c2) (mkSts k b.stocks.length) ∧ LOl bl w1 (.slice a3 b.lines.length c3) b.lines ∧ w1.heap[w.heap.size]? = some (.cells #[.slice a2 b.stocks.length c2, .slice a3 b.lines.length c3] 38)) := ⟨H0.out.1.trans (hkp.mono fun _ h => .inl h), hL, H0.out.2.2.1.kp hkp (H0.out.2.1.typ (by decide)), hbx1⟩
  clear hL hkp hbx1 x0 x1 H0
  obtain ⟨x0, x1⟩ := box2 H1.out.2.2.2
  obtain ⟨k2, hk2⟩ : ∃ k2, k2 = k + b.stocks.length * 2 := ⟨_, rfl⟩
  have HK2 : Hid (k2 = k + b.stocks.length * 2) := hk2
  have hk2' : 0 < k2 ∧ k2 + b.lines.length * 8 < 1000000000000 := by omega
  rw [← hk2]
  clear hk2
  go_wp2_with fail
  refine (markOl_k bl _ b.lines k2 _ H1.out.2.2.1 hk2').mono ?_
  rintro e w2 ⟨rfl, hL, hkp⟩
  have H2 : Hid (KeepP (fun j => (j = bs ∧ b.stocks ≠ []) ∨ (j = bl ∧ b.lines ≠ [])) w w2 ∧ LSt bs w2 (.slice a2 b.stocks.length c2) (mkSts k b.stocks.length) ∧ LOl bl w2 (.slice a3 b.lines.length c3) (mkOls k2 b.lines.length)) := ⟨H1.out.1.trans (hkp.mono fun _ h => .inr h), H1.out.2.1.kp hkp (H1.out.2.2.1.typ (by decide)), hL⟩
  clear hL hkp x0 x1 H1
  go_wp2
  go_ret
  have e2 := HK2.out
  subst e2
  exact ⟨rfl, H2.out.2.1, H2.out.2.2, H2.out.1⟩
end Go.Proofs.YtkgkahlhekecmaaGreat
namespace Go.Proofs.YtkgkahlhekecmaaGreat
open Go.ChangeShapes Go.WideShapes Go.ChangeAt Go.RowKit
set_option maxRecDepth 20000 in
set_option maxHeartbeats 8000000 in
theorem markGt_any (g : Gat) (up uc us ul ud uo : Value) (b : Nat) (f : Nat → Value) (β : Nat → Nat) (bc bs bl bd bo : Nat) (k : Nat) (w : World) (h : LGt w up uc us ul ud uo g b f β bc bs bl bd bo) (hk : 0 < k ∧ k + cntG g < 100000000000) :
    Calls Tryz.prog 10 #[.agg #[.string g.name, .int .i64 g.day, up, uc, us, ul, ud, uo], .int .i64 (k : Int)] w fun e w' => e = .returned (.int .i64 ((k + cntG g : Nat) : Int)) ∧ LGt w' up uc us ul ud uo (mkG k g) b f β bc bs bl bd bo ∧ KeepP (blkG g b β bc bs bl bd bo) w w' := by
  obtain ⟨a0, c0, a1, c1, a2, c2, a3, c3, a4, c4, a5, c5, rfl, rfl, rfl, rfl, rfl, rfl⟩ := h.row.val
  obtain ⟨W0, hW0⟩ : ∃ W0, w.alloc (.cells #[.string g.name, .int .i64 g.day, (.slice a0 g.ptns.length c0), (.slice a1 g.crss.length c1), (.slice a2 g.book.stocks.length c2), (.slice a3 g.book.lines.length c3), (.slice a4 g.dffs.length c4), (.slice a5 g.outs.length c5)] 42) = W0 := ⟨_, rfl⟩
  have hb0 : Below w.heap.size w W0 := by rw [← hW0]; exact (Below.refl _ _).alloc (Nat.le_refl _) _
  have hx0 : W0.heap[w.heap.size]? = some (.cells #[.string g.name, .int .i64 g.day, (.slice a0 g.ptns.length c0), (.slice a1 g.crss.length c1), (.slice a2 g.book.stocks.length c2), (.slice a3 g.book.lines.length c3), (.slice a4 g.dffs.length c4), (.slice a5 g.outs.length c5)] 42) := by rw [← hW0]; exact World.alloc_heap_new _ _
  have h0 := h.below hb0
  have H0 : Hid (KeepP (blkG g b β bc bs bl bd bo) w W0 ∧ W0.heap[w.heap.size]? = some (.cells #[.string g.name, .int .i64 g.day, (.slice a0 g.ptns.length c0), (.slice a1 g.crss.length c1), (.slice a2 g.book.stocks.length c2), (.slice a3 g.book.lines.length c3), (.slice a4 g.dffs.length c4), (.slice a5 g.outs.length c5)] 42) ∧ LPt W0 (.slice a0 g.ptns.length c0) g.ptns b f β ∧ LCs bc W0 (.slice a1 g.crss.length c1) g.crss ∧ LSt bs W0 (.slice a2 g.book.stocks.length c2) g.book.stocks ∧ LOl bl W0 (.slice a3 g.book.lines.length c3) g.book.lines ∧ LDf bd W0 (.slice a4 g.dffs.length c4) g.dffs ∧ LOu bo W0 (.slice a5 g.outs.length c5) g.outs) := ⟨KeepP.of_below hb0, hx0, h0.pt, h0.cs, h0.st, h0.ln, h0.df, h0.ou⟩
  have HN : Hid (¬ blkG g b β bc bs bl bd bo w.heap.size ∧ g.name.size ≤ 9223372036854775807) := ⟨fun hs => by have := h.lt hs; omega, h.nm⟩
  unfold cntG at hk
  obtain ⟨k1, hk1⟩ : ∃ k1, k1 = k + cntP g.ptns := ⟨_, rfl⟩
  obtain ⟨k2, hk2⟩ : ∃ k2, k2 = k1 + g.crss.length * 3 := ⟨_, rfl⟩
  obtain ⟨k3, hk3⟩ : ∃ k3, k3 = k2 + g.book.stocks.length * 2 + g.book.lines.length * 8 := ⟨_, rfl⟩
  obtain ⟨k4, hk4⟩ : ∃ k4, k4 = k3 + g.dffs.length * 6 := ⟨_, rfl⟩
  obtain ⟨k5, hk5⟩ : ∃ k5, k5 = k4 + g.outs.length * 5 := ⟨_, rfl⟩
  have hq1 : 0 < k ∧ k + cntP g.ptns < 1000000000000 := by omega
  have hq2 : 0 < k1 ∧ k1 + g.crss.length * 3 < 1000000000000 := by omega
  have hq3 : 0 < k2 ∧ k2 + g.book.stocks.length * 2 + g.book.lines.length * 8 < 100000000000 := by omega
  have hq4 : 0 < k3 ∧ k3 + g.dffs.length * 6 < 1000000000000 := by omega
  have hq5 : 0 < k4 ∧ k4 + g.outs.length * 5 < 1000000000000 := by omega
  have HQ : Hid (k1 = k + cntP g.ptns ∧ k2 = k1 + g.crss.length * 3 ∧ k3 = k2 + g.book.stocks.length * 2 + g.book.lines.length * 8 ∧ k4 = k3 + g.dffs.length * 6 ∧ k5 = k4 + g.outs.length * 5) := ⟨hk1, hk2, hk3, hk4, hk5⟩
  clear h hb0 hx0 h0 hk1 hk2 hk3 hk4 hk5 hk
  go_enter Tryz.func10, Tryz.ntmps10
  go_upto_region 1 with fail
  try rw [hW0]
  clear hW0
  obtain ⟨x0, x1, x2, x3, x4, x5, x6, x7⟩ := bx8 H0.out.2.1
  go_wp2_with fail
  refine (markPts_any _ g.ptns b f β k _ H0.out.2.2.1 hq1).mono ?_
  rintro e w1 ⟨rfl, hL, hkp⟩
  have hkg : KeepP (blkG g b β bc bs bl bd bo) W0 w1 := KeepP.mono hkp (fun _ h => .inl h)
  have H1 : Hid (KeepP (blkG g b β bc bs bl bd bo) w w1 ∧ w1.heap[w.heap.size]? = some (.cells #[.string g.name, .int .i64 g.day, (.slice a0 g.ptns.length c0), (.slice a1 g.crss.length c1), (.slice a2 g.book.stocks.length c2), (.slice a3 g.book.lines.length c3), (.slice a4 g.dffs.length c4), (.slice a5 g.outs.length c5)] 42) ∧ LPt w1 (.slice a0 g.ptns.length c0) (mkPts k g.ptns) b f β ∧ LCs bc w1 (.slice a1 g.crss.length c1) g.crss ∧ LSt bs w1 (.slice a2 g.book.stocks.length c2) g.book.stocks ∧ LOl bl w1 (.slice a3 g.book.lines.length c3) g.book.lines ∧ LDf bd w1 (.slice a4 g.dffs.length c4) g.dffs ∧ LOu bo w1 (.slice a5 g.outs.length c5) g.outs) := ⟨H0.out.1.trans hkg, (hkg.block _ (Array.getElem?_eq_some_iff.1 H0.out.2.1).1 HN.out.1).trans H0.out.2.1, hL, H0.out.2.2.2.1.kp hkp (H0.out.2.2.1.typ (by decide) (by decide)), H0.out.2.2.2.2.1.kp hkp (H0.out.2.2.1.typ (by decide) (by decide)), H0.out.2.2.2.2.2.1.kp hkp (H0.out.2.2.1.typ (by decide) (by decide)), H0.out.2.2.2.2.2.2.1.kp hkp (H0.out.2.2.1.typ (by decide) (by decide)), H0.out.2.2.2.2.2.2.2.kp hkp (H0.out.2.2.1.typ (by decide) (by decide))⟩
  clear hL hkp hkg x0 x1 x2 x3 x4 x5 x6 x7 H0
  rw [← HQ.out.1]
  obtain ⟨x0, x1, x2, x3, x4, x5, x6, x7⟩ := bx8 H1.out.2.1
  go_wp2_with fail
  refine (markCs_k bc _ g.crss k1 _ H1.out.2.2.2.1 hq2).mono ?_
  rintro e w2 ⟨rfl, hL, hkp⟩
  have hkg : KeepP (blkG g b β bc bs bl bd bo) w1 w2 := KeepP.mono hkp (fun _ h => .inr (.inl h))
  have H2 : Hid (KeepP (blkG g b β bc bs bl bd bo) w w2 ∧ w2.heap[w.heap.size]? = some (.cells #[.string g.name, .int .i64 g.day, (.slice a0 g.ptns.length c0), (.slice a1 g.crss.length c1), (.slice a2 g.book.stocks.length c2), (.slice a3 g.book.lines.length c3), (.slice a4 g.dffs.length c4), (.slice a5 g.outs.length c5)] 42) ∧ LPt w2 (.slice a0 g.ptns.length c0) (mkPts k g.ptns) b f β ∧ LCs bc w2 (.slice a1 g.crss.length c1) (mkCss k1 g.crss.length) ∧ LSt bs w2 (.slice a2 g.book.stocks.length c2) g.book.stocks ∧ LOl bl w2 (.slice a3 g.book.lines.length c3) g.book.lines ∧ LDf bd w2 (.slice a4 g.dffs.length c4) g.dffs ∧ LOu bo w2 (.slice a5 g.outs.length c5) g.outs) := ⟨H1.out.1.trans hkg, (hkg.block _ (Array.getElem?_eq_some_iff.1 H1.out.2.1).1 HN.out.1).trans H1.out.2.1, H1.out.2.2.1.kp hkp (H1.out.2.2.2.1.typ (by decide)) (H1.out.2.2.2.1.typ (by decide)), hL, H1.out.2.2.2.2.1.kp hkp (H1.out.2.2.2.1.typ (by decide)), H1.out.2.2.2.2.2.1.kp hkp (H1.out.2.2.2.1.typ (by decide)), H1.out.2.2.2.2.2.2.1.kp hkp (H1.out.2.2.2.1.typ (by decide)), H1.out.2.2.2.2.2.2.2.kp hkp (H1.out.2.2.2.1.typ (by decide))⟩
  clear hL hkp hkg x0 x1 x2 x3 x4 x5 x6 x7 H1
  rw [← HQ.out.2.1]
  obtain ⟨x0, x1, x2, x3, x4, x5, x6, x7⟩ := bx8 H2.out.2.1
  go_wp2_with fail
  refine (markBkG_any bs bl _ _ g.book k2 _ H2.out.2.2.2.2.1 H2.out.2.2.2.2.2.1 hq3).mono ?_
  rintro e w3 ⟨rfl, hL, hL2, hkp⟩
  have hkg : KeepP (blkG g b β bc bs bl bd bo) w2 w3 := KeepP.mono hkp (fun _ h => h.elim (fun h => .inr (.inr (.inl h))) (fun h => .inr (.inr (.inr (.inl h)))))
  have H3 : Hid (KeepP (blkG g b β bc bs bl bd bo) w w3 ∧ w3.heap[w.heap.size]? = some (.cells #[.string g.name, .int .i64 g.day, (.slice a0 g.ptns.length c0), (.slice a1 g.crss.length c1), (.slice a2 g.book.stocks.length c2), (.slice a3 g.book.lines.length c3), (.slice a4 g.dffs.length c4), (.slice a5 g.outs.length c5)] 42) ∧ LPt w3 (.slice a0 g.ptns.length c0) (mkPts k g.ptns) b f β ∧ LCs bc w3 (.slice a1 g.crss.length c1) (mkCss k1 g.crss.length) ∧ LSt bs w3 (.slice a2 g.book.stocks.length c2) (mkBk k2 g.book).stocks ∧ LOl bl w3 (.slice a3 g.book.lines.length c3) (mkBk k2 g.book).lines ∧ LDf bd w3 (.slice a4 g.dffs.length c4) g.dffs ∧ LOu bo w3 (.slice a5 g.outs.length c5) g.outs) := ⟨H2.out.1.trans hkg, (hkg.block _ (Array.getElem?_eq_some_iff.1 H2.out.2.1).1 HN.out.1).trans H2.out.2.1, H2.out.2.2.1.kp hkp (fun j hj => hj.elim (H2.out.2.2.2.2.1.typ (by decide) j) (H2.out.2.2.2.2.2.1.typ (by decide) j)) (fun j hj => hj.elim (H2.out.2.2.2.2.1.typ (by decide) j) (H2.out.2.2.2.2.2.1.typ (by decide) j)), H2.out.2.2.2.1.kp hkp (fun j hj => hj.elim (H2.out.2.2.2.2.1.typ (by decide) j) (H2.out.2.2.2.2.2.1.typ (by decide) j)), hL, hL2, H2.out.2.2.2.2.2.2.1.kp hkp (fun j hj => hj.elim (H2.out.2.2.2.2.1.typ (by decide) j) (H2.out.2.2.2.2.2.1.typ (by decide) j)), H2.out.2.2.2.2.2.2.2.kp hkp (fun j hj => hj.elim (H2.out.2.2.2.2.1.typ (by decide) j) (H2.out.2.2.2.2.2.1.typ (by decide) j))⟩
  clear hL hL2 hkp hkg x0 x1 x2 x3 x4 x5 x6 x7 H2
  rw [← HQ.out.2.2.1]
  obtain ⟨x0, x1, x2, x3, x4, x5, x6, x7⟩ := bx8 H3.out.2.1
  go_wp2_with fail
  refine (markDf_k bd _ g.dffs k3 _ H3.out.2.2.2.2.2.2.1 hq4).mono ?_
  rintro e w4 ⟨rfl, hL, hkp⟩
  have hkg : KeepP (blkG g b β bc bs bl bd bo) w3 w4 := KeepP.mono hkp (fun _ h => .inr (.inr (.inr (.inr (.inl h)))))
  have H4 : Hid (KeepP (blkG g b β bc bs bl bd bo) w w4 ∧ w4.heap[w.heap.size]? = some (.cells #[.string g.name, .int .i64 g.day, (.slice a0 g.ptns.length c0), (.slice a1 g.crss.length c1), (.slice a2 g.book.stocks.length c2), (.slice a3 g.book.lines.length c3), (.slice a4 g.dffs.length c4), (.slice a5 g.outs.length c5)] 42) ∧ LPt w4 (.slice a0 g.ptns.length c0) (mkPts k g.ptns) b f β ∧ LCs bc w4 (.slice a1 g.crss.length c1) (mkCss k1 g.crss.length) ∧ LSt bs w4 (.slice a2 g.book.stocks.length c2) (mkBk k2 g.book).stocks ∧ LOl bl w4 (.slice a3 g.book.lines.length c3) (mkBk k2 g.book).lines ∧ LDf bd w4 (.slice a4 g.dffs.length c4) (mkDfs k3 g.dffs.length) ∧ LOu bo w4 (.slice a5 g.outs.length c5) g.outs) := ⟨H3.out.1.trans hkg, (hkg.block _ (Array.getElem?_eq_some_iff.1 H3.out.2.1).1 HN.out.1).trans H3.out.2.1, H3.out.2.2.1.kp hkp (H3.out.2.2.2.2.2.2.1.typ (by decide)) (H3.out.2.2.2.2.2.2.1.typ (by decide)), H3.out.2.2.2.1.kp hkp (H3.out.2.2.2.2.2.2.1.typ (by decide)), H3.out.2.2.2.2.1.kp hkp (H3.out.2.2.2.2.2.2.1.typ (by decide)), H3.out.2.2.2.2.2.1.kp hkp (H3.out.2.2.2.2.2.2.1.typ (by decide)), hL, H3.out.2.2.2.2.2.2.2.kp hkp (H3.out.2.2.2.2.2.2.1.typ (by decide))⟩
  clear hL hkp hkg x0 x1 x2 x3 x4 x5 x6 x7 H3
  rw [← HQ.out.2.2.2.1]
  obtain ⟨x0, x1, x2, x3, x4, x5, x6, x7⟩ := bx8 H4.out.2.1
  go_wp2_with fail
  refine (markOu_k bo _ g.outs k4 _ H4.out.2.2.2.2.2.2.2 hq5).mono ?_
  rintro e w5 ⟨rfl, hL, hkp⟩
  have hkg : KeepP (blkG g b β bc bs bl bd bo) w4 w5 := KeepP.mono hkp (fun _ h => .inr (.inr (.inr (.inr (.inr h)))))
  have H5 : Hid (KeepP (blkG g b β bc bs bl bd bo) w w5 ∧ w5.heap[w.heap.size]? = some (.cells #[.string g.name, .int .i64 g.day, (.slice a0 g.ptns.length c0), (.slice a1 g.crss.length c1), (.slice a2 g.book.stocks.length c2), (.slice a3 g.book.lines.length c3), (.slice a4 g.dffs.length c4), (.slice a5 g.outs.length c5)] 42) ∧ LPt w5 (.slice a0 g.ptns.length c0) (mkPts k g.ptns) b f β ∧ LCs bc w5 (.slice a1 g.crss.length c1) (mkCss k1 g.crss.length) ∧ LSt bs w5 (.slice a2 g.book.stocks.length c2) (mkBk k2 g.book).stocks ∧ LOl bl w5 (.slice a3 g.book.lines.length c3) (mkBk k2 g.book).lines ∧ LDf bd w5 (.slice a4 g.dffs.length c4) (mkDfs k3 g.dffs.length) ∧ LOu bo w5 (.slice a5 g.outs.length c5) (mkOus k4 g.outs.length)) := ⟨H4.out.1.trans hkg, (hkg.block _ (Array.getElem?_eq_some_iff.1 H4.out.2.1).1 HN.out.1).trans H4.out.2.1, H4.out.2.2.1.kp hkp (H4.out.2.2.2.2.2.2.2.typ (by decide)) (H4.out.2.2.2.2.2.2.2.typ (by decide)), H4.out.2.2.2.1.kp hkp (H4.out.2.2.2.2.2.2.2.typ (by decide)), H4.out.2.2.2.2.1.kp hkp (H4.out.2.2.2.2.2.2.2.typ (by decide)), H4.out.2.2.2.2.2.1.kp hkp (H4.out.2.2.2.2.2.2.2.typ (by decide)), H4.out.2.2.2.2.2.2.1.kp hkp (H4.out.2.2.2.2.2.2.2.typ (by decide)), hL⟩
  clear hL hkp hkg x0 x1 x2 x3 x4 x5 x6 x7 H4
  rw [← HQ.out.2.2.2.2]
  go_wp2
  go_ret
  have e := HQ.out
  obtain ⟨e1, e2, e3, e4, e5⟩ := e
  have E5 : k + cntG g = k5 := by unfold cntG; omega
  have hG : mkG k g = ⟨g.name, g.day, mkPts k g.ptns, mkCss k1 g.crss.length, mkBk k2 g.book, mkDfs k3 g.dffs.length, mkOus k4 g.outs.length⟩ := by
    rw [e4, e3, e2, e1]
    rfl
  refine ⟨by rw [E5]; rfl, ?_, H5.out.1⟩
  rw [hG]
  exact ⟨HN.out.2, H5.out.2.2.1, H5.out.2.2.2.1, H5.out.2.2.2.2.1, H5.out.2.2.2.2.2.1, H5.out.2.2.2.2.2.2.1, H5.out.2.2.2.2.2.2.2⟩
end Go.Proofs.YtkgkahlhekecmaaGreat
namespace Go.Proofs.YtkgkahlhekecmaaGreat
open Go.ChangeShapes Go.WideShapes Go.ChangeAt Go.RowKit
set_option maxHeartbeats 2000000 in
theorem heldSns_any (v : Value) (n : Nat) (k : Int) (w : World) (h : RowSn w v (mkSns k n)) (hk : 0 ≤ k ∧ k + (n * 3 : Nat) ≤ 9000000000000000000) :
    Calls Tryz.prog 121 #[v, .int .i64 k] w fun e w' => e = .returned (.int .i64 (k + (n * 3 : Nat))) ∧ Below w.heap.size w w' := by
  have hlen := h.len
  obtain ⟨a, cap, rfl⟩ := h.val
  rw [mkSns_len] at hlen h ⊢
  have H : Hid (RowSn w (.slice a n cap) (mkSns k n)) := h
  clear h
  go_enter Tryz.func121, Tryz.ntmps121
  go_wp2
  go_loopw [1, 5] (fun q i wr => ∃ j : Nat, q = .int .i64 (k + (j * 3 : Nat)) ∧ i = .int .i64 (j : Int) ∧ j ≤ n ∧ Below w.heap.size w wr) (fun _ i _ => n - (intOf i).toNat)
  case atStart => exact ⟨0, by simp, rfl, by omega, Below.refl _ _⟩
  case round =>
    obtain ⟨j, rfl, rfl, hj, hb⟩ := hrel
    have HB : Hid (Below w.heap.size w wr) := hb
    by_cases hlt : j < n
    · have hlt' : (j : Int) < (n : Int) := by omega
      obtain ⟨b, o, c1, g, e, hs, ⟨q0, q1, q2⟩⟩ := (H.out.below hb).at (k := j) (by rw [mkSns_len]; exact hlt)
      simp only [mkSns_len, Value.slice.injEq, true_and] at e
      obtain ⟨rfl, rfl⟩ := e
      obtain ⟨_, rfl⟩ := mkSns_at hs
      clear hs hb
      have q0' : wr.cell? ⟨b, o + j * 3, none⟩ = some (.int .i64 (k + (j : Int) * 3)) := by rw [q0]; congr 2 <;> (simp only [mkSn]; omega)
      have q1' : wr.cell? ⟨b, o + j * 3 + 1, none⟩ = some (.int .i64 (k + (j : Int) * 3 + 1)) := by rw [q1]; congr 2 <;> (simp only [mkSn]; omega)
      have q2' : wr.cell? ⟨b, o + j * 3 + 2, none⟩ = some (.int .i64 (k + (j : Int) * 3 + 1 + 1)) := by rw [q2]; congr 2 <;> (simp only [mkSn]; omega)
      clear q0 q1 q2
      go_wp2
      go_roundw
      case rel => exact ⟨j + 1, by go_num, by go_num, by omega, HB.out⟩
      case measure => simp [intOf]; omega
    · obtain rfl : j = n := by omega
      clear hb
      go_wp2
      go_ret
      exact ⟨rfl, HB.out⟩
end Go.Proofs.YtkgkahlhekecmaaGreat
namespace Go.Proofs.YtkgkahlhekecmaaGreat
open Go.ChangeShapes Go.WideShapes Go.ChangeAt Go.RowKit
set_option maxRecDepth 20000 in
set_option maxHeartbeats 8000000 in
theorem heldPts_any (v : Value) (ps : List Ptn) (k : Nat) (w : World) (h : RowPt w v (mkPts k ps)) (hk : 0 < k ∧ k + cntP ps < 1000000000000) :
    Calls Tryz.prog 83 #[v, .int .i64 (k : Int)] w fun e w' => e = .returned (.int .i64 ((k + cntP ps : Nat) : Int)) ∧ Below w.heap.size w w' := by
  have hlen := h.len
  have hml := mkPts_len k ps
  obtain ⟨a, cap, rfl⟩ := h.val
  rw [hml] at hlen
  have H0 : Hid (RowPt w (.slice a (mkPts k ps).length cap) (mkPts k ps)) := h
  rw [hml] at H0
  rw [hml]
  clear h hml
  go_enter Tryz.func83, Tryz.ntmps83
  go_wp2
  go_loopw [1, 5] (fun q i wr => ∃ j kj : Nat, q = .int .i64 (kj : Int) ∧ kj = k + cntP (ps.take j) ∧ i = .int .i64 (j : Int) ∧ j ≤ ps.length ∧ Below w.heap.size w wr) (fun _ i _ => ps.length - (intOf i).toNat)
  case atStart => exact ⟨0, k, rfl, by simp [cntP], rfl, by omega, Below.refl _ _⟩
  case round =>
    obtain ⟨j, kj, rfl, hkj, rfl, hj, hb⟩ := hrel
    by_cases hlt : j < ps.length
    · have hlt' : (j : Int) < (ps.length : Int) := by omega
      obtain ⟨p, hp⟩ : ∃ p, ps[j]? = some p := ⟨_, List.getElem?_eq_getElem hlt⟩
      have hcs := cntP_take_succ hp
      have hcl := cntP_take_le ps (j + 1)
      have hkc : 0 < kj ∧ kj + (3 + p.seen.length * 3) < 1000000000000 := by omega
      obtain ⟨b, o, cap', g, u, e, hs, hat, hRp⟩ := (H0.out.below hb).at (k := j) (by rw [mkPts_len]; exact hlt)
      rw [mkPts_len] at e
      simp only [Value.slice.injEq, true_and] at e
      obtain ⟨rfl, rfl⟩ := e
      obtain rfl : g = mkP kj p := by
        rw [mkPts_at hp, ← hkj] at hs
        exact (Option.some.inj hs).symm
      rw [mkP_eq] at hat hRp
      have hsl : RowSn wr u (mkSns ((kj : Int) + 1 + 1 + 1) p.seen.length) := hRp.ls
      obtain ⟨n0, m0, rfl⟩ := hsl.val
      rw [mkSns_len] at hsl hat
      have HB : Hid (Below w.heap.size w wr ∧ kj + (3 + p.seen.length * 3) = k + cntP (ps.take (j + 1))) := ⟨hb, by rw [hcs, hkj]; omega⟩
      have HQ : Hid (∀ W, Below wr.heap.size wr W → W.cell? ⟨b, o + j * 4, none⟩ = some (.string (mtB kj)) ∧ W.cell? ⟨b, o + j * 4 + 1, none⟩ = some (.int .i64 ((kj : Int) + 1)) ∧ W.cell? ⟨b, o + j * 4 + 2, none⟩ = some (.int .i64 ((kj : Int) + 1 + 1)) ∧ W.cell? ⟨b, o + j * 4 + 3, none⟩ = some (.slice n0 p.seen.length m0)) := fun W hW => by
        obtain ⟨r0, r1, r2, r3⟩ := hat.below hW
        exact ⟨r0, r1, r2, r3⟩
      have HS : Hid (∀ W, Below wr.heap.size wr W → RowSn W (.slice n0 p.seen.length m0) (mkSns ((kj : Int) + 1 + 1 + 1) p.seen.length)) := fun W hW => hsl.below hW
      clear hs hb hat hRp hsl hcs hcl hkj hp
      obtain ⟨q0, q1, q2, q3⟩ := HQ.out wr (Below.refl _ _)
      go_upto_region 4 with fail
      have l0 := cell_lt q0
      go_region_held3 (fun W => W.cell? ⟨b, o + j * 4, none⟩ = some (.string (mtB kj))) (go_keep) (first | (go_at_call 79; refine (markText_b _ kj (by omega) _ (by omega) (by omega)).mono ?_; rintro e wa ⟨rfl, hba⟩; have y0 := (hba.cell (p := ⟨b, o + j * 4, none⟩) l0).trans q0))
      rename_i hHeld
      clear hHeld
      have ba : Below wr.heap.size wr wa := (Below.refl _ _).drew.trans hba
      clear hba y0 l0 q0 q1 q2 q3
      obtain ⟨q0, q1, q2, q3⟩ := HQ.out wa ba
      have HA : Hid (Below wr.heap.size wr wa) := ba
      clear ba
      go_wp2_with fail
      refine (heldSns_any _ p.seen.length ((kj : Int) + 1 + 1 + 1) _ (HS.out _ HA.out) (by omega)).mono ?_
      rintro e w2 ⟨rfl, hb2⟩
      have HD : Hid (Below w.heap.size w w2) := HB.out.1.trans ((HA.out.trans (hb2.mono HA.out.size)).mono HB.out.1.size)
      have hn0 : ¬ (kj : Int) + 1 + 1 + 1 + ((p.seen.length * 3 : Nat) : Int) < 0 := by omega
      clear hb2
      go_wp2
      go_roundw
      case rel => exact ⟨j + 1, kj + (3 + p.seen.length * 3), by go_num, HB.out.2, by go_num, by omega, HD.out⟩
      case measure => simp [intOf]; omega
    · obtain rfl : j = ps.length := by omega
      have HB : Hid (Below w.heap.size w wr ∧ kj = k + cntP ps) := ⟨hb, by rw [hkj, List.take_length]⟩
      clear hb hkj
      go_wp2
      go_ret
      exact ⟨by rw [HB.out.2]; rfl, HB.out.1⟩
end Go.Proofs.YtkgkahlhekecmaaGreat
