/- Texts of ours put together: MaPts, MaCs, MaSt. -/
import Derived.Test.YtkgkahlhekecmaaGreatG10
import Derived.Deep.RegionHeld3
import Derived.Deep.QuietTactic
import Derived.BigQuiet
import Derived.BigRegion
import Derived.Test.YtkgkahlhekecmaaGreatG00
namespace Go.Proofs.YtkgkahlhekecmaaGreat
open Go.ChangeShapes Go.WideShapes Go.ChangeAt Go.RowKit
theorem markSns_nil (a : Option Addr) (c : Nat) (k : Int) (w : World) : Calls Tryz.prog 80 #[.slice a 0 c, .int .i64 k] w fun e w' => e = .returned (.int .i64 k) ∧ w' = w := by
  go_enter Tryz.func80, Tryz.ntmps80
  go_wp2
  go_loopw [1, 5] (fun q i wr => q = .int .i64 k ∧ i = .int .i64 0 ∧ wr = w) (fun _ _ _ => 0)
  case atStart => exact ⟨rfl, rfl, rfl⟩
  case round =>
    obtain ⟨rfl, rfl, rfl⟩ := hrel
    go_wp2
    go_ret
    exact ⟨rfl, rfl⟩
theorem mkP_eq (kj : Nat) (p : Ptn) : mkP kj p = ⟨mtB kj, (kj : Int) + 1, (kj : Int) + 1 + 1, mkSns ((kj : Int) + 1 + 1 + 1) p.seen.length⟩ := by
  simp only [mkP]
  rw [show ((kj + 1 : Nat) : Int) = (kj : Int) + 1 by omega, show ((kj + 2 : Nat) : Int) = (kj : Int) + 1 + 1 by omega, show ((kj + 3 : Nat) : Int) = (kj : Int) + 1 + 1 + 1 by omega]
/-- All but its blocks as it lay. -/
def KpP (ps : List Ptn) (b : Nat) (β : Nat → Nat) (w w' : World) : Prop := KeepP (blkP ps b β) w w'
theorem keepP_set {S : Nat → Prop} {w w' : World} (h : KeepP S w w') {B : Nat} (hB : S B) (i : Nat) (x : Value) : KeepP S w (w'.setCell ⟨B, i, none⟩ x) :=
  ⟨h.os, h.tape, h.output, by simpa using h.size, fun k hk hs => by
    rw [← h.block k hk hs]
    simp only [World.setCell, Array.getElem?_modify]
    rw [if_neg (fun e => hs (by rw [← e]; exact hB))]⟩
theorem keepP_of_keep {S : Nat → Prop} {w w' : World} {B : Nat} (h : Keep B w w') (hB : S B) : KeepP S w w' :=
  ⟨h.os, h.tape, h.output, h.size, fun k hk hs => h.block k hk (fun e => hs (by rw [e]; exact hB))⟩
set_option maxRecDepth 20000 in
set_option maxHeartbeats 8000000 in
theorem markPts_any (v : Value) (ps : List Ptn) (b : Nat) (f : Nat → Value) (β : Nat → Nat) (k : Nat) (w : World) (h : LPt w v ps b f β) (hk : 0 < k ∧ k + cntP ps < 1000000000000) :
    Calls Tryz.prog 38 #[v, .int .i64 (k : Int)] w fun e w' => e = .returned (.int .i64 ((k + cntP ps : Nat) : Int)) ∧ LPt w' v (mkPts k ps) b f β ∧ KpP ps b β w w' := by
  have hlen := h.len
  obtain ⟨a, cap, rfl⟩ := h.val
  have H0 : Hid (LPt w (.slice a ps.length cap) ps b f β) := h
  clear h
  go_enter Tryz.func38, Tryz.ntmps38
  go_wp2
  go_loopw [1, 5] (fun q i wr => ∃ j kj : Nat, q = .int .i64 (kj : Int) ∧ kj = k + cntP (ps.take j) ∧ i = .int .i64 (j : Int) ∧ j ≤ ps.length ∧ LPt wr (.slice a ps.length cap) (mxP k ps j) b f β ∧ KpP ps b β w wr) (fun _ i _ => ps.length - (intOf i).toNat)
  case atStart => exact ⟨0, k, rfl, by simp [cntP], rfl, by omega, by rw [mxP_zero]; exact H0.out, KeepP.of_below (Below.refl _ _)⟩
  case round =>
    obtain ⟨j, kj, rfl, hkj, rfl, hj, hL, hK⟩ := hrel
    have HK : Hid (kj = k + cntP (ps.take j) ∧ LPt wr (.slice a ps.length cap) (mxP k ps j) b f β ∧ KpP ps b β w wr) := ⟨hkj, hL, hK⟩
    have hkb : 0 < kj ∧ kj + 3 < 1000000000000 + 4 := by
      have := cntP_take_le ps j
      omega
    by_cases hlt : j < ps.length
    · have hlt' : (j : Int) < (ps.length : Int) := by omega
      obtain ⟨p, hp⟩ : ∃ p, ps[j]? = some p := ⟨_, List.getElem?_eq_getElem hlt⟩
      have hcs := cntP_take_succ hp
      have hcl := cntP_take_le ps (j + 1)
      have hkc : kj + (3 + p.seen.length * 3) < 1000000000000 := by omega
      have hmp := mxP_at (k := k) hlt hp
      have hne : mxP k ps j ≠ [] := by intro e; rw [e] at hmp; simp at hmp
      obtain ⟨a', cap', e, hc⟩ := hL.shape
      rw [mxP_len hj] at e
      simp only [Value.slice.injEq, true_and] at e
      obtain ⟨rfl, rfl⟩ := e
      obtain ⟨rfl, m, g, hR, hm, hg⟩ := hc hne
      rw [mxP_len hj] at hm
      have HB : Hid (blkP ps b β b) := .inl ⟨rfl, by intro e; rw [e] at hp; simp at hp⟩
      have HR : Hid (wr.rowIs b 63 m g ∧ g (j * 4 + 3) = f j) := ⟨hR, (hg j p hmp).2.2.2⟩
      have HP : Hid (ps[j]? = some p ∧ (mxP k ps j)[j]? = some p) := ⟨hp, hmp⟩
      clear hR hc hg hL hK hkj hp hmp hne hcs hcl
      go_wp2_with fail
      refine (markText_b _ kj (by omega) _ (by omega) (by omega)).mono ?_
      rintro e wa ⟨rfl, hba⟩
      have Ra := HR.out.1.of_block (hba.block b HR.out.1.lt)
      have fa := Ra.frozen
      have c0 := Ra.cell (i := j * 4) (by omega)
      have c1 := Ra.cell (i := j * 4 + 1) (by omega)
      have c2 := Ra.cell (i := j * 4 + 2) (by omega)
      have c3 := Ra.cell (i := j * 4 + 3) (by omega)
      rw [HR.out.2] at c3
      have La := (HK.out.2.1.below hba).scal HP.out.2 (mtB kj) ((kj : Int) + 1) ((kj : Int) + 1 + 1) (by have := mtB_size kj; omega)
      have Ka : KpP ps b β w (((wa.setCell ⟨b, j * 4, none⟩ (.string (mtB kj))).setCell ⟨b, j * 4 + 1, none⟩ (.int .i64 ((kj : Int) + 1))).setCell ⟨b, j * 4 + 2, none⟩ (.int .i64 ((kj : Int) + 1 + 1))) := keepP_set (keepP_set (keepP_set (HK.out.2.2.trans (KeepP.of_below hba)) HB.out _ _) HB.out _ _) HB.out _ _
      obtain ⟨n3, m3, hf3⟩ := (La.sn j ⟨mtB kj, (kj : Int) + 1, (kj : Int) + 1 + 1, p.seen⟩ (by rw [List.getElem?_set_self (by rw [mxP_len hj]; exact hlt)])).val
      dsimp only at hf3
      rw [hf3] at c3
      obtain ⟨W1, hW1⟩ : ∃ W1, (((wa.setCell ⟨b, j * 4, none⟩ (.string (mtB kj))).setCell ⟨b, j * 4 + 1, none⟩ (.int .i64 ((kj : Int) + 1))).setCell ⟨b, j * 4 + 2, none⟩ (.int .i64 ((kj : Int) + 1 + 1))) = W1 := ⟨_, rfl⟩
      have H1 : Hid (LPt W1 (.slice (some ⟨b, 0, none⟩) ps.length cap) ((mxP k ps j).set j ⟨mtB kj, (kj : Int) + 1, (kj : Int) + 1 + 1, p.seen⟩) b f β ∧ KpP ps b β w W1 ∧ f j = .slice n3 p.seen.length m3) := by rw [← hW1]; exact ⟨La, Ka, hf3⟩
      have c3' : (((wa.setCell ⟨b, j * 4, none⟩ (.string (mtB kj))).setCell ⟨b, j * 4 + 1, none⟩ (.int .i64 ((kj : Int) + 1))).setCell ⟨b, j * 4 + 2, none⟩ (.int .i64 ((kj : Int) + 1 + 1))).cell? ⟨b, j * 4 + 3, none⟩ = some (.slice n3 p.seen.length m3) := by
        rw [World.cell?_setCell_other _ _ _ _ (by simp), World.cell?_setCell_other _ _ _ _ (by simp), World.cell?_setCell_other _ _ _ _ (by simp)]
        exact c3
      have HW : Hid ((((wa.setCell ⟨b, j * 4, none⟩ (.string (mtB kj))).setCell ⟨b, j * 4 + 1, none⟩ (.int .i64 ((kj : Int) + 1))).setCell ⟨b, j * 4 + 2, none⟩ (.int .i64 ((kj : Int) + 1 + 1))) = W1) := hW1
      clear Ra La Ka hba hf3 hW1
      go_wp2_with fail
      try rw [HW.out]
      clear HW c0 c1 c2 c3 c3' fa
      have hset : ((mxP k ps j).set j ⟨mtB kj, (kj : Int) + 1, (kj : Int) + 1 + 1, p.seen⟩)[j]? = some ⟨mtB kj, (kj : Int) + 1, (kj : Int) + 1 + 1, p.seen⟩ := by rw [List.getElem?_set_self (by rw [mxP_len hj]; exact hlt)]
      rcases Nat.eq_zero_or_pos p.seen.length with h0 | h0
      · have hnil : p.seen = [] := List.eq_nil_of_length_eq_zero h0
        rw [h0]
        refine (markSns_nil n3 m3 _ _).mono ?_
        rintro e w2 ⟨rfl, rfl⟩
        have HE : Hid (LPt w2 (.slice (some ⟨b, 0, none⟩) ps.length cap) (mxP k ps (j + 1)) b f β ∧ KpP ps b β w w2 ∧ kj + 3 = k + cntP (ps.take (j + 1))) := by
          refine ⟨?_, H1.out.2.1, by rw [cntP_take_succ HP.out.1, HK.out.1, h0]; omega⟩
          have e1 : mkP (k + cntP (ps.take j)) p = ⟨mtB kj, (kj : Int) + 1, (kj : Int) + 1 + 1, p.seen⟩ := by
            rw [← HK.out.1, mkP_eq, hnil]
            rfl
          rw [mxP_step hlt HP.out.1, e1]
          exact H1.out.1
        go_wp2
        go_roundw
        case rel => exact ⟨j + 1, kj + 3, by go_num, HE.out.2.2, by go_num, by omega, HE.out.1, HE.out.2.1⟩
        case measure => simp [intOf]; omega
      · have hnn : p.seen ≠ [] := by intro e; rw [e] at h0; simp at h0
        have QM := markSns_any (β j) (f j) p.seen ((kj : Int) + 1 + 1 + 1) W1 (show LSn (β j) W1 (f j) p.seen from H1.out.1.sn j ⟨mtB kj, (kj : Int) + 1, (kj : Int) + 1 + 1, p.seen⟩ hset) (by omega)
        rw [H1.out.2.2] at QM
        refine QM.mono ?_
        rintro e w2 ⟨rfl, hL2, hk2⟩
        have HE : Hid (LPt w2 (.slice (some ⟨b, 0, none⟩) ps.length cap) (mxP k ps (j + 1)) b f β ∧ KpP ps b β w w2 ∧ kj + (3 + p.seen.length * 3) = k + cntP (ps.take (j + 1))) := by
          refine ⟨?_, H1.out.2.1.trans (keepP_of_keep hk2 (.inr ⟨j, p, HP.out.1, hnn, rfl⟩)), by rw [cntP_take_succ HP.out.1, HK.out.1]; omega⟩
          have hms : mkSns ((kj : Int) + 1 + 1 + 1) p.seen.length ≠ [] := by
            intro e
            have := congrArg List.length e
            rw [mkSns_len] at this
            have : p.seen.length = 0 := this
            omega
          have := H1.out.1.seen hset (mkSns ((kj : Int) + 1 + 1 + 1) p.seen.length) ⟨hnn, hms⟩ hk2 (by rw [H1.out.2.2]; exact hL2)
          rw [List.set_set] at this
          have e1 : mkP (k + cntP (ps.take j)) p = ⟨mtB kj, (kj : Int) + 1, (kj : Int) + 1 + 1, mkSns ((kj : Int) + 1 + 1 + 1) p.seen.length⟩ := by
            rw [← HK.out.1, mkP_eq]
          rw [mxP_step hlt HP.out.1, e1]
          exact this
        clear hL2 hk2 QM
        go_wp2
        go_roundw
        case rel => exact ⟨j + 1, kj + (3 + p.seen.length * 3), by go_num, HE.out.2.2, by go_num, by omega, HE.out.1, HE.out.2.1⟩
        case measure => simp [intOf]; omega
    · obtain rfl : j = ps.length := by omega
      have HE : Hid (LPt wr (.slice a ps.length cap) (mkPts k ps) b f β ∧ KpP ps b β w wr ∧ kj = k + cntP ps) := ⟨by rw [← mxP_end]; exact HK.out.2.1, HK.out.2.2, by rw [HK.out.1, List.take_length]⟩
      clear hL hK hkj
      go_wp2
      go_ret
      exact ⟨by rw [HE.out.2.2]; rfl, HE.out.1, HE.out.2.1⟩
end Go.Proofs.YtkgkahlhekecmaaGreat
namespace Go.Proofs.YtkgkahlhekecmaaGreat
open Go.ChangeShapes Go.WideShapes Go.ChangeAt Go.RowKit
/-- What the marks make of it. -/
def mkCs (k i : Nat) : Crs := ⟨mtB (k + i * 3), mtB (k + i * 3 + 1), mtB (k + i * 3 + 2)⟩
def mkCss (k n : Nat) : List Crs := (List.range n).map (mkCs k)
theorem mkCss_len (k n : Nat) : (mkCss k n).length = n := by simp [mkCss]
theorem mkCss_at {k n i : Nat} {g : Crs} (h : (mkCss k n)[i]? = some g) : i < n ∧ g = mkCs k i := by
  have hi := (List.getElem?_eq_some_iff.1 h).1
  rw [mkCss_len] at hi
  refine ⟨hi, ?_⟩
  simpa [mkCss, hi] using h.symm
theorem mkCss_sizes {k n : Nat} : ∀ (i : Nat) (g : Crs), (mkCss k n)[i]? = some g → g.partner.size ≤ 9223372036854775807 ∧ g.theirs.size ≤ 9223372036854775807 ∧ g.own.size ≤ 9223372036854775807 := fun i g h => by
  obtain ⟨_, rfl⟩ := mkCss_at h
  have h0 := mtB_size (k + i * 3)
  have h1 := mtB_size (k + i * 3 + 1)
  have h2 := mtB_size (k + i * 3 + 2)
  simp only [mkCs]
  omega
set_option maxHeartbeats 4000000 in
theorem markCs_any (b : Nat) (v : Value) (rs : List Crs) (k : Nat) (w : World) (h : LCs b w v rs) (hk : 0 < k ∧ k + rs.length * 3 < 1000000000000) :
    Calls Tryz.prog 39 #[v, .int .i64 (k : Int)] w fun e w' => e = .returned (.int .i64 ((k + rs.length * 3 : Nat) : Int)) ∧ LCs b w' v (mkCss k rs.length) ∧ Keep b w w' := by
  have hlen := h.len
  obtain ⟨a, cap, rfl⟩ := h.val
  rcases Nat.eq_zero_or_pos rs.length with h0 | h0
  · have hnil : rs = [] := List.eq_nil_of_length_eq_zero h0
    subst hnil
    clear h
    go_enter Tryz.func39, Tryz.ntmps39
    go_wp2
    go_loopw [1, 5] (fun q i wr => q = .int .i64 (k : Int) ∧ i = .int .i64 0 ∧ wr = w) (fun _ _ _ => 0)
    case atStart => exact ⟨rfl, rfl, rfl⟩
    case round =>
      obtain ⟨rfl, rfl, rfl⟩ := hrel
      go_wp2
      go_ret
      exact ⟨rfl, ⟨⟨_, _, rfl, fun h => absurd rfl h⟩, by simp [mkCss], mkCss_sizes⟩, Keep.refl _ _⟩
  · obtain ⟨a', cap', e, hc⟩ := h.shape
    simp only [Value.slice.injEq, true_and] at e
    obtain ⟨rfl, rfl⟩ := e
    obtain ⟨rfl, m, f, hR, hm, _⟩ := hc (by intro g; rw [g] at h0; simp at h0)
    have HR : Hid (w.rowIs b 106 m f) := hR
    clear h hR hc
    go_enter Tryz.func39, Tryz.ntmps39
    go_wp2
    go_loopw [1, 5] (fun q i wr => ∃ (j : Nat) (f : Nat → Value), q = .int .i64 ((k + j * 3 : Nat) : Int) ∧ i = .int .i64 (j : Int) ∧ j ≤ rs.length ∧ wr.rowIs b 106 m f ∧ (∀ i, i < j → f (i * 3) = .string (mtB (k + i * 3)) ∧ f (i * 3 + 1) = .string (mtB (k + i * 3 + 1)) ∧ f (i * 3 + 2) = .string (mtB (k + i * 3 + 2))) ∧ Keep b w wr) (fun _ i _ => rs.length - (intOf i).toNat)
    case atStart => exact ⟨0, f, by simp, rfl, by omega, HR.out, fun i hi => by omega, Keep.refl _ _⟩
    case round =>
      obtain ⟨j, f, rfl, rfl, hj, hR, hA, hK⟩ := hrel
      by_cases hlt : j < rs.length
      · have hlt' : (j : Int) < (rs.length : Int) := by omega
        have HS : Hid (wr.rowIs b 106 m f ∧ (∀ i, i < j → f (i * 3) = .string (mtB (k + i * 3)) ∧ f (i * 3 + 1) = .string (mtB (k + i * 3 + 1)) ∧ f (i * 3 + 2) = .string (mtB (k + i * 3 + 2))) ∧ Keep b w wr) := ⟨hR, hA, hK⟩
        clear hR hA hK
        go_wp2_with fail
        refine (markText_b _ (k + j * 3) (by omega) _ (by omega) (by omega)).mono ?_
        rintro e wa ⟨rfl, hba⟩
        have Ra := HS.out.1.of_block (hba.block b HS.out.1.lt)
        have fa := Ra.frozen
        have ca := Ra.cell (i := j * 3) (by omega)
        have HA : Hid ((wa.setCell ⟨b, j * 3, none⟩ (.string (mtB (k + j * 3)))).rowIs b 106 m _ ∧ Keep b w (wa.setCell ⟨b, j * 3, none⟩ (.string (mtB (k + j * 3))))) := ⟨Ra.set (j * 3) (.string (mtB (k + j * 3))), (HS.out.2.2.trans (Keep.of_below hba)).setCell _ _⟩
        clear hba Ra
        go_wp2_with fail
        refine (markText_b _ (k + j * 3 + 1) (by omega) _ (by omega) (by omega)).mono ?_
        rintro e wb ⟨rfl, hbb⟩
        have Rb := HA.out.1.of_block (hbb.block b HA.out.1.lt)
        have fb := Rb.frozen
        have cb := Rb.cell (i := j * 3 + 1) (by omega)
        have HB : Hid ((wb.setCell ⟨b, j * 3 + 1, none⟩ (.string (mtB (k + j * 3 + 1)))).rowIs b 106 m _ ∧ Keep b w (wb.setCell ⟨b, j * 3 + 1, none⟩ (.string (mtB (k + j * 3 + 1))))) := ⟨Rb.set (j * 3 + 1) (.string (mtB (k + j * 3 + 1))), (HA.out.2.trans (Keep.of_below hbb)).setCell _ _⟩
        clear hbb Rb ca fa
        go_wp2_with fail
        refine (markText_b _ (k + j * 3 + 2) (by omega) _ (by omega) (by omega)).mono ?_
        rintro e wc ⟨rfl, hbc⟩
        have Rc := HB.out.1.of_block (hbc.block b HB.out.1.lt)
        have fc := Rc.frozen
        have cc := Rc.cell (i := j * 3 + 2) (by omega)
        have HC : Hid ((wc.setCell ⟨b, j * 3 + 2, none⟩ (.string (mtB (k + j * 3 + 2)))).rowIs b 106 m _ ∧ Keep b w (wc.setCell ⟨b, j * 3 + 2, none⟩ (.string (mtB (k + j * 3 + 2))))) := ⟨Rc.set (j * 3 + 2) (.string (mtB (k + j * 3 + 2))), (HB.out.2.trans (Keep.of_below hbc)).setCell _ _⟩
        clear hbc Rc cb fb
        go_wp2
        go_roundw
        case rel =>
          refine ⟨j + 1, _, by go_num, by go_num, by omega, HC.out.1, fun i hi => ?_, HC.out.2⟩
          by_cases e1 : i = j
          · subst e1
            refine ⟨?_, ?_, ?_⟩
            · rw [if_neg (by omega), if_neg (by omega), if_pos rfl]
            · rw [if_neg (by omega), if_pos rfl]
            · rw [if_pos rfl]
          · obtain ⟨r0, r1, r2⟩ := HS.out.2.1 i (by omega)
            refine ⟨?_, ?_, ?_⟩
            all_goals rw [if_neg (by omega), if_neg (by omega), if_neg (by omega)]
            all_goals assumption
        case measure => simp [intOf]; omega
      · obtain rfl : j = rs.length := by omega
        have HS : Hid (wr.rowIs b 106 m f ∧ (∀ i, i < rs.length → f (i * 3) = .string (mtB (k + i * 3)) ∧ f (i * 3 + 1) = .string (mtB (k + i * 3 + 1)) ∧ f (i * 3 + 2) = .string (mtB (k + i * 3 + 2))) ∧ Keep b w wr) := ⟨hR, hA, hK⟩
        clear hR hA hK
        go_wp2
        go_ret
        refine ⟨rfl, ⟨⟨_, _, by rw [mkCss_len], fun _ => ⟨rfl, m, f, HS.out.1, by rw [mkCss_len]; exact hm, fun i g hi => ?_⟩⟩, by rw [mkCss_len]; exact hlen, mkCss_sizes⟩, HS.out.2.2⟩
        obtain ⟨hi', rfl⟩ := mkCss_at hi
        exact HS.out.2.1 i hi'
end Go.Proofs.YtkgkahlhekecmaaGreat
namespace Go.Proofs.YtkgkahlhekecmaaGreat
open Go.ChangeShapes Go.WideShapes Go.ChangeAt Go.RowKit
/-- What the marks make of it. -/
def mkSt (k i : Nat) : Stk := ⟨mtB (k + i * 2), ((k + i * 2 + 1 : Nat) : Int)⟩
def mkSts (k n : Nat) : List Stk := (List.range n).map (mkSt k)
theorem mkSts_len (k n : Nat) : (mkSts k n).length = n := by simp [mkSts]
theorem mkSts_at {k n i : Nat} {g : Stk} (h : (mkSts k n)[i]? = some g) : i < n ∧ g = mkSt k i := by
  have hi := (List.getElem?_eq_some_iff.1 h).1
  rw [mkSts_len] at hi
  refine ⟨hi, ?_⟩
  simpa [mkSts, hi] using h.symm
theorem mkSts_sizes {k n : Nat} : ∀ (i : Nat) (g : Stk), (mkSts k n)[i]? = some g → g.item.size ≤ 9223372036854775807 := fun i g h => by
  obtain ⟨_, rfl⟩ := mkSts_at h
  have h0 := mtB_size (k + i * 2)
  simp only [mkSt]
  omega
set_option maxRecDepth 20000 in
set_option maxHeartbeats 8000000 in
theorem markSt_any (b : Nat) (v : Value) (rs : List Stk) (k : Nat) (w : World) (h : LSt b w v rs) (hk : 0 < k ∧ k + rs.length * 2 < 1000000000000) :
    Calls Tryz.prog 81 #[v, .int .i64 (k : Int)] w fun e w' => e = .returned (.int .i64 ((k + rs.length * 2 : Nat) : Int)) ∧ LSt b w' v (mkSts k rs.length) ∧ Keep b w w' := by
  have hlen := h.len
  obtain ⟨a, cap, rfl⟩ := h.val
  rcases Nat.eq_zero_or_pos rs.length with h0 | h0
  · have hnil : rs = [] := List.eq_nil_of_length_eq_zero h0
    subst hnil
    clear h
    go_enter Tryz.func81, Tryz.ntmps81
    go_wp2
    go_loopw [1, 5] (fun q i wr => q = .int .i64 (k : Int) ∧ i = .int .i64 0 ∧ wr = w) (fun _ _ _ => 0)
    case atStart => exact ⟨rfl, rfl, rfl⟩
    case round =>
      obtain ⟨rfl, rfl, rfl⟩ := hrel
      go_wp2
      go_ret
      exact ⟨rfl, ⟨⟨_, _, rfl, fun h => absurd rfl h⟩, by simp [mkSts], mkSts_sizes⟩, Keep.refl _ _⟩
  · obtain ⟨a', cap', e, hc⟩ := h.shape
    simp only [Value.slice.injEq, true_and] at e
    obtain ⟨rfl, rfl⟩ := e
    obtain ⟨rfl, m, f, hR, hm, _⟩ := hc (by intro g; rw [g] at h0; simp at h0)
    have HR : Hid (w.rowIs b 145 m f) := hR
    clear h hR hc
    go_enter Tryz.func81, Tryz.ntmps81
    go_wp2
    go_loopw [1, 5] (fun q i wr => ∃ (j : Nat) (f : Nat → Value), q = .int .i64 ((k + j * 2 : Nat) : Int) ∧ i = .int .i64 (j : Int) ∧ j ≤ rs.length ∧ wr.rowIs b 145 m f ∧ (∀ i, i < j → f (i * 2) = .string (mtB (k + i * 2)) ∧ f (i * 2 + 1) = .int .i64 ((k + i * 2 + 1 : Nat) : Int)) ∧ Keep b w wr) (fun _ i _ => rs.length - (intOf i).toNat)
    case atStart => exact ⟨0, f, by simp, rfl, by omega, HR.out, fun i hi => by omega, Keep.refl _ _⟩
    case round =>
      obtain ⟨j, f, rfl, rfl, hj, hR, hA, hK⟩ := hrel
      have HS : Hid (wr.rowIs b 145 m f ∧ (∀ i, i < j → f (i * 2) = .string (mtB (k + i * 2)) ∧ f (i * 2 + 1) = .int .i64 ((k + i * 2 + 1 : Nat) : Int)) ∧ Keep b w wr) := ⟨hR, hA, hK⟩
      clear hR hA hK
      by_cases hlt : j < rs.length
      · have hlt' : (j : Int) < (rs.length : Int) := by omega
        go_wp2_with fail
        refine (markText_b _ (k + j * 2) (by omega) _ (by omega) (by omega)).mono ?_
        rintro e wa ⟨rfl, hba⟩
        have Ra := HS.out.1.of_block (hba.block b HS.out.1.lt)
        have fa := Ra.frozen
        have ca := Ra.cell (i := j * 2) (by omega)
        have cb := Ra.cell (i := j * 2 + 1) (by omega)
        have HA : Hid (((wa.setCell ⟨b, j * 2, none⟩ (.string (mtB (k + j * 2)))).setCell ⟨b, j * 2 + 1, none⟩ (.int .i64 (((k + j * 2 : Nat) : Int) + 1))).rowIs b 145 m _ ∧ Keep b w ((wa.setCell ⟨b, j * 2, none⟩ (.string (mtB (k + j * 2)))).setCell ⟨b, j * 2 + 1, none⟩ (.int .i64 (((k + j * 2 : Nat) : Int) + 1)))) := ⟨(Ra.set (j * 2) (.string (mtB (k + j * 2)))).set (j * 2 + 1) (.int .i64 (((k + j * 2 : Nat) : Int) + 1)), ((HS.out.2.2.trans (Keep.of_below hba)).setCell _ _).setCell _ _⟩
        clear hba Ra
        go_wp2
        go_roundw
        case rel =>
          refine ⟨j + 1, _, by go_num, by go_num, by omega, HA.out.1, fun i hi => ?_, HA.out.2⟩
          by_cases e1 : i = j
          · subst e1
            refine ⟨?_, ?_⟩
            · rw [if_neg (by omega), if_pos rfl]
            · rw [if_pos rfl]
              first | rfl | (congr 1; omega)
          · obtain ⟨r0, r1⟩ := HS.out.2.1 i (by omega)
            refine ⟨?_, ?_⟩
            all_goals rw [if_neg (by omega), if_neg (by omega)]
            all_goals assumption
        case measure => simp [intOf]; omega
      · obtain rfl : j = rs.length := by omega
        go_wp2
        go_ret
        refine ⟨rfl, ⟨⟨_, _, by rw [mkSts_len], fun _ => ⟨rfl, m, f, HS.out.1, by rw [mkSts_len]; exact hm, fun i g hi => ?_⟩⟩, by rw [mkSts_len]; exact hlen, mkSts_sizes⟩, HS.out.2.2⟩
        obtain ⟨hi', rfl⟩ := mkSts_at hi
        exact HS.out.2.1 i hi'
end Go.Proofs.YtkgkahlhekecmaaGreat
