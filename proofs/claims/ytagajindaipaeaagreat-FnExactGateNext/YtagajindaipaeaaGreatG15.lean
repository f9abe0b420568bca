/- Texts of ours put together: MkPts, MkCs, MkSt, MkOl. -/
import Derived.Test.YtagajindaipaeaaGreatG14
import Derived.Deep.RegionHeld3
import Derived.Deep.QuietTactic
import Derived.BigQuiet
import Derived.BigRegion
import Derived.Test.YtagajindaipaeaaGreatG01
import Derived.Test.YtagajindaipaeaaGreatG02
namespace Go.Proofs.YtagajindaipaeaaGreat
open Go.ChangeShapes Go.WideShapes Go.ChangeAt Go.RowKit
theorem markSns_nil (a : Option Addr) (c : Nat) (k : Int) (w : World) : Calls Tryz.prog 101 #[.slice a 0 c, .int .i64 k] w fun e w' => e = .returned (.int .i64 k) ∧ w' = w := by
  go_enter Tryz.func101, Tryz.ntmps101
  go_wp2
  go_loopw [1, 5] (fun q i wr => q = .int .i64 k ∧ i = .int .i64 0 ∧ wr = w) (fun _ _ _ => 0)
  case atStart => exact ⟨rfl, rfl, rfl⟩
  case round =>
    obtain ⟨rfl, rfl, rfl⟩ := hrel
    go_wp2
    go_ret
    exact ⟨rfl, rfl⟩
theorem mkP_eq (kj : Nat) (p : Ptn) : mkP kj p = ⟨mtB kj, (kj : Int) + 1, (kj : Int) + 1 + 1, mkSns ((kj : Int) + 1 + 1 + 1) p.seen.length⟩ := by
  simp only [mkP]
  rw [show ((kj + 1 : Nat) : Int) = (kj : Int) + 1 by omega, show ((kj + 2 : Nat) : Int) = (kj : Int) + 1 + 1 by omega, show ((kj + 3 : Nat) : Int) = (kj : Int) + 1 + 1 + 1 by omega]
/-- All but its blocks as it lay. -/
def KpP (ps : List Ptn) (b : Nat) (β : Nat → Nat) (w w' : World) : Prop := KeepP (blkP ps b β) w w'
theorem keepP_set {S : Nat → Prop} {w w' : World} (h : KeepP S w w') {B : Nat} (hB : S B) (i : Nat) (x : Value) : KeepP S w (w'.setCell ⟨B, i, none⟩ x) :=
  ⟨h.os, h.tape, h.output, by simpa using h.size, fun k hk hs => by
    rw [← h.block k hk hs]
    simp only [World.setCell, Array.getElem?_modify]
    rw [if_neg (fun e => hs (by rw [← e]; exact hB))]⟩
theorem keepP_of_keep {S : Nat → Prop} {w w' : World} {B : Nat} (h : Keep B w w') (hB : S B) : KeepP S w w' :=
  ⟨h.os, h.tape, h.output, h.size, fun k hk hs => h.block k hk (fun e => hs (by rw [e]; exact hB))⟩
set_option maxRecDepth 20000 in
set_option maxHeartbeats 8000000 in
theorem markPts_any (v : Value) (ps : List Ptn) (b : Nat) (f : Nat → Value) (β : Nat → Nat) (k : Nat) (w : World) (h : LPt w v ps b f β) (hk : 0 < k ∧ k + cntP ps < 1000000000000) :
    Calls Tryz.prog 48 #[v, .int .i64 (k : Int)] w fun e w' => e = .returned (.int .i64 ((k + cntP ps : Nat) : Int)) ∧ LPt w' v (mkPts k ps) b f β ∧ KpP ps b β w w' := by
  have hlen := h.len
  obtain ⟨a, cap, rfl⟩ := h.val
  have H0 : Hid (LPt w (.slice a ps.length cap) ps b f β) := h
  clear h
  go_enter Tryz.func48, Tryz.ntmps48
  go_wp2
  go_loopw [1, 5] (fun q i wr => ∃ j kj : Nat, q = .int .i64 (kj : Int) ∧ kj = k + cntP (ps.take j) ∧ i = .int .i64 (j : Int) ∧ j ≤ ps.length ∧ LPt wr (.slice a ps.length cap) (mxP k ps j) b f β ∧ KpP ps b β w wr) (fun _ i _ => ps.length - (intOf i).toNat)
  case atStart => exact ⟨0, k, rfl, by simp [cntP], rfl, by omega, by rw [mxP_zero]; exact H0.out, KeepP.of_below (Below.refl _ _)⟩
  case round =>
    obtain ⟨j, kj, rfl, hkj, rfl, hj, hL, hK⟩ := hrel
    have HK : Hid (kj = k + cntP (ps.take j) ∧ LPt wr (.slice a ps.length cap) (mxP k ps j) b f β ∧ KpP ps b β w wr) := ⟨hkj, hL, hK⟩
    have hkb : 0 < kj ∧ kj + 3 < 1000000000000 + 4 := by
      have := cntP_take_le ps j
      omega
    by_cases hlt : j < ps.length
    · have hlt' : (j : Int) < (ps.length : Int) := by omega
      obtain ⟨p, hp⟩ : ∃ p, ps[j]? = some p := ⟨_, List.getElem?_eq_getElem hlt⟩
      have hcs := cntP_take_succ hp
      have hcl := cntP_take_le ps (j + 1)
      have hkc : kj + (3 + p.seen.length * 3) < 1000000000000 := by omega
      have hmp := mxP_at (k := k) hlt hp
      have hne : mxP k ps j ≠ [] := by intro e; rw [e] at hmp; simp at hmp
      obtain ⟨a', cap', e, hc⟩ := hL.shape
      rw [mxP_len hj] at e
      simp only [Value.slice.injEq, true_and] at e
      obtain ⟨rfl, rfl⟩ := e
      obtain ⟨rfl, m, g, hR, hm, hg⟩ := hc hne
      rw [mxP_len hj] at hm
      have HB : Hid (blkP ps b β b) := .inl ⟨rfl, by intro e; rw [e] at hp; simp at hp⟩
      have HR : Hid (wr.rowIs b 70 m g ∧ g (j * 4 + 3) = f j) := ⟨hR, (hg j p hmp).2.2.2⟩
      have HP : Hid (ps[j]? = some p ∧ (mxP k ps j)[j]? = some p) := ⟨hp, hmp⟩
      clear hR hc hg hL hK hkj hp hmp hne hcs hcl
      go_wp2_with fail
      refine (markText_b _ kj (by omega) _ (by omega) (by omega)).mono ?_
      rintro e wa ⟨rfl, hba⟩
      have Ra := HR.out.1.of_block (hba.block b HR.out.1.lt)
      have fa := Ra.frozen
      have c0 := Ra.cell (i := j * 4) (by omega)
      have c1 := Ra.cell (i := j * 4 + 1) (by omega)
      have c2 := Ra.cell (i := j * 4 + 2) (by omega)
      have c3 := Ra.cell (i := j * 4 + 3) (by omega)
      rw [HR.out.2] at c3
      have La := (HK.out.2.1.below hba).scal HP.out.2 (mtB kj) ((kj : Int) + 1) ((kj : Int) + 1 + 1) (by have := mtB_size kj; omega)
      have Ka : KpP ps b β w (((wa.setCell ⟨b, j * 4, none⟩ (.string (mtB kj))).setCell ⟨b, j * 4 + 1, none⟩ (.int .i64 ((kj : Int) + 1))).setCell ⟨b, j * 4 + 2, none⟩ (.int .i64 ((kj : Int) + 1 + 1))) := keepP_set (keepP_set (keepP_set (HK.out.2.2.trans (KeepP.of_below hba)) HB.out _ _) HB.out _ _) HB.out _ _
      obtain ⟨n3, m3, hf3⟩ := (La.sn j ⟨mtB kj, (kj : Int) + 1, (kj : Int) + 1 + 1, p.seen⟩ (by rw [List.getElem?_set_self (by rw [mxP_len hj]; exact hlt)])).val
      dsimp only at hf3
      rw [hf3] at c3
      obtain ⟨W1, hW1⟩ : ∃ W1, (((wa.setCell ⟨b, j * 4, none⟩ (.string (mtB kj))).setCell ⟨b, j * 4 + 1, none⟩ (.int .i64 ((kj : Int) + 1))).setCell ⟨b, j * 4 + 2, none⟩ (.int .i64 ((kj : Int) + 1 + 1))) = W1 := ⟨_, rfl⟩
      have H1 : Hid (LPt W1 (.slice (some ⟨b, 0, none⟩) ps.length cap) ((mxP k ps j).set j ⟨mtB kj, (kj : Int) + 1, (kj : Int) + 1 + 1, p.seen⟩) b f β ∧ KpP ps b β w W1 ∧ f j = .slice n3 p.seen.length m3) := by rw [← hW1]; exact ⟨La, Ka, hf3⟩
      have c3' : (((wa.setCell ⟨b, j * 4, none⟩ (.string (mtB kj))).setCell ⟨b, j * 4 + 1, none⟩ (.int .i64 ((kj : Int) + 1))).setCell ⟨b, j * 4 + 2, none⟩ (.int .i64 ((kj : Int) + 1 + 1))).cell? ⟨b, j * 4 + 3, none⟩ = some (.slice n3 p.seen.length m3) := by
        rw [World.cell?_setCell_other _ _ _ _ (by simp), World.cell?_setCell_other _ _ _ _ (by simp), World.cell?_setCell_other _ _ _ _ (by simp)]
        exact c3
      have HW : Hid ((((wa.setCell ⟨b, j * 4, none⟩ (.string (mtB kj))).setCell ⟨b, j * 4 + 1, none⟩ (.int .i64 ((kj : Int) + 1))).setCell ⟨b, j * 4 + 2, none⟩ (.int .i64 ((kj : Int) + 1 + 1))) = W1) := hW1
      clear Ra La Ka hba hf3 hW1
      go_wp2_with fail
      try rw [HW.out]
      clear HW c0 c1 c2 c3 c3' fa
      have hset : ((mxP k ps j).set j ⟨mtB kj, (kj : Int) + 1, (kj : Int) + 1 + 1, p.seen⟩)[j]? = some ⟨mtB kj, (kj : Int) + 1, (kj : Int) + 1 + 1, p.seen⟩ := by rw [List.getElem?_set_self (by rw [mxP_len hj]; exact hlt)]
      rcases Nat.eq_zero_or_pos p.seen.length with h0 | h0
      · have hnil : p.seen = [] := List.eq_nil_of_length_eq_zero h0
        rw [h0]
        refine (markSns_nil n3 m3 _ _).mono ?_
        rintro e w2 ⟨rfl, rfl⟩
        have HE : Hid (LPt w2 (.slice (some ⟨b, 0, none⟩) ps.length cap) (mxP k ps (j + 1)) b f β ∧ KpP ps b β w w2 ∧ kj + 3 = k + cntP (ps.take (j + 1))) := by
          refine ⟨?_, H1.out.2.1, by rw [cntP_take_succ HP.out.1, HK.out.1, h0]; omega⟩
          have e1 : mkP (k + cntP (ps.take j)) p = ⟨mtB kj, (kj : Int) + 1, (kj : Int) + 1 + 1, p.seen⟩ := by
            rw [← HK.out.1, mkP_eq, hnil]
            rfl
          rw [mxP_step hlt HP.out.1, e1]
          exact H1.out.1
        go_wp2
        go_roundw
        case rel => exact ⟨j + 1, kj + 3, by go_num, HE.out.2.2, by go_num, by omega, HE.out.1, HE.out.2.1⟩
        case measure => simp [intOf]; omega
      · have hnn : p.seen ≠ [] := by intro e; rw [e] at h0; simp at h0
        have QM := markSns_any (β j) (f j) p.seen ((kj : Int) + 1 + 1 + 1) W1 (show LSn (β j) W1 (f j) p.seen from H1.out.1.sn j ⟨mtB kj, (kj : Int) + 1, (kj : Int) + 1 + 1, p.seen⟩ hset) (by omega)
        rw [H1.out.2.2] at QM
        refine QM.mono ?_
        rintro e w2 ⟨rfl, hL2, hk2⟩
        have HE : Hid (LPt w2 (.slice (some ⟨b, 0, none⟩) ps.length cap) (mxP k ps (j + 1)) b f β ∧ KpP ps b β w w2 ∧ kj + (3 + p.seen.length * 3) = k + cntP (ps.take (j + 1))) := by
          refine ⟨?_, H1.out.2.1.trans (keepP_of_keep hk2 (.inr ⟨j, p, HP.out.1, hnn, rfl⟩)), by rw [cntP_take_succ HP.out.1, HK.out.1]; omega⟩
          have hms : mkSns ((kj : Int) + 1 + 1 + 1) p.seen.length ≠ [] := by
            intro e
            have := congrArg List.length e
            rw [mkSns_len] at this
            have : p.seen.length = 0 := this
            omega
          have := H1.out.1.seen hset (mkSns ((kj : Int) + 1 + 1 + 1) p.seen.length) ⟨hnn, hms⟩ hk2 (by rw [H1.out.2.2]; exact hL2)
          rw [List.set_set] at this
          have e1 : mkP (k + cntP (ps.take j)) p = ⟨mtB kj, (kj : Int) + 1, (kj : Int) + 1 + 1, mkSns ((kj : Int) + 1 + 1 + 1) p.seen.length⟩ := by
            rw [← HK.out.1, mkP_eq]
          rw [mxP_step hlt HP.out.1, e1]
          exact this
        clear hL2 hk2 QM
        go_wp2
        go_roundw
        case rel => exact ⟨j + 1, kj + (3 + p.seen.length * 3), by go_num, HE.out.2.2, by go_num, by omega, HE.out.1, HE.out.2.1⟩
        case measure => simp [intOf]; omega
    · obtain rfl : j = ps.length := by omega
      have HE : Hid (LPt wr (.slice a ps.length cap) (mkPts k ps) b f β ∧ KpP ps b β w wr ∧ kj = k + cntP ps) := ⟨by rw [← mxP_end]; exact HK.out.2.1, HK.out.2.2, by rw [HK.out.1, List.take_length]⟩
      clear hL hK hkj
      go_wp2
      go_ret
      exact ⟨by rw [HE.out.2.2]; rfl, HE.out.1, HE.out.2.1⟩
set_option maxRecDepth 20000 in
set_option maxHeartbeats 8000000 in
theorem heldPts_any (v : Value) (ps : List Ptn) (k : Nat) (w : World) (h : RowPt w v (mkPts k ps)) (hk : 0 < k ∧ k + cntP ps < 1000000000000) :
    Calls Tryz.prog 62 #[v, .int .i64 (k : Int)] w fun e w' => e = .returned (.int .i64 ((k + cntP ps : Nat) : Int)) ∧ Below w.heap.size w w' := by
  have hlen := h.len
  have hml := mkPts_len k ps
  obtain ⟨a, cap, rfl⟩ := h.val
  rw [hml] at hlen
  have H0 : Hid (RowPt w (.slice a (mkPts k ps).length cap) (mkPts k ps)) := h
  rw [hml] at H0
  rw [hml]
  clear h hml
  go_enter Tryz.func62, Tryz.ntmps62
  go_wp2
  go_loopw [1, 5] (fun q i wr => ∃ j kj : Nat, q = .int .i64 (kj : Int) ∧ kj = k + cntP (ps.take j) ∧ i = .int .i64 (j : Int) ∧ j ≤ ps.length ∧ Below w.heap.size w wr) (fun _ i _ => ps.length - (intOf i).toNat)
  case atStart => exact ⟨0, k, rfl, by simp [cntP], rfl, by omega, Below.refl _ _⟩
  case round =>
    obtain ⟨j, kj, rfl, hkj, rfl, hj, hb⟩ := hrel
    by_cases hlt : j < ps.length
    · have hlt' : (j : Int) < (ps.length : Int) := by omega
      obtain ⟨p, hp⟩ : ∃ p, ps[j]? = some p := ⟨_, List.getElem?_eq_getElem hlt⟩
      have hcs := cntP_take_succ hp
      have hcl := cntP_take_le ps (j + 1)
      have hkc : 0 < kj ∧ kj + (3 + p.seen.length * 3) < 1000000000000 := by omega
      obtain ⟨b, o, cap', g, u, e, hs, hat, hRp⟩ := (H0.out.below hb).at (k := j) (by rw [mkPts_len]; exact hlt)
      rw [mkPts_len] at e
      simp only [Value.slice.injEq, true_and] at e
      obtain ⟨rfl, rfl⟩ := e
      obtain rfl : g = mkP kj p := by
        rw [mkPts_at hp, ← hkj] at hs
        exact (Option.some.inj hs).symm
      rw [mkP_eq] at hat hRp
      have hsl : RowSn wr u (mkSns ((kj : Int) + 1 + 1 + 1) p.seen.length) := hRp.ls
      obtain ⟨n0, m0, rfl⟩ := hsl.val
      rw [mkSns_len] at hsl hat
      have HB : Hid (Below w.heap.size w wr ∧ kj + (3 + p.seen.length * 3) = k + cntP (ps.take (j + 1))) := ⟨hb, by rw [hcs, hkj]; omega⟩
      have HQ : Hid (∀ W, Below wr.heap.size wr W → W.cell? ⟨b, o + j * 4, none⟩ = some (.string (mtB kj)) ∧ W.cell? ⟨b, o + j * 4 + 1, none⟩ = some (.int .i64 ((kj : Int) + 1)) ∧ W.cell? ⟨b, o + j * 4 + 2, none⟩ = some (.int .i64 ((kj : Int) + 1 + 1)) ∧ W.cell? ⟨b, o + j * 4 + 3, none⟩ = some (.slice n0 p.seen.length m0)) := fun W hW => by
        obtain ⟨r0, r1, r2, r3⟩ := hat.below hW
        exact ⟨r0, r1, r2, r3⟩
      have HS : Hid (∀ W, Below wr.heap.size wr W → RowSn W (.slice n0 p.seen.length m0) (mkSns ((kj : Int) + 1 + 1 + 1) p.seen.length)) := fun W hW => hsl.below hW
      clear hs hb hat hRp hsl hcs hcl hkj hp
      obtain ⟨q0, q1, q2, q3⟩ := HQ.out wr (Below.refl _ _)
      go_upto_region 4 with fail
      have l0 := cell_lt q0
      go_region_held3 (fun W => W.cell? ⟨b, o + j * 4, none⟩ = some (.string (mtB kj))) (go_keep) (first | (go_at_call 100; refine (markText_b _ kj (by omega) _ (by omega) (by omega)).mono ?_; rintro e wa ⟨rfl, hba⟩; have y0 := (hba.cell (p := ⟨b, o + j * 4, none⟩) l0).trans q0))
      rename_i hHeld
      clear hHeld
      have ba : Below wr.heap.size wr wa := (Below.refl _ _).drew.trans hba
      clear hba y0 l0 q0 q1 q2 q3
      obtain ⟨q0, q1, q2, q3⟩ := HQ.out wa ba
      have HA : Hid (Below wr.heap.size wr wa) := ba
      clear ba
      go_wp2_with fail
      refine (heldSns_any _ p.seen.length ((kj : Int) + 1 + 1 + 1) _ (HS.out _ HA.out) (by omega)).mono ?_
      rintro e w2 ⟨rfl, hb2⟩
      have HD : Hid (Below w.heap.size w w2) := HB.out.1.trans ((HA.out.trans (hb2.mono HA.out.size)).mono HB.out.1.size)
      have hn0 : ¬ (kj : Int) + 1 + 1 + 1 + ((p.seen.length * 3 : Nat) : Int) < 0 := by omega
      clear hb2
      go_wp2
      go_roundw
      case rel => exact ⟨j + 1, kj + (3 + p.seen.length * 3), by go_num, HB.out.2, by go_num, by omega, HD.out⟩
      case measure => simp [intOf]; omega
    · obtain rfl : j = ps.length := by omega
      have HB : Hid (Below w.heap.size w wr ∧ kj = k + cntP ps) := ⟨hb, by rw [hkj, List.take_length]⟩
      clear hb hkj
      go_wp2
      go_ret
      exact ⟨by rw [HB.out.2]; rfl, HB.out.1⟩
end Go.Proofs.YtagajindaipaeaaGreat
namespace Go.Proofs.YtagajindaipaeaaGreat
open Go.ChangeShapes Go.WideShapes Go.ChangeAt Go.RowKit
/-- What the marks make of it. -/
def mkCs (k i : Nat) : Crs := ⟨mtB (k + i * 3), mtB (k + i * 3 + 1), mtB (k + i * 3 + 2)⟩
def mkCss (k n : Nat) : List Crs := (List.range n).map (mkCs k)
theorem mkCss_len (k n : Nat) : (mkCss k n).length = n := by simp [mkCss]
theorem mkCss_at {k n i : Nat} {g : Crs} (h : (mkCss k n)[i]? = some g) : i < n ∧ g = mkCs k i := by
  have hi := (List.getElem?_eq_some_iff.1 h).1
  rw [mkCss_len] at hi
  refine ⟨hi, ?_⟩
  simpa [mkCss, hi] using h.symm
theorem mkCss_sizes {k n : Nat} : ∀ (i : Nat) (g : Crs), (mkCss k n)[i]? = some g → g.partner.size ≤ 9223372036854775807 ∧ g.theirs.size ≤ 9223372036854775807 ∧ g.own.size ≤ 9223372036854775807 := fun i g h => by
  obtain ⟨_, rfl⟩ := mkCss_at h
  have h0 := mtB_size (k + i * 3)
  have h1 := mtB_size (k + i * 3 + 1)
  have h2 := mtB_size (k + i * 3 + 2)
  simp only [mkCs]
  omega
set_option maxHeartbeats 4000000 in
theorem markCs_any (b : Nat) (v : Value) (rs : List Crs) (k : Nat) (w : World) (h : LCs b w v rs) (hk : 0 < k ∧ k + rs.length * 3 < 1000000000000) :
    Calls Tryz.prog 49 #[v, .int .i64 (k : Int)] w fun e w' => e = .returned (.int .i64 ((k + rs.length * 3 : Nat) : Int)) ∧ LCs b w' v (mkCss k rs.length) ∧ Keep b w w' := by
  have hlen := h.len
  obtain ⟨a, cap, rfl⟩ := h.val
  rcases Nat.eq_zero_or_pos rs.length with h0 | h0
  · have hnil : rs = [] := List.eq_nil_of_length_eq_zero h0
    subst hnil
    clear h
    go_enter Tryz.func49, Tryz.ntmps49
    go_wp2
    go_loopw [1, 5] (fun q i wr => q = .int .i64 (k : Int) ∧ i = .int .i64 0 ∧ wr = w) (fun _ _ _ => 0)
    case atStart => exact ⟨rfl, rfl, rfl⟩
    case round =>
      obtain ⟨rfl, rfl, rfl⟩ := hrel
      go_wp2
      go_ret
      exact ⟨rfl, ⟨⟨_, _, rfl, fun h => absurd rfl h⟩, by simp [mkCss], mkCss_sizes⟩, Keep.refl _ _⟩
  · obtain ⟨a', cap', e, hc⟩ := h.shape
    simp only [Value.slice.injEq, true_and] at e
    obtain ⟨rfl, rfl⟩ := e
    obtain ⟨rfl, m, f, hR, hm, _⟩ := hc (by intro g; rw [g] at h0; simp at h0)
    have HR : Hid (w.rowIs b 119 m f) := hR
    clear h hR hc
    go_enter Tryz.func49, Tryz.ntmps49
    go_wp2
    go_loopw [1, 5] (fun q i wr => ∃ (j : Nat) (f : Nat → Value), q = .int .i64 ((k + j * 3 : Nat) : Int) ∧ i = .int .i64 (j : Int) ∧ j ≤ rs.length ∧ wr.rowIs b 119 m f ∧ (∀ i, i < j → f (i * 3) = .string (mtB (k + i * 3)) ∧ f (i * 3 + 1) = .string (mtB (k + i * 3 + 1)) ∧ f (i * 3 + 2) = .string (mtB (k + i * 3 + 2))) ∧ Keep b w wr) (fun _ i _ => rs.length - (intOf i).toNat)
    case atStart => exact ⟨0, f, by simp, rfl, by omega, HR.out, fun i hi => by omega, Keep.refl _ _⟩
    case round =>
      obtain ⟨j, f, rfl, rfl, hj, hR, hA, hK⟩ := hrel
      by_cases hlt : j < rs.length
      · have hlt' : (j : Int) < (rs.length : Int) := by omega
        have HS : Hid (wr.rowIs b 119 m f ∧ (∀ i, i < j → f (i * 3) = .string (mtB (k + i * 3)) ∧ f (i * 3 + 1) = .string (mtB (k + i * 3 + 1)) ∧ f (i * 3 + 2) = .string (mtB (k + i * 3 + 2))) ∧ Keep b w wr) := ⟨hR, hA, hK⟩
        clear hR hA hK
        go_wp2_with fail
        refine (markText_b _ (k + j * 3) (by omega) _ (by omega) (by omega)).mono ?_
        rintro e wa ⟨rfl, hba⟩
        have Ra := HS.out.1.of_block (hba.block b HS.out.1.lt)
        have fa := Ra.frozen
        have ca := Ra.cell (i := j * 3) (by omega)
        have HA : Hid ((wa.setCell ⟨b, j * 3, none⟩ (.string (mtB (k + j * 3)))).rowIs b 119 m _ ∧ Keep b w (wa.setCell ⟨b, j * 3, none⟩ (.string (mtB (k + j * 3))))) := ⟨Ra.set (j * 3) (.string (mtB (k + j * 3))), (HS.out.2.2.trans (Keep.of_below hba)).setCell _ _⟩
        clear hba Ra
        go_wp2_with fail
        refine (markText_b _ (k + j * 3 + 1) (by omega) _ (by omega) (by omega)).mono ?_
        rintro e wb ⟨rfl, hbb⟩
        have Rb := HA.out.1.of_block (hbb.block b HA.out.1.lt)
        have fb := Rb.frozen
        have cb := Rb.cell (i := j * 3 + 1) (by omega)
        have HB : Hid ((wb.setCell ⟨b, j * 3 + 1, none⟩ (.string (mtB (k + j * 3 + 1)))).rowIs b 119 m _ ∧ Keep b w (wb.setCell ⟨b, j * 3 + 1, none⟩ (.string (mtB (k + j * 3 + 1))))) := ⟨Rb.set (j * 3 + 1) (.string (mtB (k + j * 3 + 1))), (HA.out.2.trans (Keep.of_below hbb)).setCell _ _⟩
        clear hbb Rb ca fa
        go_wp2_with fail
        refine (markText_b _ (k + j * 3 + 2) (by omega) _ (by omega) (by omega)).mono ?_
        rintro e wc ⟨rfl, hbc⟩
        have Rc := HB.out.1.of_block (hbc.block b HB.out.1.lt)
        have fc := Rc.frozen
        have cc := Rc.cell (i := j * 3 + 2) (by omega)
        have HC : Hid ((wc.setCell ⟨b, j * 3 + 2, none⟩ (.string (mtB (k + j * 3 + 2)))).rowIs b 119 m _ ∧ Keep b w (wc.setCell ⟨b, j * 3 + 2, none⟩ (.string (mtB (k + j * 3 + 2))))) := ⟨Rc.set (j * 3 + 2) (.string (mtB (k + j * 3 + 2))), (HB.out.2.trans (Keep.of_below hbc)).setCell _ _⟩
        clear hbc Rc cb fb
        go_wp2
        go_roundw
        case rel =>
          refine ⟨j + 1, _, by go_num, by go_num, by omega, HC.out.1, fun i hi => ?_, HC.out.2⟩
          by_cases e1 : i = j
          · subst e1
            refine ⟨?_, ?_, ?_⟩
            · rw [if_neg (by omega), if_neg (by omega), if_pos rfl]
            · rw [if_neg (by omega), if_pos rfl]
            · rw [if_pos rfl]
          · obtain ⟨r0, r1, r2⟩ := HS.out.2.1 i (by omega)
            refine ⟨?_, ?_, ?_⟩
            all_goals rw [if_neg (by omega), if_neg (by omega), if_neg (by omega)]
            all_goals assumption
        case measure => simp [intOf]; omega
      · obtain rfl : j = rs.length := by omega
        have HS : Hid (wr.rowIs b 119 m f ∧ (∀ i, i < rs.length → f (i * 3) = .string (mtB (k + i * 3)) ∧ f (i * 3 + 1) = .string (mtB (k + i * 3 + 1)) ∧ f (i * 3 + 2) = .string (mtB (k + i * 3 + 2))) ∧ Keep b w wr) := ⟨hR, hA, hK⟩
        clear hR hA hK
        go_wp2
        go_ret
        refine ⟨rfl, ⟨⟨_, _, by rw [mkCss_len], fun _ => ⟨rfl, m, f, HS.out.1, by rw [mkCss_len]; exact hm, fun i g hi => ?_⟩⟩, by rw [mkCss_len]; exact hlen, mkCss_sizes⟩, HS.out.2.2⟩
        obtain ⟨hi', rfl⟩ := mkCss_at hi
        exact HS.out.2.1 i hi'
set_option maxHeartbeats 4000000 in
theorem heldCs_any (v : Value) (k n : Nat) (w : World) (h : RowCs w v (mkCss k n)) (hk : 0 < k ∧ k + n * 3 < 1000000000000) :
    Calls Tryz.prog 63 #[v, .int .i64 (k : Int)] w fun e w' => e = .returned (.int .i64 ((k + n * 3 : Nat) : Int)) ∧ Below w.heap.size w w' := by
  have hlen := h.len
  obtain ⟨a, cap, rfl⟩ := h.val
  have H0 : Hid (RowCs w (.slice a (mkCss k n).length cap) (mkCss k n)) := h
  have hml : (mkCss k n).length = n := mkCss_len k n
  clear h
  go_enter Tryz.func63, Tryz.ntmps63
  go_wp2
  try rw [hml]
  go_loopw [1, 5] (fun q i wr => ∃ j : Nat, q = .int .i64 ((k + j * 3 : Nat) : Int) ∧ i = .int .i64 (j : Int) ∧ j ≤ n ∧ Below w.heap.size w wr) (fun _ i _ => n - (intOf i).toNat)
  case atStart => exact ⟨0, by simp, rfl, by omega, Below.refl _ _⟩
  case round =>
    obtain ⟨j, rfl, rfl, hj, hb⟩ := hrel
    by_cases hlt : j < n
    · have hlt' : (j : Int) < (n : Int) := by omega
      obtain ⟨b, o, cap', g, e, hs, ⟨q0, q1, q2⟩, _⟩ := (H0.out.below hb).at (k := j) (by omega)
      simp only [Value.slice.injEq, true_and] at e
      obtain ⟨rfl, rfl⟩ := e
      obtain ⟨_, rfl⟩ := mkCss_at hs
      simp only [mkCs] at q0 q1 q2
      have HB : Hid (Below w.heap.size w wr) := hb
      have HQ : Hid (∀ W, Below wr.heap.size wr W → W.cell? ⟨b, o + j * 3 + 1, none⟩ = some (.string (mtB (k + j * 3 + 1))) ∧ W.cell? ⟨b, o + j * 3 + 2, none⟩ = some (.string (mtB (k + j * 3 + 2)))) := fun W hW => ⟨(hW.cell (cell_lt q1)).trans q1, (hW.cell (cell_lt q2)).trans q2⟩
      clear hs hb
      go_upto_region 4 with fail
      have l0 := cell_lt q0
      go_region_held3 (fun W => W.cell? ⟨b, o + j * 3, none⟩ = some (.string (mtB (k + j * 3)))) (go_keep) (first | (go_at_call 100; refine (markText_b _ (k + j * 3) (by omega) _ (by omega) (by omega)).mono ?_; rintro e wa ⟨rfl, hbwa⟩; have y0 := (hbwa.cell (p := ⟨b, o + j * 3, none⟩) l0).trans q0))
      rename_i hHeld
      clear hHeld
      have ba : Below wr.heap.size wr wa := (Below.refl _ _).drew.trans hbwa
      obtain ⟨q1a, q2a⟩ := HQ.out wa ba
      have HA : Hid (Below wr.heap.size wr wa) := ba
      clear hbwa ba y0 q0 q1 q2 l0
      go_upto_region 7 with fail
      have l1 := cell_lt q1a
      go_region_held3 (fun W => W.cell? ⟨b, o + j * 3 + 1, none⟩ = some (.string (mtB (k + j * 3 + 1)))) (go_keep) (first | (go_at_call 100; refine (markText_b _ (k + j * 3 + 1) (by omega) _ (by omega) (by omega)).mono ?_; rintro e wb ⟨rfl, hbwb⟩; have y1 := (hbwb.cell (p := ⟨b, o + j * 3 + 1, none⟩) l1).trans q1a))
      rename_i hHeld
      clear hHeld
      have bb : Below wr.heap.size wr wb := HA.out.trans (((Below.refl _ _).drew.trans hbwb).mono HA.out.size)
      obtain ⟨_, q2b⟩ := HQ.out wb bb
      have HC : Hid (Below wr.heap.size wr wb) := bb
      clear hbwb bb y1 q1a q2a l1
      go_upto_region 10 with fail
      have l2 := cell_lt q2b
      go_region_held3 (fun W => W.cell? ⟨b, o + j * 3 + 2, none⟩ = some (.string (mtB (k + j * 3 + 2)))) (go_keep) (first | (go_at_call 100; refine (markText_b _ (k + j * 3 + 2) (by omega) _ (by omega) (by omega)).mono ?_; rintro e wc ⟨rfl, hbwc⟩; have y2 := (hbwc.cell (p := ⟨b, o + j * 3 + 2, none⟩) l2).trans q2b))
      rename_i hHeld
      clear hHeld
      have bc : Below wr.heap.size wr wc := HC.out.trans (((Below.refl _ _).drew.trans hbwc).mono HC.out.size)
      have HD : Hid (Below w.heap.size w wc) := HB.out.trans (bc.mono HB.out.size)
      clear hbwc bc y2 q2b l2
      go_wp2
      go_roundw
      case rel => exact ⟨j + 1, by go_num, by go_num, by omega, HD.out⟩
      case measure => simp [intOf]; omega
    · obtain rfl : j = n := by omega
      have HB : Hid (Below w.heap.size w wr) := hb
      clear hb
      go_wp2
      go_ret
      exact ⟨rfl, HB.out⟩
end Go.Proofs.YtagajindaipaeaaGreat
namespace Go.Proofs.YtagajindaipaeaaGreat
open Go.ChangeShapes Go.WideShapes Go.ChangeAt Go.RowKit
/-- What the marks make of it. -/
def mkSt (k i : Nat) : Stk := ⟨mtB (k + i * 2), ((k + i * 2 + 1 : Nat) : Int)⟩
def mkSts (k n : Nat) : List Stk := (List.range n).map (mkSt k)
theorem mkSts_len (k n : Nat) : (mkSts k n).length = n := by simp [mkSts]
theorem mkSts_at {k n i : Nat} {g : Stk} (h : (mkSts k n)[i]? = some g) : i < n ∧ g = mkSt k i := by
  have hi := (List.getElem?_eq_some_iff.1 h).1
  rw [mkSts_len] at hi
  refine ⟨hi, ?_⟩
  simpa [mkSts, hi] using h.symm
theorem mkSts_sizes {k n : Nat} : ∀ (i : Nat) (g : Stk), (mkSts k n)[i]? = some g → g.item.size ≤ 9223372036854775807 := fun i g h => by
  obtain ⟨_, rfl⟩ := mkSts_at h
  have h0 := mtB_size (k + i * 2)
  simp only [mkSt]
  omega
set_option maxRecDepth 20000 in
set_option maxHeartbeats 8000000 in
theorem markSt_any (b : Nat) (v : Value) (rs : List Stk) (k : Nat) (w : World) (h : LSt b w v rs) (hk : 0 < k ∧ k + rs.length * 2 < 1000000000000) :
    Calls Tryz.prog 102 #[v, .int .i64 (k : Int)] w fun e w' => e = .returned (.int .i64 ((k + rs.length * 2 : Nat) : Int)) ∧ LSt b w' v (mkSts k rs.length) ∧ Keep b w w' := by
  have hlen := h.len
  obtain ⟨a, cap, rfl⟩ := h.val
  rcases Nat.eq_zero_or_pos rs.length with h0 | h0
  · have hnil : rs = [] := List.eq_nil_of_length_eq_zero h0
    subst hnil
    clear h
    go_enter Tryz.func102, Tryz.ntmps102
    go_wp2
    go_loopw [1, 5] (fun q i wr => q = .int .i64 (k : Int) ∧ i = .int .i64 0 ∧ wr = w) (fun _ _ _ => 0)
    case atStart => exact ⟨rfl, rfl, rfl⟩
    case round =>
      obtain ⟨rfl, rfl, rfl⟩ := hrel
      go_wp2
      go_ret
      exact ⟨rfl, ⟨⟨_, _, rfl, fun h => absurd rfl h⟩, by simp [mkSts], mkSts_sizes⟩, Keep.refl _ _⟩
  · obtain ⟨a', cap', e, hc⟩ := h.shape
    simp only [Value.slice.injEq, true_and] at e
    obtain ⟨rfl, rfl⟩ := e
    obtain ⟨rfl, m, f, hR, hm, _⟩ := hc (by intro g; rw [g] at h0; simp at h0)
    have HR : Hid (w.rowIs b 167 m f) := hR
    clear h hR hc
    go_enter Tryz.func102, Tryz.ntmps102
    go_wp2
    go_loopw [1, 5] (fun q i wr => ∃ (j : Nat) (f : Nat → Value), q = .int .i64 ((k + j * 2 : Nat) : Int) ∧ i = .int .i64 (j : Int) ∧ j ≤ rs.length ∧ wr.rowIs b 167 m f ∧ (∀ i, i < j → f (i * 2) = .string (mtB (k + i * 2)) ∧ f (i * 2 + 1) = .int .i64 ((k + i * 2 + 1 : Nat) : Int)) ∧ Keep b w wr) (fun _ i _ => rs.length - (intOf i).toNat)
    case atStart => exact ⟨0, f, by simp, rfl, by omega, HR.out, fun i hi => by omega, Keep.refl _ _⟩
    case round =>
      obtain ⟨j, f, rfl, rfl, hj, hR, hA, hK⟩ := hrel
      have HS : Hid (wr.rowIs b 167 m f ∧ (∀ i, i < j → f (i * 2) = .string (mtB (k + i * 2)) ∧ f (i * 2 + 1) = .int .i64 ((k + i * 2 + 1 : Nat) : Int)) ∧ Keep b w wr) := ⟨hR, hA, hK⟩
      clear hR hA hK
      by_cases hlt : j < rs.length
      · have hlt' : (j : Int) < (rs.length : Int) := by omega
        go_wp2_with fail
        refine (markText_b _ (k + j * 2) (by omega) _ (by omega) (by omega)).mono ?_
        rintro e wa ⟨rfl, hba⟩
        have Ra := HS.out.1.of_block (hba.block b HS.out.1.lt)
        have fa := Ra.frozen
        have ca := Ra.cell (i := j * 2) (by omega)
        have cb := Ra.cell (i := j * 2 + 1) (by omega)
        have HA : Hid (((wa.setCell ⟨b, j * 2, none⟩ (.string (mtB (k + j * 2)))).setCell ⟨b, j * 2 + 1, none⟩ (.int .i64 (((k + j * 2 : Nat) : Int) + 1))).rowIs b 167 m _ ∧ Keep b w ((wa.setCell ⟨b, j * 2, none⟩ (.string (mtB (k + j * 2)))).setCell ⟨b, j * 2 + 1, none⟩ (.int .i64 (((k + j * 2 : Nat) : Int) + 1)))) := ⟨(Ra.set (j * 2) (.string (mtB (k + j * 2)))).set (j * 2 + 1) (.int .i64 (((k + j * 2 : Nat) : Int) + 1)), ((HS.out.2.2.trans (Keep.of_below hba)).setCell _ _).setCell _ _⟩
        clear hba Ra
        go_wp2
        go_roundw
        case rel =>
          refine ⟨j + 1, _, by go_num, by go_num, by omega, HA.out.1, fun i hi => ?_, HA.out.2⟩
          by_cases e1 : i = j
          · subst e1
            refine ⟨?_, ?_⟩
            · rw [if_neg (by omega), if_pos rfl]
            · rw [if_pos rfl]
              first | rfl | (congr 1; omega)
          · obtain ⟨r0, r1⟩ := HS.out.2.1 i (by omega)
            refine ⟨?_, ?_⟩
            all_goals rw [if_neg (by omega), if_neg (by omega)]
            all_goals assumption
        case measure => simp [intOf]; omega
      · obtain rfl : j = rs.length := by omega
        go_wp2
        go_ret
        refine ⟨rfl, ⟨⟨_, _, by rw [mkSts_len], fun _ => ⟨rfl, m, f, HS.out.1, by rw [mkSts_len]; exact hm, fun i g hi => ?_⟩⟩, by rw [mkSts_len]; exact hlen, mkSts_sizes⟩, HS.out.2.2⟩
        obtain ⟨hi', rfl⟩ := mkSts_at hi
        exact HS.out.2.1 i hi'
set_option maxRecDepth 20000 in
set_option maxHeartbeats 8000000 in
theorem heldSt_any (v : Value) (k n : Nat) (w : World) (h : RowSt w v (mkSts k n)) (hk : 0 < k ∧ k + n * 2 < 1000000000000) :
    Calls Tryz.prog 114 #[v, .int .i64 (k : Int)] w fun e w' => e = .returned (.int .i64 ((k + n * 2 : Nat) : Int)) ∧ Below w.heap.size w w' := by
  have hlen := h.len
  obtain ⟨a, cap, rfl⟩ := h.val
  have H0 : Hid (RowSt w (.slice a (mkSts k n).length cap) (mkSts k n)) := h
  have hml : (mkSts k n).length = n := mkSts_len k n
  clear h
  go_enter Tryz.func114, Tryz.ntmps114
  go_wp2
  try rw [hml]
  go_loopw [1, 5] (fun q i wr => ∃ j : Nat, q = .int .i64 ((k + j * 2 : Nat) : Int) ∧ i = .int .i64 (j : Int) ∧ j ≤ n ∧ Below w.heap.size w wr) (fun _ i _ => n - (intOf i).toNat)
  case atStart => exact ⟨0, by simp, rfl, by omega, Below.refl _ _⟩
  case round =>
    obtain ⟨j, rfl, rfl, hj, hb⟩ := hrel
    by_cases hlt : j < n
    · have hlt' : (j : Int) < (n : Int) := by omega
      obtain ⟨b, o, cap', g, e, hs, hat, _⟩ := (H0.out.below hb).at (k := j) (by omega)
      simp only [Value.slice.injEq, true_and] at e
      obtain ⟨rfl, rfl⟩ := e
      obtain ⟨_, rfl⟩ := mkSts_at hs
      have HB : Hid (Below w.heap.size w wr) := hb
      have HQ : Hid (∀ W, Below wr.heap.size wr W → W.cell? ⟨b, o + j * 2, none⟩ = some (.string (mtB (k + j * 2))) ∧ W.cell? ⟨b, o + j * 2 + 1, none⟩ = some (.int .i64 ((k + j * 2 + 1 : Nat) : Int))) := fun W hW => by
        obtain ⟨r0, r1⟩ := hat.below hW
        exact ⟨r0, r1⟩
      clear hs hb hat
      obtain ⟨q0, q1⟩ := HQ.out wr (Below.refl _ _)
      go_upto_region 4 with fail
      have l0 := cell_lt q0
      go_region_held3 (fun W => W.cell? ⟨b, o + j * 2, none⟩ = some (.string (mtB (k + j * 2)))) (go_keep) (first | (go_at_call 100; refine (markText_b _ (k + j * 2) (by omega) _ (by omega) (by omega)).mono ?_; rintro e wa ⟨rfl, hba⟩; have y0 := (hba.cell (p := ⟨b, o + j * 2, none⟩) l0).trans q0))
      rename_i hHeld
      clear hHeld
      have ba : Below wr.heap.size wr wa := (Below.refl _ wr).drew.trans hba
      clear hba y0 l0 q0 q1
      obtain ⟨q0, q1⟩ := HQ.out wa ba
      have HD : Hid (Below w.heap.size w wa) := HB.out.trans (ba.mono HB.out.size)
      clear ba
      go_wp2
      go_roundw
      case rel => exact ⟨j + 1, by go_num, by go_num, by omega, HD.out⟩
      case measure => simp [intOf]; omega
    · obtain rfl : j = n := by omega
      have HB : Hid (Below w.heap.size w wr) := hb
      clear hb
      go_wp2
      go_ret
      exact ⟨rfl, HB.out⟩
end Go.Proofs.YtagajindaipaeaaGreat
namespace Go.Proofs.YtagajindaipaeaaGreat
open Go.ChangeShapes Go.WideShapes Go.ChangeAt Go.RowKit
/-- What the marks make of it. -/
def mkOl (k i : Nat) : OLn := ⟨mtB (k + i * 8), mtB (k + i * 8 + 1), ((k + i * 8 + 2 : Nat) : Int), mtB (k + i * 8 + 3), ((k + i * 8 + 4 : Nat) : Int), ((k + i * 8 + 5 : Nat) : Int), ((k + i * 8 + 6 : Nat) : Int), ((k + i * 8 + 7 : Nat) : Int)⟩
def mkOls (k n : Nat) : List OLn := (List.range n).map (mkOl k)
theorem mkOls_len (k n : Nat) : (mkOls k n).length = n := by simp [mkOls]
theorem mkOls_at {k n i : Nat} {g : OLn} (h : (mkOls k n)[i]? = some g) : i < n ∧ g = mkOl k i := by
  have hi := (List.getElem?_eq_some_iff.1 h).1
  rw [mkOls_len] at hi
  refine ⟨hi, ?_⟩
  simpa [mkOls, hi] using h.symm
theorem mkOls_sizes {k n : Nat} : ∀ (i : Nat) (g : OLn), (mkOls k n)[i]? = some g → g.partner.size ≤ 9223372036854775807 ∧ g.ref.size ≤ 9223372036854775807 ∧ g.item.size ≤ 9223372036854775807 := fun i g h => by
  obtain ⟨_, rfl⟩ := mkOls_at h
  have h0 := mtB_size (k + i * 8)
  have h1 := mtB_size (k + i * 8 + 1)
  have h2 := mtB_size (k + i * 8 + 3)
  simp only [mkOl]
  omega
set_option maxRecDepth 20000 in
set_option maxHeartbeats 8000000 in
theorem markOl_any (b : Nat) (v : Value) (rs : List OLn) (k : Nat) (w : World) (h : LOl b w v rs) (hk : 0 < k ∧ k + rs.length * 8 < 1000000000000) :
    Calls Tryz.prog 103 #[v, .int .i64 (k : Int)] w fun e w' => e = .returned (.int .i64 ((k + rs.length * 8 : Nat) : Int)) ∧ LOl b w' v (mkOls k rs.length) ∧ Keep b w w' := by
  have hlen := h.len
  obtain ⟨a, cap, rfl⟩ := h.val
  rcases Nat.eq_zero_or_pos rs.length with h0 | h0
  · have hnil : rs = [] := List.eq_nil_of_length_eq_zero h0
    subst hnil
    clear h
    go_enter Tryz.func103, Tryz.ntmps103
    go_wp2
    go_loopw [1, 5] (fun q i wr => q = .int .i64 (k : Int) ∧ i = .int .i64 0 ∧ wr = w) (fun _ _ _ => 0)
    case atStart => exact ⟨rfl, rfl, rfl⟩
    case round =>
      obtain ⟨rfl, rfl, rfl⟩ := hrel
      go_wp2
      go_ret
      exact ⟨rfl, ⟨⟨_, _, rfl, fun h => absurd rfl h⟩, by simp [mkOls], mkOls_sizes⟩, Keep.refl _ _⟩
  · obtain ⟨a', cap', e, hc⟩ := h.shape
    simp only [Value.slice.injEq, true_and] at e
    obtain ⟨rfl, rfl⟩ := e
    obtain ⟨rfl, m, f, hR, hm, _⟩ := hc (by intro g; rw [g] at h0; simp at h0)
    have HR : Hid (w.rowIs b 173 m f) := hR
    clear h hR hc
    go_enter Tryz.func103, Tryz.ntmps103
    go_wp2
    go_loopw [1, 5] (fun q i wr => ∃ (j : Nat) (f : Nat → Value), q = .int .i64 ((k + j * 8 : Nat) : Int) ∧ i = .int .i64 (j : Int) ∧ j ≤ rs.length ∧ wr.rowIs b 173 m f ∧ (∀ i, i < j → f (i * 8) = .string (mtB (k + i * 8)) ∧ f (i * 8 + 1) = .string (mtB (k + i * 8 + 1)) ∧ f (i * 8 + 2) = .int .i64 (((k + i * 8 + 2 : Nat) : Int)) ∧ f (i * 8 + 3) = .string (mtB (k + i * 8 + 3)) ∧ f (i * 8 + 4) = .int .i64 (((k + i * 8 + 4 : Nat) : Int)) ∧ f (i * 8 + 5) = .int .i64 (((k + i * 8 + 5 : Nat) : Int)) ∧ f (i * 8 + 6) = .int .i64 (((k + i * 8 + 6 : Nat) : Int)) ∧ f (i * 8 + 7) = .int .i64 (((k + i * 8 + 7 : Nat) : Int))) ∧ Keep b w wr) (fun _ i _ => rs.length - (intOf i).toNat)
    case atStart => exact ⟨0, f, by simp, rfl, by omega, HR.out, fun i hi => by omega, Keep.refl _ _⟩
    case round =>
      obtain ⟨j, f, rfl, rfl, hj, hR, hA, hK⟩ := hrel
      have HS : Hid (wr.rowIs b 173 m f ∧ (∀ i, i < j → f (i * 8) = .string (mtB (k + i * 8)) ∧ f (i * 8 + 1) = .string (mtB (k + i * 8 + 1)) ∧ f (i * 8 + 2) = .int .i64 (((k + i * 8 + 2 : Nat) : Int)) ∧ f (i * 8 + 3) = .string (mtB (k + i * 8 + 3)) ∧ f (i * 8 + 4) = .int .i64 (((k + i * 8 + 4 : Nat) : Int)) ∧ f (i * 8 + 5) = .int .i64 (((k + i * 8 + 5 : Nat) : Int)) ∧ f (i * 8 + 6) = .int .i64 (((k + i * 8 + 6 : Nat) : Int)) ∧ f (i * 8 + 7) = .int .i64 (((k + i * 8 + 7 : Nat) : Int))) ∧ Keep b w wr) := ⟨hR, hA, hK⟩
      clear hR hA hK
      by_cases hlt : j < rs.length
      · have hlt' : (j : Int) < (rs.length : Int) := by omega
        go_wp2_with fail
        refine (markText_b _ (k + j * 8) (by omega) _ (by omega) (by omega)).mono ?_
        rintro e wa ⟨rfl, hba⟩
        have Ra := HS.out.1.of_block (hba.block b HS.out.1.lt)
        have fa := Ra.frozen
        have ca := Ra.cell (i := j * 8) (by omega)
        have HA : Hid ((wa.setCell ⟨b, j * 8, none⟩ (.string (mtB (k + j * 8)))).rowIs b 173 m _ ∧ Keep b w (wa.setCell ⟨b, j * 8, none⟩ (.string (mtB (k + j * 8))))) := ⟨Ra.set (j * 8) (.string (mtB (k + j * 8))), (HS.out.2.2.trans (Keep.of_below hba)).setCell _ _⟩
        clear hba Ra
        go_wp2_with fail
        refine (markText_b _ (k + j * 8 + 1) (by omega) _ (by omega) (by omega)).mono ?_
        rintro e wb ⟨rfl, hbb⟩
        have Rb := HA.out.1.of_block (hbb.block b HA.out.1.lt)
        have fb := Rb.frozen
        have cb1 := Rb.cell (i := j * 8 + 1) (by omega)
        have cb2 := Rb.cell (i := j * 8 + 2) (by omega)
        have HB : Hid (((wb.setCell ⟨b, j * 8 + 1, none⟩ (.string (mtB (k + j * 8 + 1)))).setCell ⟨b, j * 8 + 2, none⟩ (.int .i64 (((k + j * 8 : Nat) : Int) + 1 + 1))).rowIs b 173 m _ ∧ Keep b w ((wb.setCell ⟨b, j * 8 + 1, none⟩ (.string (mtB (k + j * 8 + 1)))).setCell ⟨b, j * 8 + 2, none⟩ (.int .i64 (((k + j * 8 : Nat) : Int) + 1 + 1)))) := ⟨(Rb.set (j * 8 + 1) (.string (mtB (k + j * 8 + 1)))).set (j * 8 + 2) (.int .i64 (((k + j * 8 : Nat) : Int) + 1 + 1)), ((HA.out.2.trans (Keep.of_below hbb)).setCell _ _).setCell _ _⟩
        clear hbb Rb ca fa
        go_wp2_with fail
        refine (markText_b _ (k + j * 8 + 3) (by omega) _ (by omega) (by omega)).mono ?_
        rintro e wc ⟨rfl, hbc⟩
        have Rc := HB.out.1.of_block (hbc.block b HB.out.1.lt)
        have fc := Rc.frozen
        have cc3 := Rc.cell (i := j * 8 + 3) (by omega)
        have cc4 := Rc.cell (i := j * 8 + 4) (by omega)
        have cc5 := Rc.cell (i := j * 8 + 5) (by omega)
        have cc6 := Rc.cell (i := j * 8 + 6) (by omega)
        have cc7 := Rc.cell (i := j * 8 + 7) (by omega)
        have HC : Hid ((((((wc.setCell ⟨b, j * 8 + 3, none⟩ (.string (mtB (k + j * 8 + 3)))).setCell ⟨b, j * 8 + 4, none⟩ (.int .i64 (((k + j * 8 : Nat) : Int) + 1 + 1 + 1 + 1))).setCell ⟨b, j * 8 + 5, none⟩ (.int .i64 (((k + j * 8 : Nat) : Int) + 1 + 1 + 1 + 1 + 1))).setCell ⟨b, j * 8 + 6, none⟩ (.int .i64 (((k + j * 8 : Nat) : Int) + 1 + 1 + 1 + 1 + 1 + 1))).setCell ⟨b, j * 8 + 7, none⟩ (.int .i64 (((k + j * 8 : Nat) : Int) + 1 + 1 + 1 + 1 + 1 + 1 + 1))).rowIs b 173 m _ ∧ Keep b w (((((wc.setCell ⟨b, j * 8 + 3, none⟩ (.string (mtB (k + j * 8 + 3)))).setCell ⟨b, j * 8 + 4, none⟩ (.int .i64 (((k + j * 8 : Nat) : Int) + 1 + 1 + 1 + 1))).setCell ⟨b, j * 8 + 5, none⟩ (.int .i64 (((k + j * 8 : Nat) : Int) + 1 + 1 + 1 + 1 + 1))).setCell ⟨b, j * 8 + 6, none⟩ (.int .i64 (((k + j * 8 : Nat) : Int) + 1 + 1 + 1 + 1 + 1 + 1))).setCell ⟨b, j * 8 + 7, none⟩ (.int .i64 (((k + j * 8 : Nat) : Int) + 1 + 1 + 1 + 1 + 1 + 1 + 1)))) := ⟨(((((Rc.set (j * 8 + 3) (.string (mtB (k + j * 8 + 3)))).set (j * 8 + 4) (.int .i64 (((k + j * 8 : Nat) : Int) + 1 + 1 + 1 + 1))).set (j * 8 + 5) (.int .i64 (((k + j * 8 : Nat) : Int) + 1 + 1 + 1 + 1 + 1))).set (j * 8 + 6) (.int .i64 (((k + j * 8 : Nat) : Int) + 1 + 1 + 1 + 1 + 1 + 1))).set (j * 8 + 7) (.int .i64 (((k + j * 8 : Nat) : Int) + 1 + 1 + 1 + 1 + 1 + 1 + 1))), ((((((HB.out.2.trans (Keep.of_below hbc)).setCell _ _).setCell _ _).setCell _ _).setCell _ _).setCell _ _)⟩
        clear hbc Rc cb1 cb2 fb
        go_wp2
        go_roundw
        case rel =>
          refine ⟨j + 1, _, by go_num, by go_num, by omega, HC.out.1, fun i hi => ?_, HC.out.2⟩
          by_cases e1 : i = j
          · subst e1
            refine ⟨?_, ?_, ?_, ?_, ?_, ?_, ?_, ?_⟩
            · rw [if_neg (by omega), if_neg (by omega), if_neg (by omega), if_neg (by omega), if_neg (by omega), if_neg (by omega), if_neg (by omega), if_pos rfl]
            · rw [if_neg (by omega), if_neg (by omega), if_neg (by omega), if_neg (by omega), if_neg (by omega), if_neg (by omega), if_pos rfl]
            · rw [if_neg (by omega), if_neg (by omega), if_neg (by omega), if_neg (by omega), if_neg (by omega), if_pos rfl]
              first | rfl | (congr 1; omega)
            · rw [if_neg (by omega), if_neg (by omega), if_neg (by omega), if_neg (by omega), if_pos rfl]
            · rw [if_neg (by omega), if_neg (by omega), if_neg (by omega), if_pos rfl]
              first | rfl | (congr 1; omega)
            · rw [if_neg (by omega), if_neg (by omega), if_pos rfl]
              first | rfl | (congr 1; omega)
            · rw [if_neg (by omega), if_pos rfl]
              first | rfl | (congr 1; omega)
            · rw [if_pos rfl]
              first | rfl | (congr 1; omega)
          · obtain ⟨r0, r1, r2, r3, r4, r5, r6, r7⟩ := HS.out.2.1 i (by omega)
            refine ⟨?_, ?_, ?_, ?_, ?_, ?_, ?_, ?_⟩
            all_goals rw [if_neg (by omega), if_neg (by omega), if_neg (by omega), if_neg (by omega), if_neg (by omega), if_neg (by omega), if_neg (by omega), if_neg (by omega)]
            all_goals assumption
        case measure => simp [intOf]; omega
      · obtain rfl : j = rs.length := by omega
        go_wp2
        go_ret
        refine ⟨rfl, ⟨⟨_, _, by rw [mkOls_len], fun _ => ⟨rfl, m, f, HS.out.1, by rw [mkOls_len]; exact hm, fun i g hi => ?_⟩⟩, by rw [mkOls_len]; exact hlen, mkOls_sizes⟩, HS.out.2.2⟩
        obtain ⟨hi', rfl⟩ := mkOls_at hi
        exact HS.out.2.1 i hi'
set_option maxRecDepth 20000 in
set_option maxHeartbeats 8000000 in
theorem heldOl_any (v : Value) (k n : Nat) (w : World) (h : RowOl w v (mkOls k n)) (hk : 0 < k ∧ k + n * 8 < 1000000000000) :
    Calls Tryz.prog 115 #[v, .int .i64 (k : Int)] w fun e w' => e = .returned (.int .i64 ((k + n * 8 : Nat) : Int)) ∧ Below w.heap.size w w' := by
  have hlen := h.len
  obtain ⟨a, cap, rfl⟩ := h.val
  have H0 : Hid (RowOl w (.slice a (mkOls k n).length cap) (mkOls k n)) := h
  have hml : (mkOls k n).length = n := mkOls_len k n
  clear h
  go_enter Tryz.func115, Tryz.ntmps115
  go_wp2
  try rw [hml]
  go_loopw [1, 5] (fun q i wr => ∃ j : Nat, q = .int .i64 ((k + j * 8 : Nat) : Int) ∧ i = .int .i64 (j : Int) ∧ j ≤ n ∧ Below w.heap.size w wr) (fun _ i _ => n - (intOf i).toNat)
  case atStart => exact ⟨0, by simp, rfl, by omega, Below.refl _ _⟩
  case round =>
    obtain ⟨j, rfl, rfl, hj, hb⟩ := hrel
    by_cases hlt : j < n
    · have hlt' : (j : Int) < (n : Int) := by omega
      obtain ⟨b, o, cap', g, e, hs, hat, _⟩ := (H0.out.below hb).at (k := j) (by omega)
      simp only [Value.slice.injEq, true_and] at e
      obtain ⟨rfl, rfl⟩ := e
      obtain ⟨_, rfl⟩ := mkOls_at hs
      have HB : Hid (Below w.heap.size w wr) := hb
      have HQ : Hid (∀ W, Below wr.heap.size wr W → W.cell? ⟨b, o + j * 8, none⟩ = some (.string (mtB (k + j * 8))) ∧ W.cell? ⟨b, o + j * 8 + 1, none⟩ = some (.string (mtB (k + j * 8 + 1))) ∧ W.cell? ⟨b, o + j * 8 + 2, none⟩ = some (.int .i64 (((k + j * 8 + 2 : Nat) : Int))) ∧ W.cell? ⟨b, o + j * 8 + 3, none⟩ = some (.string (mtB (k + j * 8 + 3))) ∧ W.cell? ⟨b, o + j * 8 + 4, none⟩ = some (.int .i64 (((k + j * 8 + 4 : Nat) : Int))) ∧ W.cell? ⟨b, o + j * 8 + 5, none⟩ = some (.int .i64 (((k + j * 8 + 5 : Nat) : Int))) ∧ W.cell? ⟨b, o + j * 8 + 6, none⟩ = some (.int .i64 (((k + j * 8 + 6 : Nat) : Int))) ∧ W.cell? ⟨b, o + j * 8 + 7, none⟩ = some (.int .i64 (((k + j * 8 + 7 : Nat) : Int)))) := fun W hW => by
        obtain ⟨r0, r1, r2, r3, r4, r5, r6, r7⟩ := hat.below hW
        exact ⟨r0, r1, r2, r3, r4, r5, r6, r7⟩
      clear hs hb hat
      obtain ⟨q0, q1, q2, q3, q4, q5, q6, q7⟩ := HQ.out wr (Below.refl _ _)
      go_upto_region 4 with fail
      have l0 := cell_lt q0
      go_region_held3 (fun W => W.cell? ⟨b, o + j * 8, none⟩ = some (.string (mtB (k + j * 8)))) (go_keep) (first | (go_at_call 100; refine (markText_b _ (k + j * 8) (by omega) _ (by omega) (by omega)).mono ?_; rintro e wa ⟨rfl, hba⟩; have y0 := (hba.cell (p := ⟨b, o + j * 8, none⟩) l0).trans q0))
      rename_i hHeld
      clear hHeld
      have ba : Below wr.heap.size wr wa := (Below.refl wr.heap.size wr).trans (((Below.refl _ wr).drew.trans hba).mono (Below.refl wr.heap.size wr).size)
      clear hba y0 l0 q0 q1 q2 q3 q4 q5 q6 q7
      obtain ⟨q0, q1, q2, q3, q4, q5, q6, q7⟩ := HQ.out wa ba
      go_upto_region 7 with fail
      have l1 := cell_lt q1
      go_region_held3 (fun W => W.cell? ⟨b, o + j * 8 + 1, none⟩ = some (.string (mtB (k + j * 8 + 1)))) (go_keep) (first | (go_at_call 100; refine (markText_b _ (k + j * 8 + 1) (by omega) _ (by omega) (by omega)).mono ?_; rintro e wb ⟨rfl, hbb⟩; have y1 := (hbb.cell (p := ⟨b, o + j * 8 + 1, none⟩) l1).trans q1))
      rename_i hHeld
      clear hHeld
      have bb : Below wr.heap.size wr wb := ba.trans (((Below.refl _ wa).drew.trans hbb).mono ba.size)
      clear hbb y1 l1 q0 q1 q2 q3 q4 q5 q6 q7
      obtain ⟨q0, q1, q2, q3, q4, q5, q6, q7⟩ := HQ.out wb bb
      go_upto_region 13 with fail
      have l3 := cell_lt q3
      go_region_held3 (fun W => W.cell? ⟨b, o + j * 8 + 3, none⟩ = some (.string (mtB (k + j * 8 + 3)))) (go_keep) (first | (go_at_call 100; refine (markText_b _ (k + j * 8 + 3) (by omega) _ (by omega) (by omega)).mono ?_; rintro e wc ⟨rfl, hbc⟩; have y3 := (hbc.cell (p := ⟨b, o + j * 8 + 3, none⟩) l3).trans q3))
      rename_i hHeld
      clear hHeld
      have bc : Below wr.heap.size wr wc := bb.trans (((Below.refl _ wb).drew.trans hbc).mono bb.size)
      clear hbc y3 l3 q0 q1 q2 q3 q4 q5 q6 q7
      obtain ⟨q0, q1, q2, q3, q4, q5, q6, q7⟩ := HQ.out wc bc
      have HD : Hid (Below w.heap.size w wc) := HB.out.trans (bc.mono HB.out.size)
      clear ba bb bc
      go_wp2
      go_roundw
      case rel => exact ⟨j + 1, by go_num, by go_num, by omega, HD.out⟩
      case measure => simp [intOf]; omega
    · obtain rfl : j = n := by omega
      have HB : Hid (Below w.heap.size w wr) := hb
      clear hb
      go_wp2
      go_ret
      exact ⟨rfl, HB.out⟩
end Go.Proofs.YtagajindaipaeaaGreat
