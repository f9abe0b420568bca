/- Texts of ours put together: RnI. -/
import Derived.Test.YtiakkpglnijapaaG30
import Derived.Test.YtiakkpglnijapaaG51
import Derived.Test.YtiakkpglnijapaaG31
namespace Go.Proofs.Ytiakkpglnijapaa
open Go.ChangeShapes Go.WideShapes Go.ChangeAt Go.RowKit
open Go.Sort
theorem cell_newN (W : World) (z : Int) : (W.alloc (.cells #[.int .i64 z] 2)).cell? ⟨W.heap.size, 0, none⟩ = some (.int .i64 z) := by simp [go_sem]
open Classical in
noncomputable def risB (ds : List Int) : Bool := decide (RisD ds)
theorem risB_yes {ds : List Int} (h : RisD ds) : risB ds = true := by simp [risB, h]
theorem risB_no {ds : List Int} (h : ¬ RisD ds) : risB ds = false := by simp [risB, h]
theorem risB_iff {ds : List Int} : risB ds = true ↔ RisD ds := by simp [risB]
theorem risB_iff' {ds : List Int} : risB ds = false ↔ ¬ RisD ds := by simp [risB]
set_option maxHeartbeats 4000000 in
theorem rising_any (v : Value) (ds : List Int) (w : World) (h : RowN w v ds) : Calls Try.prog 33 #[v] w fun e w' => e = .returned (.bool (risB ds)) ∧ w' = w := by
  have hlen := h.len
  obtain ⟨A, C, rfl⟩ := h.val
  have HR : Hid (RowN w (.slice A ds.length C) ds) := h
  clear h
  go_enter Try.func33, Try.ntmps33
  go_wp2_with fail
  go_loopw [3, 8] (fun la i wr => ∃ (k : Nat) (z : Int), i = .int .i64 (k : Int) ∧ la = .int .i64 z ∧ k ≤ ds.length ∧ wr = w ∧ (k = 0 → z = -1) ∧ (0 < k → ds[k - 1]? = some z) ∧ ∀ i d, i < k → ds[i]? = some d → dayB d = true ∧ ∀ e, 0 < i → ds[i - 1]? = some e → e < d) (fun _ i _ => ds.length - (intOf i).toNat)
  case atStart => exact ⟨0, -1, rfl, rfl, by omega, rfl, fun _ => rfl, fun h => by omega, fun i d hi => by omega⟩
  case round =>
    obtain ⟨k, z, rfl, rfl, hk, hw, hz0, hz1, hA⟩ := hrel
    have hw' := hw.symm
    clear hw
    subst hw'
    have HI : Hid ((k = 0 → z = -1) ∧ (0 < k → ds[k - 1]? = some z) ∧ ∀ i d, i < k → ds[i]? = some d → dayB d = true ∧ ∀ e, 0 < i → ds[i - 1]? = some e → e < d) := ⟨hz0, hz1, hA⟩
    clear hz0 hz1 hA
    by_cases hlt : k < ds.length
    · have hlt' : (k : Int) < (ds.length : Int) := by omega
      obtain ⟨b, o, cap', d, e, hs, q0⟩ := HR.out.at hlt
      simp only [Value.slice.injEq, true_and] at e
      obtain ⟨rfl, rfl⟩ := e
      have HS : Hid (ds[k]? = some d) := hs
      clear hs
      have Q := isDay_any d
      cases hdb : dayB d
      · rw [hdb] at Q
        have HN : Hid (risB ds = false) := risB_no fun h => by have := (h.at_ k d HS.out).1; rw [hdb] at this; cases this
        go_wp2_with (first | (go_at_call 38; refine (Q _).mono ?_; rintro e w2 ⟨rfl, rfl⟩))
        go_ret
        exact ⟨by rw [HN.out]; rfl, rfl⟩
      · rw [hdb] at Q
        have hd0 := (dayB_iff.1 hdb).1
        by_cases hle : d ≤ z
        · have HN : Hid (risB ds = false) := risB_no fun h => by
            have h1 := h.at_ k d HS.out
            rcases Nat.eq_zero_or_pos k with k0 | k0
            · have := HI.out.1 k0; omega
            · have := h1.2 z k0 (HI.out.2.1 k0); omega
          go_wp2_with (first | (go_at_call 38; refine (Q _).mono ?_; rintro e w2 ⟨rfl, rfl⟩))
          go_ret
          exact ⟨by rw [HN.out]; rfl, rfl⟩
        · have HD : Hid (dayB d = true ∧ z < d) := ⟨hdb, by omega⟩
          clear hdb
          go_wp2_with (first | (go_at_call 38; refine (Q _).mono ?_; rintro e w2 ⟨rfl, rfl⟩))
          go_roundw
          case rel =>
            refine ⟨k + 1, d, by go_num, rfl, by omega, by first | rfl | trivial, fun h => by omega, fun _ => by simpa using HS.out, fun i y hi hy => ?_⟩
            rcases Nat.lt_or_ge i k with g | g
            · exact HI.out.2.2 i y g hy
            · obtain rfl : i = k := by omega
              rw [HS.out] at hy
              cases hy
              refine ⟨HD.out.1, fun e h0 he => ?_⟩
              rw [HI.out.2.1 h0] at he
              cases he
              exact HD.out.2
          case measure => simp [intOf]; omega
    · obtain rfl : k = ds.length := by omega
      have HN : Hid (risB ds = true) := risB_yes ⟨fun i d hd => HI.out.2.2 i d (List.getElem?_eq_some_iff.1 hd).1 hd⟩
      go_wp2
      go_ret
      exact ⟨by rw [HN.out]; rfl, rfl⟩
/-- What the call leaves. -/
def AnsN (w : World) (L : List Int) (e : Ending) (w' : World) : Prop := ∃ u b, e = .returned u ∧ w.heap.size ≤ b ∧ LN b w' u L ∧ Below w.heap.size w w'
theorem own_belowN {B e K n : Nat} {W W' : World} {v : Value} {xs : List Value} (h : W.ownsRow B e K v n xs) (hb : Below W.heap.size W W') : W'.ownsRow B e K v n xs := by
  refine h.kept (row := none) ⟨hb.os, hb.tape, hb.output, hb.size, fun j hj _ => hb.block j hj⟩ ?_
  rcases h.2 with ⟨e, _⟩ | ⟨g, cap, cur, e, _⟩
  · exact .inl (by rw [e]; rfl)
  · exact .inr (by rw [e]; simp [Value.ownBlock])
theorem own_blockN {B e K n : Nat} {W W' : World} {v : Value} {xs : List Value} (h : W.ownsRow B e K v n xs) (hk : ∀ g, v.ownBlock = some g → W'.heap[g]? = W.heap[g]?) : W'.ownsRow B e K v n xs := by
  refine ⟨h.1, ?_⟩
  rcases h.2 with ⟨e, h0⟩ | ⟨g, cap, cur, rfl, h1, h2, h3⟩
  · exact .inl ⟨e, h0⟩
  · exact .inr ⟨g, cap, cur, rfl, h1, (hk g rfl).trans h2, h3⟩
set_option maxRecDepth 20000 in
set_option maxHeartbeats 8000000 in
theorem outboxRun_impl (o : OutR) (v : Value) (ds : List Int) (w : World) (h : RowN w v ds) (hz : o.partner.size ≤ 9223372036854775807 ∧ o.text.size ≤ 9223372036854775807) : Calls Try.prog 12 #[.agg #[.string o.partner, .int .i64 o.number, .string o.text, .int .i64 o.tries, .int .i64 o.due], v] w fun e w' => AnsN w (runO o ds) e w' := by
  have hlen := h.len
  obtain ⟨A, C, rfl⟩ := h.val
  obtain ⟨W0, hW0⟩ : ∃ W0, w.alloc (.cells #[.string o.partner, .int .i64 o.number, .string o.text, .int .i64 o.tries, .int .i64 o.due] 25) = W0 := ⟨_, rfl⟩
  obtain ⟨B, hB⟩ : ∃ B, B = w.heap.size := ⟨_, rfl⟩
  have hb0 : Below w.heap.size w W0 := by rw [← hW0]; exact (Below.refl _ _).alloc (Nat.le_refl _) _
  have hx0 : W0.heap[B]? = some (.cells #[.string o.partner, .int .i64 o.number, .string o.text, .int .i64 o.tries, .int .i64 o.due] 25) := by rw [← hW0, hB]; exact World.alloc_heap_new _ _
  have H0 : Hid (Below w.heap.size w W0 ∧ W0.heap[B]? = some (.cells #[.string o.partner, .int .i64 o.number, .string o.text, .int .i64 o.tries, .int .i64 o.due] 25) ∧ RowN w (.slice A ds.length C) ds) := ⟨hb0, hx0, h⟩
  have hBw : w.heap.size ≤ B := by omega
  have hBs : B < W0.heap.size := (Array.getElem?_eq_some_iff.1 hx0).1
  have HNO : Hid (∀ W, ¬ RunOk o ds → Below w.heap.size w W → AnsN w (runO o ds) (.returned (.slice none 0 0)) W) := fun W hn hW => ⟨_, w.heap.size, rfl, Nat.le_refl _, by rw [runO_no hn]; exact ⟨⟨_, _, rfl, fun h => absurd rfl h⟩, by simp⟩, hW⟩
  go_enter Try.func12, Try.ntmps12
  go_upto_region 1 with fail
  try rw [hW0]
  try rw [← hB]
  have HBE : Hid (B = w.heap.size) := hB
  clear hW0 hB hb0 h
  obtain ⟨q0, q1, q2, q3, q4⟩ := box5 hx0
  clear hx0
  by_cases hl : 400 < ds.length
  · have hl' : (400 : Int) < (ds.length : Int) := by omega
    go_wp2
    go_ret
    exact HNO.out _ (fun h => by have := h.len; omega) H0.out.1
  have hl' : ¬ (400 : Int) < (ds.length : Int) := by omega
  obtain ⟨ok, hok⟩ : ∃ ok, ok = ouB o := ⟨_, rfl⟩
  have Q1 := fun w => right_any o w hz.2
  rw [← hok] at Q1
  have HOK : Hid (ok = ouB o) := hok
  clear hok
  go_wp2_with fail
  refine (Q1 _).mono ?_
  rintro e w1 ⟨rfl, hb1⟩
  have H1 : Hid (Below w.heap.size w w1 ∧ w1.heap[B]? = some (.cells #[.string o.partner, .int .i64 o.number, .string o.text, .int .i64 o.tries, .int .i64 o.due] 25)) := ⟨H0.out.1.trans (hb1.mono H0.out.1.size), (hb1.block _ hBs).trans H0.out.2.1⟩
  clear hb1 q0 q1 q2 q3 q4 Q1
  cases ok with
  | false =>
    go_wp2
    go_ret
    exact HNO.out _ (fun h => ouB_iff'.1 HOK.out.symm h.ok) H1.out.1
  | true =>
  obtain ⟨ri, hri⟩ : ∃ ri, ri = risB ds := ⟨_, rfl⟩
  have Q2 := rising_any _ ds w1 (H0.out.2.2.below H1.out.1)
  rw [← hri] at Q2
  have HRI : Hid (ri = risB ds) := hri
  clear hri
  cases ri with
  | false =>
    go_wp2_with (first | (go_at_call 33; refine Q2.mono ?_; rintro e w2 ⟨rfl, rfl⟩))
    go_ret
    exact HNO.out _ (fun h => risB_iff'.1 HRI.out.symm h.ris) H1.out.1
  | true =>
  have HRO : Hid (RunOk o ds) := ⟨by omega, ouB_iff.1 HOK.out.symm, risB_iff.1 HRI.out.symm⟩
  go_upto_region 3 with (first | (go_at_call 33; refine Q2.mono ?_; rintro e w2 ⟨rfl, rfl⟩))
  clear Q2
  have hgb := H1.out.1.size
  go_wp2_with fail
  go_loopw [5, 23] (fun lv i wr => ∃ (k : Nat) (x : OutR) (acc : List Int), i = .int .i64 (k : Int) ∧ k ≤ ds.length ∧ (∃ A C, lv = .slice A acc.length C) ∧ acc.length ≤ k ∧ wr.ownsRow w2.heap.size 2 1 lv acc.length (acc.map (Value.int .i64)) ∧ Keep B w2 wr ∧ wr.heap[B]? = some (.cells #[.string x.partner, .int .i64 x.number, .string x.text, .int .i64 x.tries, .int .i64 x.due] 25) ∧ OuOk x ∧ (x.partner.size ≤ 9223372036854775807 ∧ x.text.size ≤ 9223372036854775807) ∧ runD o ds = acc ++ runD x (ds.drop k)) (fun _ i _ => ds.length - (intOf i).toNat)
  case atStart => exact ⟨0, o, [], rfl, by omega, ⟨none, 0, rfl⟩, by simp, World.ownsRow_nil _ _ _ _, Keep.refl _ _, H1.out.2, HRO.out.ok, hz, by simp⟩
  case round =>
    obtain ⟨k, x, acc, rfl, hk, ⟨A1, C1, rfl⟩, hac, hown, hkp, hbx, hox, hzx, hru⟩ := hrel
    have HI : Hid (wr.ownsRow w2.heap.size 2 1 (.slice A1 acc.length C1) acc.length (acc.map (Value.int .i64)) ∧ Keep B w2 wr ∧ wr.heap[B]? = some (.cells #[.string x.partner, .int .i64 x.number, .string x.text, .int .i64 x.tries, .int .i64 x.due] 25) ∧ OuOk x ∧ (x.partner.size ≤ 9223372036854775807 ∧ x.text.size ≤ 9223372036854775807) ∧ runD o ds = acc ++ runD x (ds.drop k)) := ⟨hown, hkp, hbx, hox, hzx, hru⟩
    have hbel : Below w.heap.size w wr := H1.out.1.trans (hkp.below hBw hgb)
    obtain ⟨q0, q1, q2, q3, q4⟩ := box5 hbx
    clear hown hkp hbx hox hzx hru
    by_cases hlt : k < ds.length
    · have hlt' : (k : Int) < (ds.length : Int) := by omega
      obtain ⟨bb, oo, cap', d, e, hs, z0⟩ := (H0.out.2.2.below hbel).at hlt
      simp only [Value.slice.injEq, true_and] at e
      obtain ⟨rfl, rfl⟩ := e
      have HS : Hid (ds[k]? = some d ∧ dayB d = true) := ⟨hs, (HRO.out.ris.at_ k d hs).1⟩
      have HBL : Hid (Below w.heap.size w wr) := hbel
      clear hs hbel
      obtain ⟨sn, hsn⟩ : ∃ sn, sn = sntB d x := ⟨_, rfl⟩
      have Q5 := sentOn_any x d
      rw [← hsn] at Q5
      have HSN : Hid (sn = sntB d x) := hsn
      clear hsn
      go_wp2_with fail
      refine (Q5 _).mono ?_
      rintro e w3 ⟨rfl, hb3⟩
      have H3 : Hid (w3.ownsRow w2.heap.size 2 1 (.slice A1 acc.length C1) acc.length (acc.map (Value.int .i64)) ∧ Keep B w2 w3 ∧ w3.heap[B]? = some (.cells #[.string x.partner, .int .i64 x.number, .string x.text, .int .i64 x.tries, .int .i64 x.due] 25)) := ⟨own_belowN HI.out.1 hb3, HI.out.2.1.trans (Keep.of_below hb3), (hb3.block _ (Array.getElem?_eq_some_iff.1 HI.out.2.2.1).1).trans HI.out.2.2.1⟩
      clear hb3 q0 q1 q2 q3 q4 Q5 z0
      cases sn with
      | false =>
        go_wp2
        go_roundw
        case rel => exact ⟨k + 1, x, acc, by go_num, by omega, ⟨_, _, rfl⟩, by omega, H3.out.1, H3.out.2.1, H3.out.2.2, HI.out.2.2.2.1, HI.out.2.2.2.2.1, by rw [HI.out.2.2.2.2.2, runD_step HS.out.1, ← HSN.out]; rfl⟩
        case measure => simp [intOf]; omega
      | true =>
        have hle3 : w2.heap.size ≤ w3.heap.size := H3.out.2.1.size
        go_upto_region 9 with (first | (at_builtin; refine wpList_appN (z := d) (zs := acc) (base := w2.heap.size) rfl _ _ rfl rfl rfl (H3.out.1.alloc _) (cell_newN _ _) (by omega) (by simp only [World.size_alloc]; omega) ?_; rintro v6 w6 hown6 hgrow6 ⟨A6, C6, rfl⟩))
        have hbx6 : w6.heap[B]? = some (.cells #[.string x.partner, .int .i64 x.number, .string x.text, .int .i64 x.tries, .int .i64 x.due] 25) := by
          have hBl := (Array.getElem?_eq_some_iff.1 H3.out.2.2).1
          rw [hgrow6.block B (by simp only [World.size_alloc]; omega) (fun e => ?_)]
          · rw [((Below.refl w3.heap.size w3).alloc (Nat.le_refl _) _).block B hBl]
            exact H3.out.2.2
          · have := (H3.out.1.lt B e.symm).1
            have := (Array.getElem?_eq_some_iff.1 H1.out.2).1
            omega
        have hkp6 : Keep B w2 w6 := by
          refine ⟨hgrow6.os.trans H3.out.2.1.os, hgrow6.tape.trans H3.out.2.1.tape, hgrow6.output.trans H3.out.2.1.output, Nat.le_trans hle3 (Nat.le_trans (by simp) hgrow6.size), fun q hq hne => ?_⟩
          rw [hgrow6.block q (by simp only [World.size_alloc]; omega) (fun e => by have := (H3.out.1.lt q e.symm).1; omega), ((Below.refl w3.heap.size w3).alloc (Nat.le_refl _) _).block q (by omega)]
          exact H3.out.2.1.block q hq hne
        have H6 : Hid (w6.ownsRow w2.heap.size 2 1 (.slice A6 (acc.length + 1) C6) (acc ++ [d]).length ((acc ++ [d]).map (Value.int .i64)) ∧ Keep B w2 w6 ∧ w6.heap[B]? = some (.cells #[.string x.partner, .int .i64 x.number, .string x.text, .int .i64 x.tries, .int .i64 x.due] 25)) := ⟨hown6, hkp6, hbx6⟩
        obtain ⟨q0, q1, q2, q3, q4⟩ := box5 hbx6
        clear hown6 hgrow6 hbx6 hkp6
        have QT := fun w => tried_any x d w ⟨HI.out.2.2.2.1.r0, HI.out.2.2.2.1.r5⟩ (dayB_iff.1 HS.out.2)
        go_wp2_with fail
        refine (QT _).mono ?_
        rintro e w7 ⟨rfl, hb7⟩
        have H7 : Hid (w7.ownsRow w2.heap.size 2 1 (.slice A6 (acc.length + 1) C6) (acc ++ [d]).length ((acc ++ [d]).map (Value.int .i64)) ∧ Keep B w2 w7 ∧ w7.heap[B]? = some (.cells #[.string x.partner, .int .i64 x.number, .string x.text, .int .i64 x.tries, .int .i64 x.due] 25)) := ⟨own_belowN H6.out.1 hb7, H6.out.2.1.trans (Keep.of_below hb7), (hb7.block _ (Array.getElem?_eq_some_iff.1 H6.out.2.2).1).trans H6.out.2.2⟩
        clear hb7 q0 q1 q2 q3 q4 QT
        obtain ⟨q0, q1, q2, q3, q4⟩ := box5 H7.out.2.2
        have hfB : ∀ j, w7.frozen? ⟨B, j, none⟩ = false := fun j => by
          have hx := H7.out.2.2
          simp [World.frozen?, hx]
        go_wp2
        go_roundw
        case rel =>
          have hBN : B < w2.heap.size := (Array.getElem?_eq_some_iff.1 H1.out.2).1
          refine ⟨k + 1, trdO d x, acc ++ [d], by go_num, by omega, ⟨A6, C6, by simp⟩, by simp; omega, ?_, ((((H7.out.2.1.setCell _ _).setCell _ _).setCell _ _).setCell _ _).setCell _ _, set5 H7.out.2.2, trd_ok HI.out.2.2.2.1 HSN.out.symm HS.out.2, HI.out.2.2.2.2.1, ?_⟩
          · have hh : ∀ i y (W : World), W.ownsRow w2.heap.size 2 1 (.slice A6 (acc.length + 1) C6) (acc ++ [d]).length ((acc ++ [d]).map (Value.int .i64)) → (W.setCell ⟨B, i, none⟩ y).ownsRow w2.heap.size 2 1 (.slice A6 (acc.length + 1) C6) (acc ++ [d]).length ((acc ++ [d]).map (Value.int .i64)) := fun i y W h => own_blockN h fun g hg => set_other W g B i y (by have := (h.lt g hg).1; omega)
            exact hh _ _ _ (hh _ _ _ (hh _ _ _ (hh _ _ _ (hh _ _ _ H7.out.1))))
          · rw [HI.out.2.2.2.2.2, runD_step HS.out.1, ← HSN.out]
            simp
        case measure => simp [intOf]; omega
    · obtain rfl : k = ds.length := by omega
      have HF : Hid (Below w.heap.size w wr) := hbel
      clear hbel q0 q1 q2 q3 q4
      go_wp2
      go_ret
      obtain ⟨b, hb, hL⟩ := LN.of_owns HI.out.1 (by omega)
      refine ⟨_, b, rfl, Nat.le_trans hgb hb, ?_, HF.out⟩
      have e : runO o ds = acc := by
        rw [runO_yes HRO.out, HI.out.2.2.2.2.2, List.drop_length]
        simp [runD]
      rw [e]
      exact hL
end Go.Proofs.Ytiakkpglnijapaa
