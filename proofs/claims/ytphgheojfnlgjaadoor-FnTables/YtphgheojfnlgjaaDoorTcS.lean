/- Contract of the model's TableCheck, at every kind and every list of segments whose texts have at most 2^20 bytes. -/
import Derived.Test.YtphgheojfnlgjaaDoorTcI
import Derived.Test.YtphgheojfnlgjaaDoorFormS
namespace Go.Proofs.YtphgheojfnlgjaaDoor
open Go.ChangeShapes Go.WideShapes Go.ChangeAt Go.RowKit
theorem rows_mostK {k : Nat} (h1 : 1 ≤ k) (h7 : k ≤ 7) : ∀ r ∈ rowsK k, 0 ≤ r.most := by
  obtain rfl | rfl | rfl | rfl | rfl | rfl | rfl : k = 1 ∨ k = 2 ∨ k = 3 ∨ k = 4 ∨ k = 5 ∨ k = 6 ∨ k = 7 := by omega
  all_goals
    intro r hr
    simp only [rowsK, List.mem_cons, List.not_mem_nil, or_false] at hr
    rcases hr with rfl | rfl | rfl <;> decide
set_option maxRecDepth 20000 in
set_option maxHeartbeats 8000000 in
theorem tableCheck_spec (n : Int) (v : Value) (gs : List Seg) (w : World) (h : RowG w v gs) (hG : BdG 1048576 gs) :
    Calls Tryd.prog 5 #[.int .i64 n, v] w fun e w' => e = .returned (tcVal (tcV n gs)) ∧ Below w.heap.size w w' := by
  obtain ⟨a, cap, rfl⟩ := h.val
  have hgl := hG.1
  have b0 : Below w.heap.size w (w.alloc (.cells #[.int .i64 0, .int .i64 0, .int .i64 0] 27)) := (Below.refl _ _).alloc (Nat.le_refl _) _
  by_cases hl : 400 < gs.length
  · have hl' : (400 : Int) < (gs.length : Int) := by omega
    rw [tcV_big hl]
    clear h
    go_enter Tryd.func5, Tryd.ntmps5
    go_wp2
    exact bodyPost_ret (v := tcVal (0, 0, 2)) (by simp [results, Tryd.results5, go_sem, tcVal]) rfl ⟨rfl, by first | exact b0 | exact (Below.refl _ _).alloc (Nat.le_refl _) _⟩
  · have hl' : (gs.length : Int) ≤ 400 := by omega
    by_cases hk : 1 ≤ n ∧ n ≤ 7
    · rw [tcV_yes hl hk]
      have hne : (rowsI n).length ≠ 0 := by
        obtain rfl | rfl | rfl | rfl | rfl | rfl | rfl : n = 1 ∨ n = 2 ∨ n = 3 ∨ n = 4 ∨ n = 5 ∨ n = 6 ∨ n = 7 := by omega
        all_goals decide
      have hrl := rowsI_len n
      have hfm : ∀ r ∈ rowsI n, r.form.length ≤ 1048576 := by
        have : rowsI n = rowsK n.toNat := by simp [rowsI, hk]
        rw [this]
        exact rows_form (by omega) (by omega)
      have HM : Hid (∀ r ∈ rowsI n, 0 ≤ r.most) := by
        have : rowsI n = rowsK n.toNat := by simp [rowsI, hk]
        rw [this]
        exact rows_mostK (by omega) (by omega)
      have H : Hid (RowG (w.alloc (.cells #[.int .i64 0, .int .i64 0, .int .i64 0] 27)) (.slice a gs.length cap) gs ∧ BdG 1048576 gs ∧ ∀ r ∈ rowsI n, r.form.length ≤ 1048576) := ⟨h.below b0, hG, hfm⟩
      generalize hP : tc gs (rowsI n) 0 (bs []) = P
      have HP : Hid (tc gs (rowsI n) 0 (bs []) = P) := hP
      clear hP h hG hfm
      go_enter Tryd.func5, Tryd.ntmps5
      go_wp2_with fail
      refine (tableOf_spec n _).mono ?_
      rintro e w1 ⟨vr, rfl, hO, hb1⟩
      obtain ⟨A, C, rfl, hA⟩ := hO.sl
      have hz : (((rowsI n).length : Int) == 0) = false := by rw [beq_eq_false_iff_ne]; omega
      obtain ⟨b, off, rfl, hR⟩ := hA (by omega)
      have H1 : Hid (RowG w1 (.slice a gs.length cap) gs ∧ RowsAt w1 b off (rowsI n) ∧ Below (w.heap.size + 1) (w.alloc (.cells #[.int .i64 0, .int .i64 0, .int .i64 0] 27)) w1) := ⟨H.out.1.below hb1, hR, hb1.mono (Nat.le_of_eq (World.size_alloc ..).symm)⟩
      clear hA hO hR hb1
      generalize hRs : rowsI n = rs at *
      go_wp2_with fail
      go_loopw [6, 7] (fun av i wr => ∃ (j at_ : Nat) (l : ByteArray), i = .int .i64 (j : Int) ∧ av = .int .i64 (at_ : Int) ∧ j ≤ rs.length ∧ at_ ≤ gs.length ∧ (0 < j → (rs[j - 1]?.map (fun r => bs r.tag)) = some l) ∧ tc gs (rs.drop j) at_ l = P ∧ Below w1.heap.size w1 wr) (fun _ i _ => rs.length - (intOf i).toNat)
      case atStart => exact ⟨0, 0, bs [], rfl, rfl, by omega, by omega, fun h => by omega, HP.out, Below.refl _ _⟩
      case round =>
        obtain ⟨j, at_, l, rfl, rfl, hj, hat, hlast, htc, hbw⟩ := hrel
        have HT : Hid (tc gs (rs.drop j) at_ l = P ∧ (0 < j → (rs[j - 1]?.map (fun r => bs r.tag)) = some l)) := ⟨htc, hlast⟩
        clear htc hlast
        by_cases hlt : j < rs.length
        · have hlt' : (j : Int) < (rs.length : Int) := by omega
          have hr := List.getElem?_eq_getElem hlt
          have hdr : rs.drop j = rs[j] :: rs.drop (j + 1) := List.drop_eq_getElem_cons hlt
          have hfl : (rs[j]).form.length ≤ 1048576 := H.out.2.2 _ (List.getElem_mem hlt)
          have hmo : 0 ≤ (rs[j]).most := HM.out _ (List.getElem_mem hlt)
          generalize rs[j] = r at *
          obtain ⟨q0, q1, q2, q3⟩ := H1.out.2.1 j r hr
          have Hr : Hid (rs[j]? = some r) := hr
          have Hd : Hid (tc gs (r :: rs.drop (j + 1)) at_ l = P) := by show _ = _; rw [← hdr]; exact HT.out.1
          have HWr : Hid (Below w1.heap.size w1 wr) := hbw
          clear hbw hdr hr HT
          generalize hwo : wr = wo at *
          clear hwo
          go_wp2_with fail
          go_loopw [6, 8] (fun av nv wr => ∃ c a2 : Nat, av = .int .i64 (a2 : Int) ∧ nv = .int .i64 (c : Int) ∧ a2 ≤ gs.length ∧ (c : Int) ≤ r.most ∧ (a2 = at_ + c ∧ tk r (gs.drop a2) c = tk r (gs.drop at_) 0) ∧ Below w1.heap.size w1 wr) (fun av _ _ => gs.length - (intOf av).toNat)
          case atStart => exact ⟨0, at_, rfl, rfl, hat, hmo, ⟨rfl, rfl⟩, HWr.out⟩
          case round =>
            obtain ⟨c, a2, rfl, rfl, hac, hcm, ⟨ha2, htk⟩, hbw⟩ := hrel
            have p0 := (hbw.cell (cell_lt q0)).trans q0
            have p1 := (hbw.cell (cell_lt q1)).trans q1
            have p2 := (hbw.cell (cell_lt q2)).trans q2
            have p3 := (hbw.cell (cell_lt q3)).trans q3
            have hw1 : w.heap.size + 1 ≤ w1.heap.size := by have := H1.out.2.2.size; simpa using this
            have hbW : Below (w.heap.size + 1) (w.alloc (.cells #[.int .i64 0, .int .i64 0, .int .i64 0] 27)) wr := H1.out.2.2.trans (hbw.mono hw1)
            have z0 : wr.cell? ⟨w.heap.size, 0, none⟩ = some (.int .i64 0) := (hbW.cell (p := ⟨w.heap.size, 0, none⟩) (by simp)).trans (by simp [go_sem])
            have z1 : wr.cell? ⟨w.heap.size, 1, none⟩ = some (.int .i64 0) := (hbW.cell (p := ⟨w.heap.size, 1, none⟩) (by simp)).trans (by simp [go_sem])
            have z2 : wr.cell? ⟨w.heap.size, 2, none⟩ = some (.int .i64 0) := (hbW.cell (p := ⟨w.heap.size, 2, none⟩) (by simp)).trans (by simp [go_sem])
            have hf : ∀ o, wr.frozen? ⟨w.heap.size, o, none⟩ = false := fun o => by rw [hbW.frozen (p := ⟨w.heap.size, o, none⟩) (by simp)]; exact fz_new ..
            have HW : Hid (Below w.heap.size w wr ∧ Below w1.heap.size w1 wr) := ⟨b0.trans (hbW.mono (by omega)), hbw⟩
            have HK : Hid (tk r (gs.drop a2) c = tk r (gs.drop at_) 0) := htk
            have HA : Hid (a2 = at_ + c) := ha2
            have hcb : c ≤ a2 := by omega
            clear ha2 htk hbW hbw
            by_cases hm : (c : Int) < r.most
            · have hm' : decide ((c : Int) < r.most) = true := decide_eq_true hm
              by_cases hlg : a2 < gs.length
              · have hlg1 : (a2 : Int) < (gs.length : Int) := by omega
                have hlg2 : decide ((a2 : Int) < (gs.length : Int)) = true := decide_eq_true hlg1
                have hlg3 : decide (a2 < gs.length) = true := decide_eq_true hlg
                obtain ⟨bg, og, cg, g, u, hv, hg, s0, s1, hE, hgz⟩ := (H1.out.1.below HW.out.2).at hlg
                simp only [Value.slice.injEq, true_and] at hv
                obtain ⟨rfl, rfl⟩ := hv
                have Hg : Hid (gs[a2]? = some g ∧ RowE wr u g.2) := ⟨hg, hE⟩
                have hdg : gs.drop (a2) = g :: gs.drop (a2 + 1) := by
                  rw [List.drop_eq_getElem_cons hlg]
                  congr 1
                  exact Option.some.inj ((List.getElem?_eq_getElem hlg).symm.trans hg)
                have HD : Hid (gs.drop (a2) = g :: gs.drop (a2 + 1)) := hdg
                clear hg hE hdg
                by_cases ht : g.1 = bs r.tag
                · have ht1 : (g.1.toList == (bs r.tag).toList) = true := by rw [ht]; simp
                  have HKt : Hid (g.1 = bs r.tag) := ht
                  clear ht
                  go_wp2_with fail
                  go_quiet (fail)
                  have e0 : (wr.drewN nq).cell? ⟨b, off + j * 4, none⟩ = some (.string (bs r.tag)) := p0
                  have e1 : (wr.drewN nq).cell? ⟨b, off + j * 4 + 1, none⟩ = some (.int .i64 r.least) := p1
                  have e2 : (wr.drewN nq).cell? ⟨b, off + j * 4 + 2, none⟩ = some (.int .i64 r.most) := p2
                  have e3 : (wr.drewN nq).cell? ⟨b, off + j * 4 + 3, none⟩ = some (.string (bs r.form)) := p3
                  have f0 : (wr.drewN nq).cell? ⟨bg, og + a2 * 2, none⟩ = some (.string g.1) := s0
                  have f1 : (wr.drewN nq).cell? ⟨bg, og + a2 * 2 + 1, none⟩ = some u := s1
                  have v0 : (wr.drewN nq).cell? ⟨w.heap.size, 0, none⟩ = some (.int .i64 0) := z0
                  have v1 : (wr.drewN nq).cell? ⟨w.heap.size, 1, none⟩ = some (.int .i64 0) := z1
                  have v2 : (wr.drewN nq).cell? ⟨w.heap.size, 2, none⟩ = some (.int .i64 0) := z2
                  have vf : ∀ o, (wr.drewN nq).frozen? ⟨w.heap.size, o, none⟩ = false := hf
                  have hB4 : Below wr.heap.size wr (wr.drewN nq) := below_drewN (Below.refl _ _) _
                  have HW4 : Hid (Below w.heap.size w (wr.drewN nq) ∧ Below w1.heap.size w1 (wr.drewN nq)) := ⟨below_drewN HW.out.1 _, below_drewN HW.out.2 _⟩
                  have hE4 := Hg.out.2.below hB4
                  clear hB4
                  generalize wr.drewN nq = w4 at *
                  clear p0 p1 p2 p3 z0 z1 z2 hf HW s0 s1
                  obtain ⟨au, cu, rfl⟩ := hE4.val
                  have HE4 : Hid (RowE w4 (.slice au g.2.length cu) g.2 ∧ BdE 1048576 g.2) := ⟨hE4, (H.out.2.1.2 a2 g Hg.out.1).2⟩
                  have hfz : (bs r.form).size ≤ 1048576 := hfl
                  have hwz : w.heap.size < w4.heap.size := cell_lt v0
                  clear hE4
                  go_wp2_with fail
                  go_region_held3 (fun W => W.cell? ⟨b, off + j * 4 + 3, none⟩ = some (.string (bs r.form)) ∧ W.cell? ⟨bg, og + a2 * 2, none⟩ = some (.string g.1) ∧ W.cell? ⟨bg, og + a2 * 2 + 1, none⟩ = some (.slice au g.2.length cu)) (go_keep) (first | (go_at_call 16; refine (formRight_spec (bs r.form) g.1 _ g.2 _ hfz (HE4.out.1.below (Below.refl _ _).drew) HE4.out.2).mono ?_; rintro e w5 ⟨fr, rfl, hfr, hb5⟩; have g3 : w5.cell? ⟨b, off + j * 4 + 3, none⟩ = some (.string (bs r.form)) := (hb5.cell (p := ⟨b, off + j * 4 + 3, none⟩) (show b < w4.heap.size from cell_lt e3)).trans e3; have i0 : w5.cell? ⟨bg, og + a2 * 2, none⟩ = some (.string g.1) := (hb5.cell (p := ⟨bg, og + a2 * 2, none⟩) (show bg < w4.heap.size from cell_lt f0)).trans f0; have i1 : w5.cell? ⟨bg, og + a2 * 2 + 1, none⟩ = some (.slice au g.2.length cu) := (hb5.cell (p := ⟨bg, og + a2 * 2 + 1, none⟩) (show bg < w4.heap.size from cell_lt f1)).trans f1))
                  rename_i hHeld
                  clear hHeld
                  have t0 : w5.cell? ⟨w.heap.size, 0, none⟩ = some (.int .i64 0) := (hb5.cell (p := ⟨w.heap.size, 0, none⟩) hwz).trans v0
                  have t1 : w5.cell? ⟨w.heap.size, 1, none⟩ = some (.int .i64 0) := (hb5.cell (p := ⟨w.heap.size, 1, none⟩) hwz).trans v1
                  have t2 : w5.cell? ⟨w.heap.size, 2, none⟩ = some (.int .i64 0) := (hb5.cell (p := ⟨w.heap.size, 2, none⟩) hwz).trans v2
                  have tf : ∀ o, w5.frozen? ⟨w.heap.size, o, none⟩ = false := fun o => (hb5.frozen (p := ⟨w.heap.size, o, none⟩) hwz).trans (vf o)
                  have HF : Hid (fr = frV (bs r.form) g.2) := frV_is hfr
                  have HW5 : Hid (Below w.heap.size w w5 ∧ Below w1.heap.size w1 w5) := ⟨HW4.out.1.drew.trans (hb5.mono HW4.out.1.size), HW4.out.2.drew.trans (hb5.mono HW4.out.2.size)⟩
                  clear hb5 hfr v0 v1 v2 vf HW4 e0 e1 e2 e3 f0 f1 g3 i0 i1
                  by_cases hp : 0 ≤ fr
                  · have HPk : Hid (P = ((a2 : Int), fr, 3)) := by
                      have HQ : tk r (gs.drop at_) 0 = (c, fr) := by
                        rw [← HK.out, HD.out, tk, if_neg (fun q => q.elim (fun g => absurd g (by omega)) (fun g => g HKt.out)), if_pos (by rw [← HF.out]; exact hp), ← HF.out]
                      show _ = _
                      rw [← Hd.out, tc, HQ, if_pos hp]
                      simp [HA.out]
                    go_wp2
                    exact bodyPost_ret (v := tcVal ((a2 : Int), fr, 3)) (by simp [results, Tryd.results5, go_sem, tcVal, t0, t1, t2]) rfl ⟨by rw [HPk.out], ((HW5.out.1.setCell (show w.heap.size ≤ w.heap.size from Nat.le_refl _) _).setCell (show w.heap.size ≤ w.heap.size from Nat.le_refl _) _).setCell (show w.heap.size ≤ w.heap.size from Nat.le_refl _) _⟩
                  · have hp' : fr < 0 := by omega
                    have HQ : Hid (tk r (gs.drop (a2 + 1)) (c + 1) = tk r (gs.drop at_) 0) := by
                      show _ = _
                      rw [← HK.out, HD.out, tk, if_neg (fun q => q.elim (fun g => absurd g (by omega)) (fun g => g HKt.out)), if_neg (by rw [← HF.out]; exact hp)]
                    go_wp2
                    go_roundw
                    case rel => exact ⟨c + 1, a2 + 1, by go_num, by go_num, by omega, by omega, ⟨by have := HA.out; omega, HQ.out⟩, HW5.out.2⟩
                    case measure => simp [intOf]; omega
                · have ht1 : (g.1.toList == (bs r.tag).toList) = false := by
                    rw [beq_eq_false_iff_ne]
                    intro e
                    apply ht
                    rw [Lib.toList_data, Lib.toList_data] at e
                    exact ByteArray.ext (Array.toList_inj.1 e)
                  have HQ : Hid (tk r (gs.drop at_) 0 = (c, -1)) := by
                    show _ = _
                    rw [← HK.out, HD.out, tk, if_pos (.inr ht)]
                  clear HK ht
                  go_wp2_with fail
                  go_quiet (fail)
                  have e1 : (wr.drewN nq).cell? ⟨b, off + j * 4 + 1, none⟩ = some (.int .i64 r.least) := p1
                  have v0 : (wr.drewN nq).cell? ⟨w.heap.size, 0, none⟩ = some (.int .i64 0) := z0
                  have v1 : (wr.drewN nq).cell? ⟨w.heap.size, 1, none⟩ = some (.int .i64 0) := z1
                  have v2 : (wr.drewN nq).cell? ⟨w.heap.size, 2, none⟩ = some (.int .i64 0) := z2
                  have vf : ∀ o, (wr.drewN nq).frozen? ⟨w.heap.size, o, none⟩ = false := hf
                  have HW4 : Hid (Below w.heap.size w (wr.drewN nq) ∧ Below w1.heap.size w1 (wr.drewN nq)) := ⟨below_drewN HW.out.1 _, below_drewN HW.out.2 _⟩
                  generalize wr.drewN nq = w4 at *
                  clear p0 p1 p2 p3 z0 z1 z2 hf HW
                  by_cases hle : (c : Int) < r.least
                  · have HPk : Hid (P = ((a2 : Int), 0, 4)) := by show _ = _; rw [← Hd.out, tc, HQ.out, if_neg (by simp), if_pos hle]; simp [HA.out]
                    go_wp2
                    exact bodyPost_ret (v := tcVal ((a2 : Int), 0, 4)) (by simp [results, Tryd.results5, go_sem, tcVal, v0, v1, v2]) rfl ⟨by rw [HPk.out], ((HW4.out.1.setCell (show w.heap.size ≤ w.heap.size from Nat.le_refl _) _).setCell (show w.heap.size ≤ w.heap.size from Nat.le_refl _) _).setCell (show w.heap.size ≤ w.heap.size from Nat.le_refl _) _⟩
                  · have hle' : r.least ≤ (c : Int) := by omega
                    have HPk : Hid (tc gs (rs.drop (j + 1)) a2 (bs r.tag) = P) := by
                      show _ = _
                      rw [← Hd.out, HA.out]
                      conv => rhs; rw [tc, HQ.out, if_neg (by simp), if_neg hle]
                    go_wp2
                    go_roundw
                    case rel => exact ⟨j + 1, a2, bs r.tag, by go_num, rfl, by omega, by omega, fun _ => by rw [show j + 1 - 1 = j from rfl, Hr.out]; rfl, HPk.out, HW4.out.2⟩
                    case measure => simp [intOf]; omega
              · obtain hlg0 : a2 = gs.length := by omega
                have hlg1 : ¬ (a2 : Int) < (gs.length : Int) := by omega
                have hlg2 : decide ((a2 : Int) < (gs.length : Int)) = false := decide_eq_false hlg1
                have hlg3 : decide (a2 < gs.length) = false := decide_eq_false hlg
                have HQ : Hid (tk r (gs.drop at_) 0 = (c, -1)) := by show _ = _; rw [← HK.out, hlg0, List.drop_length]; rfl
                clear HK
                clear hlg0
                go_wp2_with fail
                go_quiet (fail)
                have e1 : (wr.drewN nq).cell? ⟨b, off + j * 4 + 1, none⟩ = some (.int .i64 r.least) := p1
                have v0 : (wr.drewN nq).cell? ⟨w.heap.size, 0, none⟩ = some (.int .i64 0) := z0
                have v1 : (wr.drewN nq).cell? ⟨w.heap.size, 1, none⟩ = some (.int .i64 0) := z1
                have v2 : (wr.drewN nq).cell? ⟨w.heap.size, 2, none⟩ = some (.int .i64 0) := z2
                have vf : ∀ o, (wr.drewN nq).frozen? ⟨w.heap.size, o, none⟩ = false := hf
                have HW4 : Hid (Below w.heap.size w (wr.drewN nq) ∧ Below w1.heap.size w1 (wr.drewN nq)) := ⟨below_drewN HW.out.1 _, below_drewN HW.out.2 _⟩
                generalize wr.drewN nq = w4 at *
                clear p0 p1 p2 p3 z0 z1 z2 hf HW
                by_cases hle : (c : Int) < r.least
                · have HPk : Hid (P = ((a2 : Int), 0, 4)) := by show _ = _; rw [← Hd.out, tc, HQ.out, if_neg (by simp), if_pos hle]; simp [HA.out]
                  go_wp2
                  exact bodyPost_ret (v := tcVal ((a2 : Int), 0, 4)) (by simp [results, Tryd.results5, go_sem, tcVal, v0, v1, v2]) rfl ⟨by rw [HPk.out], ((HW4.out.1.setCell (show w.heap.size ≤ w.heap.size from Nat.le_refl _) _).setCell (show w.heap.size ≤ w.heap.size from Nat.le_refl _) _).setCell (show w.heap.size ≤ w.heap.size from Nat.le_refl _) _⟩
                · have hle' : r.least ≤ (c : Int) := by omega
                  have HPk : Hid (tc gs (rs.drop (j + 1)) a2 (bs r.tag) = P) := by
                    show _ = _
                    rw [← Hd.out, HA.out]
                    conv => rhs; rw [tc, HQ.out, if_neg (by simp), if_neg hle]
                  go_wp2
                  go_roundw
                  case rel => exact ⟨j + 1, a2, bs r.tag, by go_num, rfl, by omega, by omega, fun _ => by rw [show j + 1 - 1 = j from rfl, Hr.out]; rfl, HPk.out, HW4.out.2⟩
                  case measure => simp [intOf]; omega
            · have hm0 : (c : Int) = r.most := by omega
              have hm1 : decide ((c : Int) < r.most) = false := decide_eq_false hm
              have HQ : Hid (tk r (gs.drop at_) 0 = (c, -1)) := by
                show _ = _
                rw [← HK.out]
                cases gs.drop (a2) with
                | nil => rfl
                | cons g t => rw [tk, if_pos (.inl hm0)]
              clear HK hm0
              go_wp2_with fail
              go_quiet (fail)
              have e1 : (wr.drewN nq).cell? ⟨b, off + j * 4 + 1, none⟩ = some (.int .i64 r.least) := p1
              have v0 : (wr.drewN nq).cell? ⟨w.heap.size, 0, none⟩ = some (.int .i64 0) := z0
              have v1 : (wr.drewN nq).cell? ⟨w.heap.size, 1, none⟩ = some (.int .i64 0) := z1
              have v2 : (wr.drewN nq).cell? ⟨w.heap.size, 2, none⟩ = some (.int .i64 0) := z2
              have vf : ∀ o, (wr.drewN nq).frozen? ⟨w.heap.size, o, none⟩ = false := hf
              have HW4 : Hid (Below w.heap.size w (wr.drewN nq) ∧ Below w1.heap.size w1 (wr.drewN nq)) := ⟨below_drewN HW.out.1 _, below_drewN HW.out.2 _⟩
              generalize wr.drewN nq = w4 at *
              clear p0 p1 p2 p3 z0 z1 z2 hf HW
              by_cases hle : (c : Int) < r.least
              · have HPk : Hid (P = ((a2 : Int), 0, 4)) := by show _ = _; rw [← Hd.out, tc, HQ.out, if_neg (by simp), if_pos hle]; simp [HA.out]
                go_wp2
                exact bodyPost_ret (v := tcVal ((a2 : Int), 0, 4)) (by simp [results, Tryd.results5, go_sem, tcVal, v0, v1, v2]) rfl ⟨by rw [HPk.out], ((HW4.out.1.setCell (show w.heap.size ≤ w.heap.size from Nat.le_refl _) _).setCell (show w.heap.size ≤ w.heap.size from Nat.le_refl _) _).setCell (show w.heap.size ≤ w.heap.size from Nat.le_refl _) _⟩
              · have hle' : r.least ≤ (c : Int) := by omega
                have HPk : Hid (tc gs (rs.drop (j + 1)) a2 (bs r.tag) = P) := by
                  show _ = _
                  rw [← Hd.out, HA.out]
                  conv => rhs; rw [tc, HQ.out, if_neg (by simp), if_neg hle]
                go_wp2
                go_roundw
                case rel => exact ⟨j + 1, a2, bs r.tag, by go_num, rfl, by omega, by omega, fun _ => by rw [show j + 1 - 1 = j from rfl, Hr.out]; rfl, HPk.out, HW4.out.2⟩
                case measure => simp [intOf]; omega
        · obtain rfl : j = rs.length := by omega
          obtain ⟨m, hm⟩ : ∃ m, rs.length = m + 1 := ⟨rs.length - 1, by omega⟩
          obtain ⟨rl, hrl2, hltag⟩ : ∃ rl, rs[m]? = some rl ∧ bs rl.tag = l := by
            have := HT.out.2 (by omega)
            rw [hm, Nat.add_sub_cancel] at this
            cases hx : rs[m]? with
            | none => rw [hx] at this; cases this
            | some rl => rw [hx] at this; exact ⟨rl, rfl, by simpa using this⟩
          obtain ⟨q0, _, _, _⟩ := H1.out.2.1 m rl hrl2
          have HE : Hid (tc gs [] at_ l = P) := by show _ = _; rw [← HT.out.1, List.drop_length]
          have hw1 : w.heap.size + 1 ≤ w1.heap.size := by have := H1.out.2.2.size; simpa using this
          have hbW : Below (w.heap.size + 1) (w.alloc (.cells #[.int .i64 0, .int .i64 0, .int .i64 0] 27)) wr := H1.out.2.2.trans (hbw.mono hw1)
          have z0 : wr.cell? ⟨w.heap.size, 0, none⟩ = some (.int .i64 0) := (hbW.cell (p := ⟨w.heap.size, 0, none⟩) (by simp)).trans (by simp [go_sem])
          have z1 : wr.cell? ⟨w.heap.size, 1, none⟩ = some (.int .i64 0) := (hbW.cell (p := ⟨w.heap.size, 1, none⟩) (by simp)).trans (by simp [go_sem])
          have z2 : wr.cell? ⟨w.heap.size, 2, none⟩ = some (.int .i64 0) := (hbW.cell (p := ⟨w.heap.size, 2, none⟩) (by simp)).trans (by simp [go_sem])
          have hf : ∀ o, wr.frozen? ⟨w.heap.size, o, none⟩ = false := fun o => by rw [hbW.frozen (p := ⟨w.heap.size, o, none⟩) (by simp)]; exact fz_new ..
          have HW : Hid (Below w.heap.size w wr ∧ Below w1.heap.size w1 wr) := ⟨b0.trans (hbW.mono (by omega)), hbw⟩
          have p0 := (hbw.cell (cell_lt q0)).trans q0
          have HX : Hid (bs rl.tag = l) := hltag
          clear hbW hbw HT q0 hltag
          by_cases hae : at_ = gs.length
          · have hae1 : ¬ (at_ : Int) < (gs.length : Int) := by omega
            have HPk : Hid (P = (0, 0, 0)) := by show _ = _; rw [← HE.out, tc, if_pos hae]
            clear hae
            go_wp2
            exact bodyPost_ret (v := tcVal (0, 0, 0)) (by simp [results, Tryd.results5, go_sem, tcVal, z0, z1, z2]) rfl ⟨by rw [HPk.out], ((HW.out.1.setCell (show w.heap.size ≤ w.heap.size from Nat.le_refl _) _).setCell (show w.heap.size ≤ w.heap.size from Nat.le_refl _) _).setCell (show w.heap.size ≤ w.heap.size from Nat.le_refl _) _⟩
          · have hlg : at_ < gs.length := by omega
            have hlg1 : (at_ : Int) < (gs.length : Int) := by omega
            obtain ⟨bg, og, cg, g, u, hv, hg, s0, s1, hE, hgz⟩ := (H1.out.1.below HW.out.2).at hlg
            simp only [Value.slice.injEq, true_and] at hv
            obtain ⟨rfl, rfl⟩ := hv
            have Hg : Hid ((gs[at_]?.map (·.1)).getD ⟨#[]⟩ = g.1) := by show _ = _; rw [hg]; rfl
            clear hg hE
            by_cases ht : g.1 = bs rl.tag
            · have ht1 : (g.1.toList == (bs rl.tag).toList) = true := by rw [ht]; simp
              have HPk : Hid (P = ((at_ : Int), 0, 7)) := by show _ = _; rw [← HE.out, tc, if_neg hae, if_pos (by rw [Hg.out, ht]; exact HX.out)]
              clear ht hae
              go_wp2_with fail
              go_quiet (fail)
              have v0 : (wr.drewN nq).cell? ⟨w.heap.size, 0, none⟩ = some (.int .i64 0) := z0
              have v1 : (wr.drewN nq).cell? ⟨w.heap.size, 1, none⟩ = some (.int .i64 0) := z1
              have v2 : (wr.drewN nq).cell? ⟨w.heap.size, 2, none⟩ = some (.int .i64 0) := z2
              have vf : ∀ o, (wr.drewN nq).frozen? ⟨w.heap.size, o, none⟩ = false := hf
              have HW4 : Hid (Below w.heap.size w (wr.drewN nq)) := below_drewN HW.out.1 _
              generalize wr.drewN nq = w4 at *
              clear p0 z0 z1 z2 hf HW s0 s1
              go_wp2
              exact bodyPost_ret (v := tcVal ((at_ : Int), 0, 7)) (by simp [results, Tryd.results5, go_sem, tcVal, v0, v1, v2]) rfl ⟨by rw [HPk.out], ((HW4.out.setCell (show w.heap.size ≤ w.heap.size from Nat.le_refl _) _).setCell (show w.heap.size ≤ w.heap.size from Nat.le_refl _) _).setCell (show w.heap.size ≤ w.heap.size from Nat.le_refl _) _⟩
            · have ht1 : (g.1.toList == (bs rl.tag).toList) = false := by
                rw [beq_eq_false_iff_ne]
                intro e
                apply ht
                rw [Lib.toList_data, Lib.toList_data] at e
                exact ByteArray.ext (Array.toList_inj.1 e)
              have HPk : Hid (P = ((at_ : Int), 0, 3)) := by show _ = _; rw [← HE.out, tc, if_neg hae, if_neg (by rw [Hg.out, ← HX.out]; exact ht)]
              clear ht hae
              go_wp2_with fail
              go_quiet (fail)
              have v0 : (wr.drewN nq).cell? ⟨w.heap.size, 0, none⟩ = some (.int .i64 0) := z0
              have v1 : (wr.drewN nq).cell? ⟨w.heap.size, 1, none⟩ = some (.int .i64 0) := z1
              have v2 : (wr.drewN nq).cell? ⟨w.heap.size, 2, none⟩ = some (.int .i64 0) := z2
              have vf : ∀ o, (wr.drewN nq).frozen? ⟨w.heap.size, o, none⟩ = false := hf
              have HW4 : Hid (Below w.heap.size w (wr.drewN nq)) := below_drewN HW.out.1 _
              generalize wr.drewN nq = w4 at *
              clear p0 z0 z1 z2 hf HW s0 s1
              go_wp2
              exact bodyPost_ret (v := tcVal ((at_ : Int), 0, 3)) (by simp [results, Tryd.results5, go_sem, tcVal, v0, v1, v2]) rfl ⟨by rw [HPk.out], ((HW4.out.setCell (show w.heap.size ≤ w.heap.size from Nat.le_refl _) _).setCell (show w.heap.size ≤ w.heap.size from Nat.le_refl _) _).setCell (show w.heap.size ≤ w.heap.size from Nat.le_refl _) _⟩
    · rw [tcV_no hl hk]
      have hI : rowsI n = [] := by simp [rowsI, hk]
      go_enter Tryd.func5, Tryd.ntmps5
      go_wp2_with fail
      refine (tableOf_spec n _).mono ?_
      rintro e w1 ⟨vr, rfl, hO, hb1⟩
      obtain ⟨A, C, rfl, hA⟩ := hO.sl
      have z0 : w1.cell? ⟨w.heap.size, 0, none⟩ = some (.int .i64 0) := (hb1.cell (p := ⟨w.heap.size, 0, none⟩) (by simp)).trans (by simp [go_sem])
      have z1 : w1.cell? ⟨w.heap.size, 1, none⟩ = some (.int .i64 0) := (hb1.cell (p := ⟨w.heap.size, 1, none⟩) (by simp)).trans (by simp [go_sem])
      have z2 : w1.cell? ⟨w.heap.size, 2, none⟩ = some (.int .i64 0) := (hb1.cell (p := ⟨w.heap.size, 2, none⟩) (by simp)).trans (by simp [go_sem])
      have hf : ∀ o, w1.frozen? ⟨w.heap.size, o, none⟩ = false := fun o => by rw [hb1.frozen (p := ⟨w.heap.size, o, none⟩) (by simp)]; exact fz_new ..
      have HB : Hid (Below w.heap.size w w1) := b0.trans (hb1.mono (by simp))
      have hz : ((rowsI n).length : Int) = 0 := by rw [hI]; rfl
      clear hA hO hb1 h
      rw [hI] at *
      go_wp2
      exact bodyPost_ret (v := tcVal (0, 0, 1)) (by simp [results, Tryd.results5, go_sem, tcVal, z0, z1, z2]) rfl ⟨rfl, ((HB.out.setCell (show w.heap.size ≤ w.heap.size from Nat.le_refl _) _).setCell (show w.heap.size ≤ w.heap.size from Nat.le_refl _) _).setCell (show w.heap.size ≤ w.heap.size from Nat.le_refl _) _⟩
end Go.Proofs.YtphgheojfnlgjaaDoor
