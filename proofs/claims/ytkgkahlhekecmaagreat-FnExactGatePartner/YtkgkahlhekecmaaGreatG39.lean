/- Texts of ours put together: ItS. -/
import Derived.Test.YtkgkahlhekecmaaGreatG28
import Derived.Deep.RegionHeld3
import Derived.Deep.Cut
import Derived.Deep.CutRange
import Derived.Deep.QuietTactic
import Derived.BigQuiet
import Derived.BigRegion
namespace Go.Proofs.YtkgkahlhekecmaaGreat
open Go.ChangeShapes Go.WideShapes Go.ChangeAt Go.RowKit
set_option maxHeartbeats 1000000 in
theorem before_any (a b : Crs) (w : World) : Calls Tryz.prog 91 #[.agg #[.string a.partner, .string a.theirs, .string a.own], .agg #[.string b.partner, .string b.theirs, .string b.own]] w fun e w' => e = .returned (.bool (befB a b)) ∧ Below w.heap.size w w' := by
  obtain ⟨ap, ath, ao⟩ := a
  obtain ⟨bp, bth, bo⟩ := b
  unfold befB
  dsimp only
  have HB : Hid (Below w.heap.size w ((w.alloc (.cells #[.string ap, .string ath, .string ao] 106)).alloc (.cells #[.string bp, .string bth, .string bo] 106))) := ((Below.refl _ _).alloc (Nat.le_refl _) _).alloc (by simp) _
  cases h1 : Op.bytesLess ap.toList bp.toList
  · cases h2 : (ap.toList == bp.toList)
    · go_enter Tryz.func91, Tryz.ntmps91
      go_wp2
      go_ret
      exact ⟨rfl, HB.out⟩
    · cases h3 : Op.bytesLess ath.toList bth.toList
      · go_enter Tryz.func91, Tryz.ntmps91
        go_wp2
        go_ret
        exact ⟨rfl, HB.out⟩
      · go_enter Tryz.func91, Tryz.ntmps91
        go_wp2
        go_ret
        exact ⟨rfl, HB.out⟩
  · go_enter Tryz.func91, Tryz.ntmps91
    go_wp2
    go_ret
    exact ⟨rfl, HB.out⟩
set_option maxHeartbeats 8000000 in
theorem crossRight_spec (v : Value) (rs : List Crs) (w : World) (h : RowCs w v rs) : Calls Tryz.prog 51 #[v] w fun e w' => e = .returned (.bool (rightB rs)) ∧ Below w.heap.size w w' := by
  have hlen := h.len
  obtain ⟨A, Cp, rfl⟩ := h.val
  have H0 : Hid (RowCs w (.slice A rs.length Cp) rs) := h
  clear h
  go_enter Tryz.func51, Tryz.ntmps51
  by_cases hl : 200 < rs.length
  · have hl' : (200 : Int) < (rs.length : Int) := by omega
    have HN : Hid (rightB rs = false) := rightB_no fun h => by have := h.len; omega
    go_wp2
    go_ret
    exact ⟨by rw [HN.out]; rfl, Below.refl _ _⟩
  have hl' : ¬ (200 : Int) < (rs.length : Int) := by omega
  go_wp2_with fail
  go_loopw [3] (fun i wr => ∃ k : Nat, i = .int .i64 (k : Int) ∧ k ≤ rs.length ∧ Below w.heap.size w wr ∧ ∀ i c, i < k → rs[i]? = some c → OkAt rs i c) (fun i _ => rs.length - (intOf i).toNat)
  case atStart => exact ⟨0, rfl, by omega, Below.refl _ _, fun i c hi => by omega⟩
  case round =>
    obtain ⟨k, rfl, hk, hb, hok⟩ := hrel
    have HI : Hid (Below w.heap.size w wr ∧ ∀ i c, i < k → rs[i]? = some c → OkAt rs i c) := ⟨hb, hok⟩
    clear hok hb
    by_cases hlt : k < rs.length
    · have hlt' : (k : Int) < (rs.length : Int) := by omega
      obtain ⟨b, o, cap', c, e, hs, ⟨q0, q1, q2⟩, hz⟩ := (H0.out.below HI.out.1).at hlt
      simp only [Value.slice.injEq, true_and] at e
      obtain ⟨rfl, rfl⟩ := e
      have HS : Hid (rs[k]? = some c) := hs
      clear hs hz
      obtain ⟨W1, hW1⟩ : ∃ W1, wr.alloc (.cells #[.string c.partner, .string c.theirs, .string c.own] 106) = W1 := ⟨_, rfl⟩
      have ha : Below wr.heap.size wr W1 := by rw [← hW1]; exact (Below.refl _ _).alloc (Nat.le_refl _) _
      have hbx : W1.heap[wr.heap.size]? = some (.cells #[.string c.partner, .string c.theirs, .string c.own] 106) := by rw [← hW1]; exact World.alloc_heap_new _ _
      obtain ⟨C, hC⟩ : ∃ C, C = wr.heap.size := ⟨_, rfl⟩
      rw [← hC] at hbx
      go_upto_region 7 with fail
      try rw [hW1]
      try rw [← hC]
      clear hW1
      have H1 : Hid (Below w.heap.size w W1 ∧ W1.heap[C]? = some (.cells #[.string c.partner, .string c.theirs, .string c.own] 106)) := ⟨HI.out.1.trans (ha.mono HI.out.1.size), hbx⟩
      have c0 : W1.cell? ⟨C, 0, none⟩ = some (.string c.partner) := by simp [World.cell?, hbx]
      have c1 : W1.cell? ⟨C, 1, none⟩ = some (.string c.theirs) := by simp [World.cell?, hbx]
      have c2 : W1.cell? ⟨C, 2, none⟩ = some (.string c.own) := by simp [World.cell?, hbx]
      clear hbx q0 q1 q2 hC ha
      obtain ⟨bad, hbad⟩ : ∃ bad : Bool, bad = !(crsB c && (if k = 0 then true else ((rs[k - 1]?).map fun d => befB d c).getD true)) := ⟨_, rfl⟩
      go_cut [48] from 19 to 47 (fun t wx => t = .bool bad ∧ Below w.heap.size w wx ∧ wx.heap[C]? = some (.cells #[.string c.partner, .string c.theirs, .string c.own] 106))
      case first =>
        have Q1 := l01Name_any c.partner
        have Q2 := l01Name_any c.theirs
        have Q3 := l01Name_any c.own
        cases h1 : nameB c.partner
        · obtain rfl : bad = true := by rw [hbad]; simp [crsB, h1]
          rw [h1] at Q1
          clear hbad
          go_quiet (first | (go_at_call_of 19 (Value.string c.partner); exact Calls.quiet_of_same (Q1 _)) | (go_at_call_of 19 (Value.string c.theirs); exact Calls.quiet_of_same (Q2 _)) | (go_at_call_of 19 (Value.string c.own); exact Calls.quiet_of_same (Q3 _)))
          go_wp2_with fail
          go_meet
          exact ⟨rfl, below_drewN H1.out.1 _, H1.out.2⟩
        cases h2 : nameB c.theirs
        · obtain rfl : bad = true := by rw [hbad]; simp [crsB, h2]
          rw [h1] at Q1
          rw [h2] at Q2
          clear hbad
          go_quiet (first | (go_at_call_of 19 (Value.string c.partner); exact Calls.quiet_of_same (Q1 _)) | (go_at_call_of 19 (Value.string c.theirs); exact Calls.quiet_of_same (Q2 _)) | (go_at_call_of 19 (Value.string c.own); exact Calls.quiet_of_same (Q3 _)))
          go_wp2_with fail
          go_meet
          exact ⟨rfl, below_drewN H1.out.1 _, H1.out.2⟩
        cases h3 : nameB c.own
        · obtain rfl : bad = true := by rw [hbad]; simp [crsB, h3]
          rw [h1] at Q1
          rw [h2] at Q2
          rw [h3] at Q3
          clear hbad
          go_quiet (first | (go_at_call_of 19 (Value.string c.partner); exact Calls.quiet_of_same (Q1 _)) | (go_at_call_of 19 (Value.string c.theirs); exact Calls.quiet_of_same (Q2 _)) | (go_at_call_of 19 (Value.string c.own); exact Calls.quiet_of_same (Q3 _)))
          go_wp2_with fail
          go_meet
          exact ⟨rfl, below_drewN H1.out.1 _, H1.out.2⟩
        rw [h1] at Q1
        rw [h2] at Q2
        rw [h3] at Q3
        rcases Nat.eq_zero_or_pos k with k0 | k0
        · obtain rfl : bad = false := by rw [hbad, if_pos k0]; simp [crsB, h1, h2, h3]
          have d4 : decide (0 < (k : Int)) = false := by simp; omega
          have d4' : decide (0 < k) = false := by simp; omega
          clear hbad k0
          go_quiet (first | (go_at_call_of 19 (Value.string c.partner); exact Calls.quiet_of_same (Q1 _)) | (go_at_call_of 19 (Value.string c.theirs); exact Calls.quiet_of_same (Q2 _)) | (go_at_call_of 19 (Value.string c.own); exact Calls.quiet_of_same (Q3 _)))
          go_wp2_with fail
          go_meet
          exact ⟨rfl, below_drewN H1.out.1 _, H1.out.2⟩
        obtain ⟨j, rfl⟩ : ∃ j, k = j + 1 := ⟨k - 1, by omega⟩
        have d4 : (0 : Int) < ((j + 1 : Nat) : Int) := by omega
        have d5 : (0 : Int) < (j : Int) + 1 := by omega
        have i0 : (0 : Int) ≤ (j : Int) := by omega
        have i2 : (j : Int) < (rs.length : Int) := by omega
        have i3 : IntKind.i64.wrap ((j : Int) + 1 - 1) = (j : Int) := by rw [show (j : Int) + 1 - 1 = (j : Int) by omega]; simp [IntKind.wrap, IntKind.bits, IntKind.signed]; omega
        have i4 : IntKind.i64.wrap (j : Int) = (j : Int) := by simp [IntKind.wrap, IntKind.bits, IntKind.signed]; omega
        obtain ⟨b2, o2, cap2, d, e, hs, ⟨p0, p1, p2⟩, _⟩ := (H0.out.below H1.out.1).at (k := j) (by omega)
        simp only [Value.slice.injEq, Option.some.injEq, Addr.mk.injEq, true_and, and_true] at e
        obtain ⟨⟨rfl, rfl⟩, rfl⟩ := e
        have hbb : bad = !befB d c := by rw [hbad, if_neg (by omega), show j + 1 - 1 = j by omega, hs]; simp [crsB, h1, h2, h3]
        clear hs hbad
        have HBB : Hid (bad = !befB d c) := hbb
        clear hbb
        obtain ⟨bf, hbf⟩ : ∃ bf, bf = befB d c := ⟨_, rfl⟩
        have Q4 := before_any d c
        rw [← hbf] at Q4
        have lC := cell_lt c0
        have lb := cell_lt p0
        go_region_held3 (fun W => W.cell? ⟨C, 0, none⟩ = some (.string c.partner) ∧ W.cell? ⟨C, 1, none⟩ = some (.string c.theirs) ∧ W.cell? ⟨C, 2, none⟩ = some (.string c.own) ∧ W.cell? ⟨b, o + j * 3, none⟩ = some (.string d.partner) ∧ W.cell? ⟨b, o + j * 3 + 1, none⟩ = some (.string d.theirs) ∧ W.cell? ⟨b, o + j * 3 + 2, none⟩ = some (.string d.own)) (go_keep) (first | (go_at_call_of 19 (Value.string c.partner); refine (Q1 _).mono ?_; rintro e w2 ⟨rfl, rfl⟩) | (go_at_call_of 19 (Value.string c.theirs); refine (Q2 _).mono ?_; rintro e w2 ⟨rfl, rfl⟩) | (go_at_call_of 19 (Value.string c.own); refine (Q3 _).mono ?_; rintro e w2 ⟨rfl, rfl⟩) | (go_at_call 91; refine (Q4 _).mono ?_; rintro e w3 ⟨rfl, hb3⟩; have u0 := (hb3.cell (p := ⟨C, 0, none⟩) lC).trans c0; have u1 := (hb3.cell (p := ⟨C, 1, none⟩) lC).trans c1; have u2 := (hb3.cell (p := ⟨C, 2, none⟩) lC).trans c2; have t0 := (hb3.cell (p := ⟨b, o + j * 3, none⟩) lb).trans p0; have t1 := (hb3.cell (p := ⟨b, o + j * 3 + 1, none⟩) lb).trans p1; have t2 := (hb3.cell (p := ⟨b, o + j * 3 + 2, none⟩) lb).trans p2))
        have HB3 : Hid (Below w.heap.size w w3 ∧ w3.heap[C]? = some (.cells #[.string c.partner, .string c.theirs, .string c.own] 106)) := ⟨H1.out.1.drew.trans (hb3.mono H1.out.1.size), (hb3.block C lC).trans H1.out.2⟩
        rename_i hHeld
        clear hHeld
        go_wp2_with fail
        go_meet
        exact ⟨by rw [HBB.out, ← hbf], HB3.out⟩
      case rest =>
        obtain ⟨rfl, hb5, hC5⟩ := hcut
        rename World => w5
        clear c0 c1 c2 H1
        have H5 : Hid (Below w.heap.size w w5 ∧ w5.heap[C]? = some (.cells #[.string c.partner, .string c.theirs, .string c.own] 106)) := ⟨hb5, hC5⟩
        clear hb5 hC5
        have HD : Hid (bad = !(crsB c && (if k = 0 then true else ((rs[k - 1]?).map fun d => befB d c).getD true))) := hbad
        clear hbad
        cases bad with
        | true =>
          have HN : Hid (rightB rs = false) := rightB_no fun h => by
            have h1 := h.ok k c HS.out
            have h2 := HD.out
            rw [h1.names] at h2
            by_cases k0 : k = 0
            · rw [if_pos k0] at h2
              cases h2
            · have hk1 : k - 1 < rs.length := by omega
              have hd := List.getElem?_eq_getElem hk1
              rw [if_neg k0, hd, Option.map_some, Option.getD_some, h1.rise _ (by omega) hd] at h2
              cases h2
          go_wp2
          go_ret
          exact ⟨by rw [HN.out]; rfl, H5.out.1⟩
        | false =>
          have HN : Hid (crsB c = true ∧ ∀ d, 0 < k → rs[k - 1]? = some d → befB d c = true) := by
            have h2 := HD.out
            cases hcr : crsB c with
            | false => rw [hcr] at h2; cases h2
            | true =>
              refine ⟨rfl, fun d k0 hd => ?_⟩
              rw [hcr, if_neg (by omega), hd, Option.map_some, Option.getD_some] at h2
              cases hbf : befB d c with
              | true => rfl
              | false => rw [hbf] at h2; cases h2
          go_wp2_with fail
          go_loopw [5] (fun i wx => ∃ j : Nat, i = .int .i64 (j : Int) ∧ j ≤ k ∧ Below w.heap.size w wx ∧ wx.heap[C]? = some (.cells #[.string c.partner, .string c.theirs, .string c.own] 106) ∧ ∀ i d, i < j → rs[i]? = some d → owK d ≠ owK c) (fun i _ => k - (intOf i).toNat)
          case atStart => exact ⟨0, rfl, by omega, H5.out.1, H5.out.2, fun i d hi => by omega⟩
          case round =>
            obtain ⟨j, rfl, hj, hbj, hCj, hone⟩ := hrel
            rename World => w6
            have c0 : w6.cell? ⟨C, 0, none⟩ = some (.string c.partner) := by simp [World.cell?, hCj]
            have c2 : w6.cell? ⟨C, 2, none⟩ = some (.string c.own) := by simp [World.cell?, hCj]
            have HJ : Hid (Below w.heap.size w w6 ∧ w6.heap[C]? = some (.cells #[.string c.partner, .string c.theirs, .string c.own] 106) ∧ ∀ i d, i < j → rs[i]? = some d → owK d ≠ owK c) := ⟨hbj, hCj, hone⟩
            clear hbj hCj hone
            by_cases hjk : j < k
            · have hjk' : (j : Int) < (k : Int) := by omega
              have hjl' : (j : Int) < (rs.length : Int) := by omega
              obtain ⟨b2, o2, cap2, d, e, hs, ⟨p0, p1, p2⟩, _⟩ := (H0.out.below HJ.out.1).at (k := j) (by omega)
              simp only [Value.slice.injEq, Option.some.injEq, Addr.mk.injEq, true_and, and_true] at e
              obtain ⟨⟨rfl, rfl⟩, rfl⟩ := e
              have Hd : Hid (rs[j]? = some d) := hs
              clear hs
              cases e1 : (d.partner.toList == c.partner.toList)
              · have HE : Hid (owK d ≠ owK c) := fun e => by
                  simp only [owK, Prod.mk.injEq] at e
                  rw [e.1] at e1
                  simp at e1
                go_upto_region 12 with fail
                go_quiet (fail)
                go_wp2
                go_roundw
                case rel => exact ⟨j + 1, by go_num, by omega, below_drewN HJ.out.1 _, HJ.out.2.1, fun i y hi hy => by rcases Nat.lt_or_ge i j with g | g; exact HJ.out.2.2 i y g hy; (obtain rfl : i = j := by omega); rw [Hd.out] at hy; cases hy; exact HE.out⟩
                case measure => simp [intOf]; omega
              · have ep : d.partner = c.partner := by
                  have e : d.partner.toList = c.partner.toList := by simpa using e1
                  rw [ByteArray.toList_eq, ByteArray.toList_eq] at e
                  exact ByteArray.ext (Array.toList_inj.1 e)
                cases e2 : (d.own.toList == c.own.toList)
                · have HE : Hid (owK d ≠ owK c) := fun e => by
                    simp only [owK, Prod.mk.injEq] at e
                    rw [e.2] at e2
                    simp at e2
                  clear ep
                  go_upto_region 12 with fail
                  go_quiet (fail)
                  go_wp2
                  go_roundw
                  case rel => exact ⟨j + 1, by go_num, by omega, below_drewN HJ.out.1 _, HJ.out.2.1, fun i y hi hy => by rcases Nat.lt_or_ge i j with g | g; exact HJ.out.2.2 i y g hy; (obtain rfl : i = j := by omega); rw [Hd.out] at hy; cases hy; exact HE.out⟩
                  case measure => simp [intOf]; omega
                · have HN2 : Hid (rightB rs = false) := rightB_no fun h => by
                    have e : d.own.toList = c.own.toList := by simpa using e2
                    rw [ByteArray.toList_eq, ByteArray.toList_eq] at e
                    have eo : d.own = c.own := ByteArray.ext (Array.toList_inj.1 e)
                    exact (h.ok k c HS.out).once j d hjk Hd.out (by simp [owK, ep, eo])
                  clear ep
                  go_upto_region 12 with fail
                  go_quiet (fail)
                  go_wp2
                  go_ret
                  exact ⟨by rw [HN2.out]; rfl, below_drewN HJ.out.1 _⟩
            · obtain rfl : j = k := by omega
              go_wp2
              go_roundw
              case rel =>
                refine ⟨j + 1, by go_num, by omega, HJ.out.1, fun i y hi hy => ?_⟩
                rcases Nat.lt_or_ge i j with g | g
                · exact HI.out.2 i y g hy
                · obtain rfl : i = j := by omega
                  rw [HS.out] at hy
                  cases hy
                  exact ⟨HN.out.1, HN.out.2, HJ.out.2.2⟩
              case measure => simp [intOf]; omega
    · obtain rfl : k = rs.length := by omega
      have HN : Hid (rightB rs = true) := rightB_yes ⟨by omega, fun i c hc => HI.out.2 i c (List.getElem?_eq_some_iff.1 hc).1 hc⟩
      go_wp2
      go_ret
      exact ⟨by rw [HN.out]; rfl, HI.out.1⟩
end Go.Proofs.YtkgkahlhekecmaaGreat
