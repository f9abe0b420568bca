/- Texts of ours put together: PnG. -/
import Derived.Test.YtkgkahlhekecmaaGreatG28
import Derived.Test.YtkgkahlhekecmaaGreatG37
import Derived.Deep.QuietTactic
import Derived.BigQuiet
import Derived.BigRegion
namespace Go.Proofs.YtkgkahlhekecmaaGreat
open Go.ChangeShapes Go.WideShapes Go.ChangeAt Go.RowKit
open Go.Sort
theorem Grw.alloc {w W : World} (h : Grw w W) (o : Obj) : Grw w (W.alloc o) := by
  obtain ⟨q, os, rfl⟩ := h
  exact ⟨q, os.push o, by simp [grow, World.alloc]⟩
theorem Grw.drewN {w W : World} (h : Grw w W) (n : Nat) : Grw w (W.drewN n) := by
  obtain ⟨q, os, rfl⟩ := h
  exact ⟨q + n, os, by simp [grow, World.drewN, Nat.add_assoc]⟩
set_option maxHeartbeats 8000000 in
theorem ptRight_grows (p : Ptn) (v : Value) (w : World) (h : RPt w v p) : Calls Tryz.prog 54 #[.agg #[.string p.name, .int .i64 p.low, .int .i64 p.next, v]] w fun e w' => e = .returned (.bool (ptnB p)) ∧ Grw w w' := by
  obtain ⟨name, low, next, rs⟩ := p
  have hlen := h.ls.len
  obtain ⟨A, C, rfl⟩ := h.ls.val
  dsimp only at h hlen ⊢
  have b0 : Below w.heap.size w (w.alloc (.cells #[.string name, .int .i64 low, .int .i64 next, .slice A rs.length C] 63)) := (Below.refl _ _).alloc (Nat.le_refl _) _
  have HR : Hid (RowSn w (.slice A rs.length C) rs ∧ Below w.heap.size w (w.alloc (.cells #[.string name, .int .i64 low, .int .i64 next, .slice A rs.length C] 63))) := ⟨h.ls, b0⟩
  have HRG : Hid (Grw w (w.alloc (.cells #[.string name, .int .i64 low, .int .i64 next, .slice A rs.length C] 63))) := Grw.one _ _
  clear h b0
  go_enter Tryz.func54, Tryz.ntmps54
  go_wp2_with fail
  refine (l01Name_any name _).mono ?_
  rintro e w1 ⟨rfl, rfl⟩
  cases hn : nameB name
  · go_wp2
    go_ret
    exact ⟨ret_bool (by simp [ptnB, hn]), HRG.out⟩
  go_wp2_with fail
  refine (l01Control_any low _).mono ?_
  rintro e w1 ⟨rfl, rfl⟩
  cases hl : ctlB low
  · go_wp2
    go_ret
    exact ⟨ret_bool (by simp [ptnB, hl]), HRG.out⟩
  go_wp2_with fail
  refine (l01Control_any next _).mono ?_
  rintro e w1 ⟨rfl, rfl⟩
  cases hx : ctlB next
  · go_wp2
    go_ret
    exact ⟨ret_bool (by simp [ptnB, hx]), HRG.out⟩
  have HP : Hid (ptnB ⟨name, low, next, rs⟩ = seenB low low rs) := by simp [Hid, ptnB, hn, hl, hx]
  obtain ⟨hl1, hl2⟩ := ctlB_iff.1 hl
  clear hn hl hx
  by_cases hm : rs.length ≤ 32
  · have hm' : ¬ (32 : Int) < (rs.length : Int) := by omega
    go_wp2
    go_loopw [3] (fun i wr => ∃ (k : Nat) (z : Int), i = .int .i64 (k : Int) ∧ k ≤ rs.length ∧ seenB low low rs = seenB low z (rs.drop k) ∧ low ≤ z ∧ (k = 0 → z = low) ∧ (∀ (j : Nat) (g : Sn), k = j + 1 → rs[j]? = some g → z = g.number + 1) ∧ Below (w.alloc (.cells #[.string name, .int .i64 low, .int .i64 next, .slice A rs.length C] 63)).heap.size (w.alloc (.cells #[.string name, .int .i64 low, .int .i64 next, .slice A rs.length C] 63)) wr ∧ Grw w wr) (fun i _ => rs.length - (intOf i).toNat)
    case atStart => exact ⟨0, low, rfl, by omega, by simp, by omega, fun _ => rfl, fun j g hj => by omega, Below.refl _ _, HRG.out⟩
    case round =>
      obtain ⟨k, z, rfl, hk, hE, hz, hz0, hzp, hb, hg⟩ := hrel
      have HEG : Hid (Grw w wr) := hg
      clear hg
      have HE : Hid (seenB low low rs = seenB low z (rs.drop k) ∧ Below w.heap.size w wr ∧ (k = 0 → z = low) ∧ (∀ (j : Nat) (g : Sn), k = j + 1 → rs[j]? = some g → z = g.number + 1) ∧ Below (w.alloc (.cells #[.string name, .int .i64 low, .int .i64 next, .slice A rs.length C] 63)).heap.size (w.alloc (.cells #[.string name, .int .i64 low, .int .i64 next, .slice A rs.length C] 63)) wr) := ⟨hE, HR.out.2.trans (hb.mono (by simp)), hz0, hzp, hb⟩
      clear hE hz0 hzp
      have x0 := (hb.cell (p := ⟨w.heap.size, 0, none⟩) (by simp)).trans (show _ = some (.string name) by simp [go_sem])
      have x1 := (hb.cell (p := ⟨w.heap.size, 1, none⟩) (by simp)).trans (show _ = some (.int .i64 low) by simp [go_sem])
      have x2 := (hb.cell (p := ⟨w.heap.size, 2, none⟩) (by simp)).trans (show _ = some (.int .i64 next) by simp [go_sem])
      have x3 := (hb.cell (p := ⟨w.heap.size, 3, none⟩) (by simp)).trans (show _ = some (.slice A rs.length C) by simp [go_sem])
      clear hb
      by_cases hlt : k < rs.length
      · have hlt' : (k : Int) < (rs.length : Int) := by omega
        obtain ⟨b, o, cap', g, e, hs, ⟨q0, q1, q2⟩⟩ := (HR.out.1.below HE.out.2.1).at hlt
        simp only [Value.slice.injEq, true_and] at e
        obtain ⟨rfl, rfl⟩ := e
        have HS : Hid (rs[k]? = some g) := hs
        clear hs
        obtain ⟨num, ans, cod⟩ := g
        dsimp only at q0 q1 q2
        have hbl := cell_lt q0
        have bA : Below w.heap.size w (wr.alloc (.cells #[.int .i64 num, .int .i64 ans, .int .i64 cod] 148)) := HE.out.2.1.alloc HE.out.2.1.size _
        have HA : Hid (Below w.heap.size w (wr.alloc (.cells #[.int .i64 num, .int .i64 ans, .int .i64 cod] 148))) := bA
        have HAG : Hid (Grw w (wr.alloc (.cells #[.int .i64 num, .int .i64 ans, .int .i64 cod] 148))) := HEG.out.alloc _
        clear bA
        have y0 : (wr.alloc (.cells #[.int .i64 num, .int .i64 ans, .int .i64 cod] 148)).cell? ⟨wr.heap.size, 0, none⟩ = some (.int .i64 num) := by simp [go_sem]
        have y1 : (wr.alloc (.cells #[.int .i64 num, .int .i64 ans, .int .i64 cod] 148)).cell? ⟨wr.heap.size, 1, none⟩ = some (.int .i64 ans) := by simp [go_sem]
        have y2 : (wr.alloc (.cells #[.int .i64 num, .int .i64 ans, .int .i64 cod] 148)).cell? ⟨wr.heap.size, 2, none⟩ = some (.int .i64 cod) := by simp [go_sem]
        have hsz := HE.out.2.1.size
        have hwl : w.heap.size < wr.heap.size := cell_lt x0
        have X1 : (wr.alloc (.cells #[.int .i64 num, .int .i64 ans, .int .i64 cod] 148)).cell? ⟨w.heap.size, 1, none⟩ = some (.int .i64 low) := by rw [← x1]; exact World.cell?_alloc_lt _ _ _ hwl
        have X3 : (wr.alloc (.cells #[.int .i64 num, .int .i64 ans, .int .i64 cod] 148)).cell? ⟨w.heap.size, 3, none⟩ = some (.slice (some ⟨b, o, none⟩) rs.length C) := by rw [← x3]; exact World.cell?_alloc_lt _ _ _ hwl
        have fail0 : snB low z ⟨num, ans, cod⟩ = false → Ending.returned (.bool false) = Ending.returned (.bool (ptnB ⟨name, low, next, rs⟩)) := fun h => ret_bool (by rw [HP.out, HE.out.1, seen_step HS.out, h]; rfl)
        have HN : Hid (snB low z ⟨num, ans, cod⟩ = false → Ending.returned (.bool false) = Ending.returned (.bool (ptnB ⟨name, low, next, rs⟩))) := fail0
        clear fail0
        go_wp2
        by_cases c1 : num < low
        · go_quiet (fail)
          go_wp2
          go_ret
          exact ⟨HN.out (by simp [snB]; intro; omega), HAG.out.drewN _⟩
        have d1 : decide (num < low) = false := by simpa using c1
        by_cases c2 : low + 32 ≤ num
        · go_quiet (fail)
          go_wp2
          go_ret
          exact ⟨HN.out (by simp [snB]; intro; omega), HAG.out.drewN _⟩
        have d2 : decide (low + 32 ≤ num) = false := by simpa using c2
        by_cases c3 : 999999 < num
        · go_quiet (fail)
          go_wp2
          go_ret
          exact ⟨HN.out (by simp [snB]; intro; omega), HAG.out.drewN _⟩
        have d3 : decide (999999 < num) = false := by simpa using c3
        have hsn : z ≤ num → snB low z ⟨num, ans, cod⟩ = (ctlB ans && (decide (0 ≤ cod) && decide (cod ≤ 13))) := fun h => by
          have h2 : num < low + 32 := by omega
          have h3 : num ≤ 999999 := by omega
          simp [snB, codeB, h, h2, h3]
        rcases Nat.eq_zero_or_pos k with k0 | k0
        · have d4 : decide (0 < (k : Int)) = false := by simp; omega
          have d4' : decide (0 < k) = false := by simp; omega
          have HF : Hid (snB low z ⟨num, ans, cod⟩ = (ctlB ans && (decide (0 ≤ cod) && decide (cod ≤ 13)))) := hsn (by have := HE.out.2.2.1 k0; omega)
          clear hsn
          have HK : Hid (k = 0) := k0
          clear k0
          cases hc : ctlB ans
          · have HQ := l01Control_any ans
            rw [hc] at HQ
            go_quiet (first | (go_at_call 95; exact Calls.quiet_of_same (HQ _)))
            go_wp2
            go_ret
            exact ⟨HN.out (by rw [HF.out, hc]; rfl), HAG.out.drewN _⟩
          have HQ := l01Control_any ans
          rw [hc] at HQ
          by_cases f1 : cod < 0
          · go_quiet (first | (go_at_call 95; exact Calls.quiet_of_same (HQ _)))
            go_wp2
            go_ret
            exact ⟨HN.out (by rw [HF.out, hc]; simp; omega), HAG.out.drewN _⟩
          have e1 : decide (cod < 0) = false := by simpa using f1
          by_cases f2 : 13 < cod
          · go_quiet (first | (go_at_call 95; exact Calls.quiet_of_same (HQ _)))
            go_wp2
            go_ret
            exact ⟨HN.out (by rw [HF.out, hc]; simp; intro; omega), HAG.out.drewN _⟩
          have e2 : decide (13 < cod) = false := by simpa using f2
          go_quiet (first | (go_at_call 95; exact Calls.quiet_of_same (HQ _)))
          go_wp2
          go_roundw
          case rel => exact ⟨k + 1, num + 1, by go_num, by omega, by rw [HE.out.1, seen_step HS.out, HF.out, hc]; (have g1 : 0 ≤ cod := by omega); (have g2 : cod ≤ 13 := by omega); simp [g1, g2], by omega, fun h => by omega, fun j g hj hg => by (obtain rfl : j = k := by omega); rw [HS.out] at hg; cases hg; rfl, below_drewN (HE.out.2.2.2.2.alloc HE.out.2.2.2.2.size _) _, HAG.out.drewN _⟩
          case measure => simp [intOf]; omega
        · have d4 : (0 : Int) < (k : Int) := by omega
          obtain ⟨b2, o2, cap2, g2, e, hs, ⟨p0, p1, p2⟩⟩ := (HR.out.1.below HE.out.2.1).at (k := k - 1) (by omega)
          simp only [Value.slice.injEq, Option.some.injEq, Addr.mk.injEq, true_and, and_true] at e
          obtain ⟨⟨rfl, rfl⟩, rfl⟩ := e
          have hzp := HE.out.2.2.2.1 (k - 1) g2 (by omega) hs
          obtain ⟨num2, ans2, cod2⟩ := g2
          dsimp only at p0 p1 p2 hzp
          have P0 : (wr.alloc (.cells #[.int .i64 num, .int .i64 ans, .int .i64 cod] 148)).cell? ⟨b, o + (k - 1) * 3, none⟩ = some (.int .i64 num2) := by rw [← p0]; exact World.cell?_alloc_lt _ _ _ hbl
          clear p0 p1 p2 hs
          have i1 : (0 : Int) ≤ (k : Int) - 1 := by omega
          have i2 : (k : Int) - 1 < (rs.length : Int) := by omega
          by_cases c5 : num ≤ num2
          · have HZ : Hid (z = num2 + 1) := hzp
            clear hzp hsn
            go_quiet (fail)
            go_wp2
            go_ret
            exact ⟨HN.out (by have := HZ.out; simp [snB]; intro; omega), HAG.out.drewN _⟩
          have d5 : decide (num ≤ num2) = false := by simpa using c5
          have HF : Hid (snB low z ⟨num, ans, cod⟩ = (ctlB ans && (decide (0 ≤ cod) && decide (cod ≤ 13)))) := hsn (by omega)
          clear hsn hzp
          cases hc : ctlB ans
          · have HQ := l01Control_any ans
            rw [hc] at HQ
            go_quiet (first | (go_at_call 95; exact Calls.quiet_of_same (HQ _)))
            go_wp2
            go_ret
            exact ⟨HN.out (by rw [HF.out, hc]; rfl), HAG.out.drewN _⟩
          have HQ := l01Control_any ans
          rw [hc] at HQ
          by_cases f1 : cod < 0
          · go_quiet (first | (go_at_call 95; exact Calls.quiet_of_same (HQ _)))
            go_wp2
            go_ret
            exact ⟨HN.out (by rw [HF.out, hc]; simp; omega), HAG.out.drewN _⟩
          have e1 : decide (cod < 0) = false := by simpa using f1
          by_cases f2 : 13 < cod
          · go_quiet (first | (go_at_call 95; exact Calls.quiet_of_same (HQ _)))
            go_wp2
            go_ret
            exact ⟨HN.out (by rw [HF.out, hc]; simp; intro; omega), HAG.out.drewN _⟩
          have e2 : decide (13 < cod) = false := by simpa using f2
          go_quiet (first | (go_at_call 95; exact Calls.quiet_of_same (HQ _)))
          go_wp2
          go_roundw
          case rel => exact ⟨k + 1, num + 1, by go_num, by omega, by rw [HE.out.1, seen_step HS.out, HF.out, hc]; (have g1 : 0 ≤ cod := by omega); (have g2 : cod ≤ 13 := by omega); simp [g1, g2], by omega, fun h => by omega, fun j g hj hg => by (obtain rfl : j = k := by omega); rw [HS.out] at hg; cases hg; rfl, below_drewN (HE.out.2.2.2.2.alloc HE.out.2.2.2.2.size _) _, HAG.out.drewN _⟩
          case measure => simp [intOf]; omega
      · obtain rfl : k = rs.length := by omega
        go_wp2
        go_ret
        exact ⟨ret_bool (by rw [HP.out, HE.out.1, seen_end]), HEG.out⟩
  · have hm' : (32 : Int) < (rs.length : Int) := by omega
    go_wp2
    go_ret
    refine ⟨ret_bool ?_, HRG.out⟩
    rw [HP.out]
    cases hq : seenB low low rs
    · rfl
    · have := seenB_len hq (by omega)
      omega
theorem ptRight_specG (p : Ptn) (v : Value) (w : World) (h : RPt w v p) : Calls Tryz.prog 54 #[.agg #[.string p.name, .int .i64 p.low, .int .i64 p.next, v]] w fun e w' => e = .returned (.bool (ptnB p)) ∧ Below w.heap.size w w' := (ptRight_grows p v w h).mono fun _ _ ⟨h1, h2⟩ => ⟨h1, h2.below⟩
end Go.Proofs.YtkgkahlhekecmaaGreat
