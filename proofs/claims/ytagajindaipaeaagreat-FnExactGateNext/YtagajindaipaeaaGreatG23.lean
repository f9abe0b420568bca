/- Texts of ours put together: OuR, OuK. -/
import Derived.Test.YtagajindaipaeaaGreatG22
import Derived.Test.YtagajindaipaeaaGreatG18
import Derived.Deep.RegionHeld3
namespace Go.Proofs.YtagajindaipaeaaGreat
open Go.ChangeShapes Go.WideShapes Go.ChangeAt Go.RowKit
set_option maxHeartbeats 4000000 in
theorem outboxRight_impl (v : Value) (rs : List OutR) (w : World) (h : RowOu w v rs) : Calls Tryz.prog 88 #[v] w fun e w' => e = .returned (.bool (ousB rs)) ∧ Below w.heap.size w w' := by
  have hlen := h.len
  obtain ⟨A, Cp, rfl⟩ := h.val
  have H0 : Hid (RowOu w (.slice A rs.length Cp) rs) := h
  clear h
  go_enter Tryz.func88, Tryz.ntmps88
  by_cases hl : 60 < rs.length
  · have hl' : (60 : Int) < (rs.length : Int) := by omega
    have HN : Hid (ousB rs = false) := ousB_no fun h => by have := h.len; omega
    go_wp2
    go_ret
    exact ⟨by rw [HN.out]; rfl, Below.refl _ _⟩
  have hl' : ¬ (60 : Int) < (rs.length : Int) := by omega
  have hb0 : Below w.heap.size w (w.alloc (.cells #[.string zeroO.partner, .int .i64 zeroO.number, .string zeroO.text, .int .i64 zeroO.tries, .int .i64 zeroO.due] 125)) := (Below.refl _ _).alloc (Nat.le_refl _) _
  have hx0 : (w.alloc (.cells #[.string zeroO.partner, .int .i64 zeroO.number, .string zeroO.text, .int .i64 zeroO.tries, .int .i64 zeroO.due] 125)).heap[w.heap.size]? = some (.cells #[.string zeroO.partner, .int .i64 zeroO.number, .string zeroO.text, .int .i64 zeroO.tries, .int .i64 zeroO.due] 125) := World.alloc_heap_new _ _
  simp only [zeroO] at hb0 hx0
  have HZ : Hid _ := And.intro hb0 hx0
  clear hb0 hx0
  go_wp2_with fail
  go_loopw [12] (fun i wr => ∃ (k : Nat) (l : OutR), i = .int .i64 (k : Int) ∧ k ≤ rs.length ∧ Below w.heap.size w wr ∧ wr.heap[w.heap.size]? = some (.cells #[.string l.partner, .int .i64 l.number, .string l.text, .int .i64 l.tries, .int .i64 l.due] 125) ∧ (k = 0 → l = zeroO) ∧ (0 < k → rs[k - 1]? = some l) ∧ ∀ i c, i < k → rs[i]? = some c → OkO rs i c) (fun i _ => rs.length - (intOf i).toNat)
  case atStart => exact ⟨0, zeroO, rfl, by omega, HZ.out.1, HZ.out.2, fun _ => rfl, fun h => by omega, fun i c hi => by omega⟩
  case round =>
    obtain ⟨k, l, rfl, hk, hb, hbx, hl0, hl1, hok⟩ := hrel
    have HI : Hid (Below w.heap.size w wr ∧ wr.heap[w.heap.size]? = some (.cells #[.string l.partner, .int .i64 l.number, .string l.text, .int .i64 l.tries, .int .i64 l.due] 125) ∧ (k = 0 → l = zeroO) ∧ (0 < k → rs[k - 1]? = some l) ∧ ∀ i c, i < k → rs[i]? = some c → OkO rs i c) := ⟨hb, hbx, hl0, hl1, hok⟩
    have hsz : w.heap.size < wr.heap.size := (Array.getElem?_eq_some_iff.1 hbx).1
    clear hok hb hbx hl0 hl1
    by_cases hlt : k < rs.length
    · have hlt' : (k : Int) < (rs.length : Int) := by omega
      obtain ⟨b, o, cap', c, e, hs, ⟨q0, q1, q2, q3, q4⟩, hz⟩ := (H0.out.below HI.out.1).at hlt
      simp only [Value.slice.injEq, true_and] at e
      obtain ⟨rfl, rfl⟩ := e
      have HS : Hid (rs[k]? = some c) := hs
      clear hs
      obtain ⟨W1, hW1⟩ : ∃ W1, wr.alloc (.cells #[.string c.partner, .int .i64 c.number, .string c.text, .int .i64 c.tries, .int .i64 c.due] 125) = W1 := ⟨_, rfl⟩
      have ha : Below wr.heap.size wr W1 := by rw [← hW1]; exact (Below.refl _ _).alloc (Nat.le_refl _) _
      have hc1 : W1.heap[wr.heap.size]? = some (.cells #[.string c.partner, .int .i64 c.number, .string c.text, .int .i64 c.tries, .int .i64 c.due] 125) := by rw [← hW1]; exact World.alloc_heap_new _ _
      obtain ⟨C, hC⟩ : ∃ C, C = wr.heap.size := ⟨_, rfl⟩
      rw [← hC] at hc1
      have H1 : Hid (Below w.heap.size w W1 ∧ W1.heap[w.heap.size]? = some (.cells #[.string l.partner, .int .i64 l.number, .string l.text, .int .i64 l.tries, .int .i64 l.due] 125) ∧ W1.heap[C]? = some (.cells #[.string c.partner, .int .i64 c.number, .string c.text, .int .i64 c.tries, .int .i64 c.due] 125)) := ⟨HI.out.1.trans (ha.mono HI.out.1.size), (ha.block _ hsz).trans HI.out.2.1, hc1⟩
      have hCw : w.heap.size < C := by omega
      go_upto_region 7 with fail
      try rw [hW1]
      try rw [← hC]
      clear hW1 hc1 ha q0 q1 q2 q3 q4 hC hsz
      obtain ⟨c0, c1, c2, c3, c4⟩ := box5 H1.out.2.2
      obtain ⟨x, hx⟩ : ∃ x, x = ouB c := ⟨_, rfl⟩
      have Q1 := fun w => right_any c w hz.2
      clear hz
      rw [← hx] at Q1
      have HX : Hid (x = ouB c) := hx
      clear hx
      go_wp2_with fail
      refine (Q1 _).mono ?_
      rintro e w2 ⟨rfl, hb2⟩
      have H2 : Hid (Below w.heap.size w w2 ∧ w2.heap[w.heap.size]? = some (.cells #[.string l.partner, .int .i64 l.number, .string l.text, .int .i64 l.tries, .int .i64 l.due] 125) ∧ w2.heap[C]? = some (.cells #[.string c.partner, .int .i64 c.number, .string c.text, .int .i64 c.tries, .int .i64 c.due] 125)) := ⟨H1.out.1.trans (hb2.mono H1.out.1.size), (hb2.block _ (Array.getElem?_eq_some_iff.1 H1.out.2.1).1).trans H1.out.2.1, (hb2.block _ (Array.getElem?_eq_some_iff.1 H1.out.2.2).1).trans H1.out.2.2⟩
      clear hb2 c0 c1 c2 c3 c4 H1 Q1
      cases x with
      | false =>
        have HN : Hid (ousB rs = false) := ousB_no fun h => by
          have h1 := h.at_ k c HS.out
          have h2 := HX.out
          rw [ouB_yes h1.ok] at h2
          cases h2
        go_wp2
        go_ret
        exact ⟨by rw [HN.out]; rfl, H2.out.1⟩
      | true =>
        have Q2 := ocmp_any c l
        obtain ⟨z, hz⟩ : ∃ z, z = ocmp c l := ⟨_, rfl⟩
        rw [← hz] at Q2
        have HZ2 : Hid (z = ocmp c l) := hz
        clear hz
        obtain ⟨c0, c1, c2, c3, c4⟩ := box5 H2.out.2.2
        obtain ⟨d0, d1, d2, d3, d4⟩ := box5 H2.out.2.1
        go_wp2_with fail
        refine (Q2 _).mono ?_
        rintro e w3 ⟨rfl, hb3⟩
        have H3 : Hid (Below w.heap.size w w3 ∧ w3.heap[w.heap.size]? = some (.cells #[.string l.partner, .int .i64 l.number, .string l.text, .int .i64 l.tries, .int .i64 l.due] 125) ∧ w3.heap[C]? = some (.cells #[.string c.partner, .int .i64 c.number, .string c.text, .int .i64 c.tries, .int .i64 c.due] 125)) := ⟨H2.out.1.trans (hb3.mono H2.out.1.size), (hb3.block _ (Array.getElem?_eq_some_iff.1 H2.out.2.1).1).trans H2.out.2.1, (hb3.block _ (Array.getElem?_eq_some_iff.1 H2.out.2.2).1).trans H2.out.2.2⟩
        clear hb3 c0 c1 c2 c3 c4 d0 d1 d2 d3 d4 H2 Q2
        by_cases hz : z ≤ 0
        · have HN : Hid (ousB rs = false) := ousB_no fun h => by
            have h1 := h.at_ k c HS.out
            have h2 : 0 < ocmp c l := by
              rcases Nat.eq_zero_or_pos k with k0 | k0
              · rw [HI.out.2.2.1 k0]
                exact ocmp_first h1.ok.p
              · rw [ocmp_pos]
                exact h1.rise l k0 (HI.out.2.2.2.1 k0)
            have h3 := HZ2.out
            omega
          go_wp2
          go_ret
          exact ⟨by rw [HN.out]; rfl, H3.out.1⟩
        · have HN : Hid (OkO rs k c) := by
            refine ⟨ouB_iff.1 HX.out.symm, fun d k0 hd => ?_⟩
            have h4 := HI.out.2.2.2.1 k0
            rw [h4] at hd
            cases hd
            rw [← ocmp_pos, ← HZ2.out]
            omega
          obtain ⟨c0, c1, c2, c3, c4⟩ := box5 H3.out.2.2
          obtain ⟨d0, d1, d2, d3, d4⟩ := box5 H3.out.2.1
          have hfr : ∀ o, w3.frozen? ⟨w.heap.size, o, none⟩ = false := fun o => by simp [World.frozen?, H3.out.2.1]
          go_wp2
          go_roundw
          case rel =>
            refine ⟨k + 1, c, by go_num, by omega, ?_, set5 H3.out.2.1, fun h => by omega, fun _ => by simpa using HS.out, fun i y hi hy => ?_⟩
            · exact (((((H3.out.1.setCell (Nat.le_refl _) _).setCell (Nat.le_refl _) _).setCell (Nat.le_refl _) _).setCell (Nat.le_refl _) _).setCell (Nat.le_refl _) _)
            rcases Nat.lt_or_ge i k with g | g
            · exact HI.out.2.2.2.2 i y g hy
            · obtain rfl : i = k := by omega
              rw [HS.out] at hy
              cases hy
              exact HN.out
          case measure => simp [intOf]; omega
    · obtain rfl : k = rs.length := by omega
      have HN : Hid (ousB rs = true) := ousB_yes ⟨by omega, fun i c hc => HI.out.2.2.2.2 i c (List.getElem?_eq_some_iff.1 hc).1 hc⟩
      go_wp2
      go_ret
      exact ⟨by rw [HN.out]; rfl, HI.out.1⟩
end Go.Proofs.YtagajindaipaeaaGreat
namespace Go.Proofs.YtagajindaipaeaaGreat
open Go.ChangeShapes Go.WideShapes Go.ChangeAt Go.RowKit
theorem undrewLU {a b : World} (h : Below a.drew.heap.size a.drew b) : Below a.heap.size a b := (Below.refl _ _).drew.trans h
theorem same_setU {W : World} {b i : Nat} {v : Value} (h : W.cell? ⟨b, i, none⟩ = some v) : W.setCell ⟨b, i, none⟩ v = W := by
  have hw : ∀ (W : World) (g : Array Obj), g = W.heap → ({ W with heap := g } : World) = W := by
    intro W g e
    subst e
    rfl
  unfold World.setCell
  refine hw W _ ?_
  apply Array.ext_getElem?
  intro j
  simp only [Array.getElem?_modify]
  split
  · rename_i e
    subst e
    unfold World.cell? at h
    cases hc : W.heap[b]? with
    | none => rfl
    | some x =>
      rw [hc] at h
      cases x <;> simp_all
      apply Array.ext_getElem?
      intro k
      rw [Array.getElem?_setIfInBounds]
      split
      · rename_i e
        subst e
        split
        · exact h.symm
        · rename_i hlt
          rw [Array.getElem?_eq_none (by omega)] at h
          cases h
      · rfl
  · rfl
set_option maxRecDepth 20000 in
set_option maxHeartbeats 8000000 in
theorem copyOu_any (l : OutR) (w : World) (hz : l.partner.size ≤ 281474976710656 ∧ l.text.size ≤ 281474976710656) :
    Calls Tryz.prog 144 #[.agg #[.string l.partner, .int .i64 l.number, .string l.text, .int .i64 l.tries, .int .i64 l.due]] w fun e w' => e = .returned (.agg #[.string l.partner, .int .i64 l.number, .string l.text, .int .i64 l.tries, .int .i64 l.due]) ∧ Below w.heap.size w w' := by
  obtain ⟨z0, z1⟩ := hz
  obtain ⟨W1, hW1⟩ : ∃ W1, (w.alloc (.cells #[.string l.partner, .int .i64 l.number, .string l.text, .int .i64 l.tries, .int .i64 l.due] 125)).alloc (.cells #[.string ⟨#[]⟩, .int .i64 0, .string ⟨#[]⟩, .int .i64 0, .int .i64 0] 125) = W1 := ⟨_, rfl⟩
  have hb1 : Below w.heap.size w W1 := by rw [← hW1]; exact ((Below.refl _ _).alloc (Nat.le_refl _) _).alloc (by simp) _
  obtain ⟨k0, k1⟩ := fl_twoU w (.cells #[.string l.partner, .int .i64 l.number, .string l.text, .int .i64 l.tries, .int .i64 l.due] 125) (.cells #[.string ⟨#[]⟩, .int .i64 0, .string ⟨#[]⟩, .int .i64 0, .int .i64 0] 125)
  rw [hW1] at k0 k1
  obtain ⟨B, hB⟩ : ∃ B, B = w.heap.size := ⟨_, rfl⟩
  obtain ⟨R, hR⟩ : ∃ R, R = w.heap.size + 1 := ⟨_, rfl⟩
  rw [← hB] at k0
  rw [← hR] at k1
  have HC : Hid (∀ W, Below W1.heap.size W1 W → W.cell? ⟨B, 0, none⟩ = some (.string l.partner) ∧ W.cell? ⟨B, 2, none⟩ = some (.string l.text)) := fun W hW => by
    obtain ⟨a0, a1, a2, _⟩ := box5 ((hW.block _ (Array.getElem?_eq_some_iff.1 k0).1).trans k0)
    exact ⟨a0, a2⟩
  have HD : Hid (∀ W, Below W1.heap.size W1 W → W.heap[B]? = some (.cells #[.string l.partner, .int .i64 l.number, .string l.text, .int .i64 l.tries, .int .i64 l.due] 125) ∧ W.heap[R]? = some (.cells #[.string ⟨#[]⟩, .int .i64 0, .string ⟨#[]⟩, .int .i64 0, .int .i64 0] 125)) := fun W hW => ⟨(hW.block _ (Array.getElem?_eq_some_iff.1 k0).1).trans k0, (hW.block _ (Array.getElem?_eq_some_iff.1 k1).1).trans k1⟩
  have HB : Hid (Below w.heap.size w W1) := hb1
  obtain ⟨c0, c2⟩ := HC.out W1 (Below.refl _ _)
  go_enter Tryz.func144, Tryz.ntmps144
  go_upto_region 1 with fail
  try rw [hW1]
  try rw [← hR]
  try rw [← hB]
  have HR : Hid (B = w.heap.size ∧ R = w.heap.size + 1) := ⟨hB, hR⟩
  clear hW1 hb1 k0 k1 hB hR
  have s0 : ∀ W : World, W.cell? ⟨B, 0, none⟩ = some (.string l.partner) → W.setCell ⟨B, 0, none⟩ (.string l.partner) = W := fun W h => same_setU h
  have s2 : ∀ W : World, W.cell? ⟨B, 2, none⟩ = some (.string l.text) → W.setCell ⟨B, 2, none⟩ (.string l.text) = W := fun W h => same_setU h
  have hfB : ∀ W : World, Below W1.heap.size W1 W → ∀ o, W.frozen? ⟨B, o, none⟩ = false := fun W hW o => by
    have e := (HD.out W hW).1
    simp [World.frozen?, e]
  have HF : Hid (∀ W : World, Below W1.heap.size W1 W → ∀ o, W.frozen? ⟨B, o, none⟩ = false) := hfB
  clear hfB
  go_region_held3 (fun W => W.cell? ⟨B, 0, none⟩ = some (.string l.partner) ∧ W.cell? ⟨B, 2, none⟩ = some (.string l.text)) (go_keep) (first | (go_at_call_of 107 (Value.string l.partner); refine (clone_any _ _ (by omega)).mono ?_; rintro e wa ⟨rfl, hba⟩; have ba : Below W1.heap.size W1 wa := (by first | exact hba | exact undrewLU hba); obtain ⟨ba0, ba2⟩ := HC.out wa ba; obtain ⟨_, _⟩ := HC.out wa.drew ba.drew; clear hba; try dsimp only) | (go_at_call_of 107 (Value.string l.text); refine (clone_any _ _ (by omega)).mono ?_; rintro e wc ⟨rfl, hbc⟩; have bc : Below W1.heap.size W1 wc := ba.trans ((by first | exact hbc | exact undrewLU hbc : Below wa.heap.size wa wc).mono ba.size); obtain ⟨bc0, bc2⟩ := HC.out wc bc; obtain ⟨_, _⟩ := HC.out wc.drew bc.drew; clear hbc; have hfr := HF.out wc bc; try dsimp only))
  rename_i hHeld
  clear hHeld s0 s2
  obtain ⟨hb, hr⟩ := HD.out wc bc
  obtain ⟨d0, d1, d2, d3, d4⟩ := box5 hb
  obtain ⟨e0, e1, e2, e3, e4⟩ := box5 hr
  have hfR : ∀ o, wc.frozen? ⟨R, o, none⟩ = false := fun o => by simp [World.frozen?, hr]
  have HE : Hid (Below w.heap.size w wc ∧ wc.heap[R]? = some (.cells #[.string ⟨#[]⟩, .int .i64 0, .string ⟨#[]⟩, .int .i64 0, .int .i64 0] 125)) := ⟨HB.out.trans (bc.mono HB.out.size), hr⟩
  clear hb hr bc ba
  go_wp2
  obtain ⟨f0, f1, f2, f3, f4⟩ := box5 (set5 (y0 := .string l.partner) (y1 := .int .i64 l.number) (y2 := .string l.text) (y3 := .int .i64 l.tries) (y4 := .int .i64 l.due) HE.out.2)
  have hge : w.heap.size ≤ R := by rw [HR.out.2]; omega
  exact bodyPost_ret (v := .agg #[.string l.partner, .int .i64 l.number, .string l.text, .int .i64 l.tries, .int .i64 l.due]) (by simp [results, Tryz.results144, go_sem, f0, f1, f2, f3, f4]) rfl ⟨rfl, (((((HE.out.1.setCell hge _).setCell hge _).setCell hge _).setCell hge _).setCell hge _)⟩
end Go.Proofs.YtagajindaipaeaaGreat
