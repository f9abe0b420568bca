/- Texts of ours put together: LnR, LnK, InsD. -/
import Derived.Test.YtkgkahlhekecmaaGreatG23
import Derived.Test.YtkgkahlhekecmaaGreatG16
import Derived.Deep.RegionHeld3
import Derived.Test.YtkgkahlhekecmaaGreatG21
namespace Go.Proofs.YtkgkahlhekecmaaGreat
open Go.ChangeShapes Go.WideShapes Go.ChangeAt Go.RowKit
theorem set8 {W : World} {b t : Nat} {x0 x1 x2 x3 x4 x5 x6 x7 y0 y1 y2 y3 y4 y5 y6 y7 : Value} (h : W.heap[b]? = some (.cells #[x0, x1, x2, x3, x4, x5, x6, x7] t)) :
    ((((((((W.setCell ⟨b, 0, none⟩ y0).setCell ⟨b, 1, none⟩ y1).setCell ⟨b, 2, none⟩ y2).setCell ⟨b, 3, none⟩ y3).setCell ⟨b, 4, none⟩ y4).setCell ⟨b, 5, none⟩ y5).setCell ⟨b, 6, none⟩ y6).setCell ⟨b, 7, none⟩ y7).heap[b]? = some (.cells #[y0, y1, y2, y3, y4, y5, y6, y7] t) := by
  simp [World.setCell, Array.getElem?_modify, h]
set_option maxHeartbeats 4000000 in
theorem linesRight_impl (v : Value) (rs : List OLn) (w : World) (h : RowOl w v rs) : Calls Tryz.prog 102 #[v] w fun e w' => e = .returned (.bool (lnsB rs)) ∧ Below w.heap.size w w' := by
  have hlen := h.len
  obtain ⟨A, Cp, rfl⟩ := h.val
  have H0 : Hid (RowOl w (.slice A rs.length Cp) rs) := h
  clear h
  go_enter Tryz.func102, Tryz.ntmps102
  by_cases hl : 200 < rs.length
  · have hl' : (200 : Int) < (rs.length : Int) := by omega
    have HN : Hid (lnsB rs = false) := lnsB_no fun h => by have := h.len; omega
    go_wp2
    go_ret
    exact ⟨by rw [HN.out]; rfl, Below.refl _ _⟩
  have hl' : ¬ (200 : Int) < (rs.length : Int) := by omega
  have hb0 : Below w.heap.size w (w.alloc (.cells #[.string zeroL.partner, .string zeroL.ref, .int .i64 zeroL.no, .string zeroL.item, .int .i64 zeroL.ordered, .int .i64 zeroL.sent, .int .i64 zeroL.got, .int .i64 zeroL.cut] 151)) := (Below.refl _ _).alloc (Nat.le_refl _) _
  have hx0 : (w.alloc (.cells #[.string zeroL.partner, .string zeroL.ref, .int .i64 zeroL.no, .string zeroL.item, .int .i64 zeroL.ordered, .int .i64 zeroL.sent, .int .i64 zeroL.got, .int .i64 zeroL.cut] 151)).heap[w.heap.size]? = some (.cells #[.string zeroL.partner, .string zeroL.ref, .int .i64 zeroL.no, .string zeroL.item, .int .i64 zeroL.ordered, .int .i64 zeroL.sent, .int .i64 zeroL.got, .int .i64 zeroL.cut] 151) := World.alloc_heap_new _ _
  simp only [zeroL] at hb0 hx0
  have HZ : Hid _ := And.intro hb0 hx0
  clear hb0 hx0
  go_wp2_with fail
  go_loopw [12] (fun i wr => ∃ (k : Nat) (l : OLn), i = .int .i64 (k : Int) ∧ k ≤ rs.length ∧ Below w.heap.size w wr ∧ wr.heap[w.heap.size]? = some (.cells #[.string l.partner, .string l.ref, .int .i64 l.no, .string l.item, .int .i64 l.ordered, .int .i64 l.sent, .int .i64 l.got, .int .i64 l.cut] 151) ∧ (k = 0 → l = zeroL) ∧ (0 < k → rs[k - 1]? = some l) ∧ ∀ i c, i < k → rs[i]? = some c → OkL rs i c) (fun i _ => rs.length - (intOf i).toNat)
  case atStart => exact ⟨0, zeroL, rfl, by omega, HZ.out.1, HZ.out.2, fun _ => rfl, fun h => by omega, fun i c hi => by omega⟩
  case round =>
    obtain ⟨k, l, rfl, hk, hb, hbx, hl0, hl1, hok⟩ := hrel
    have HI : Hid (Below w.heap.size w wr ∧ wr.heap[w.heap.size]? = some (.cells #[.string l.partner, .string l.ref, .int .i64 l.no, .string l.item, .int .i64 l.ordered, .int .i64 l.sent, .int .i64 l.got, .int .i64 l.cut] 151) ∧ (k = 0 → l = zeroL) ∧ (0 < k → rs[k - 1]? = some l) ∧ ∀ i c, i < k → rs[i]? = some c → OkL rs i c) := ⟨hb, hbx, hl0, hl1, hok⟩
    have hsz : w.heap.size < wr.heap.size := (Array.getElem?_eq_some_iff.1 hbx).1
    clear hok hb hbx hl0 hl1
    by_cases hlt : k < rs.length
    · have hlt' : (k : Int) < (rs.length : Int) := by omega
      obtain ⟨b, o, cap', c, e, hs, ⟨q0, q1, q2, q3, q4, q5, q6, q7⟩, hz⟩ := (H0.out.below HI.out.1).at hlt
      simp only [Value.slice.injEq, true_and] at e
      obtain ⟨rfl, rfl⟩ := e
      have HS : Hid (rs[k]? = some c) := hs
      clear hs hz
      obtain ⟨W1, hW1⟩ : ∃ W1, wr.alloc (.cells #[.string c.partner, .string c.ref, .int .i64 c.no, .string c.item, .int .i64 c.ordered, .int .i64 c.sent, .int .i64 c.got, .int .i64 c.cut] 151) = W1 := ⟨_, rfl⟩
      have ha : Below wr.heap.size wr W1 := by rw [← hW1]; exact (Below.refl _ _).alloc (Nat.le_refl _) _
      have hc1 : W1.heap[wr.heap.size]? = some (.cells #[.string c.partner, .string c.ref, .int .i64 c.no, .string c.item, .int .i64 c.ordered, .int .i64 c.sent, .int .i64 c.got, .int .i64 c.cut] 151) := by rw [← hW1]; exact World.alloc_heap_new _ _
      obtain ⟨C, hC⟩ : ∃ C, C = wr.heap.size := ⟨_, rfl⟩
      rw [← hC] at hc1
      have H1 : Hid (Below w.heap.size w W1 ∧ W1.heap[w.heap.size]? = some (.cells #[.string l.partner, .string l.ref, .int .i64 l.no, .string l.item, .int .i64 l.ordered, .int .i64 l.sent, .int .i64 l.got, .int .i64 l.cut] 151) ∧ W1.heap[C]? = some (.cells #[.string c.partner, .string c.ref, .int .i64 c.no, .string c.item, .int .i64 c.ordered, .int .i64 c.sent, .int .i64 c.got, .int .i64 c.cut] 151)) := ⟨HI.out.1.trans (ha.mono HI.out.1.size), (ha.block _ hsz).trans HI.out.2.1, hc1⟩
      have hCw : w.heap.size < C := by omega
      go_upto_region 7 with fail
      try rw [hW1]
      try rw [← hC]
      clear hW1 hc1 ha q0 q1 q2 q3 q4 q5 q6 q7 hC hsz
      obtain ⟨c0, c1, c2, c3, c4, c5, c6, c7⟩ := box8 H1.out.2.2
      obtain ⟨x, hx⟩ : ∃ x, x = lnB c := ⟨_, rfl⟩
      have Q1 := lineRight_impl c
      rw [← hx] at Q1
      have HX : Hid (x = lnB c) := hx
      clear hx
      go_wp2_with fail
      refine (Q1 _).mono ?_
      rintro e w2 ⟨rfl, hb2⟩
      have H2 : Hid (Below w.heap.size w w2 ∧ w2.heap[w.heap.size]? = some (.cells #[.string l.partner, .string l.ref, .int .i64 l.no, .string l.item, .int .i64 l.ordered, .int .i64 l.sent, .int .i64 l.got, .int .i64 l.cut] 151) ∧ w2.heap[C]? = some (.cells #[.string c.partner, .string c.ref, .int .i64 c.no, .string c.item, .int .i64 c.ordered, .int .i64 c.sent, .int .i64 c.got, .int .i64 c.cut] 151)) := ⟨H1.out.1.trans (hb2.mono H1.out.1.size), (hb2.block _ (Array.getElem?_eq_some_iff.1 H1.out.2.1).1).trans H1.out.2.1, (hb2.block _ (Array.getElem?_eq_some_iff.1 H1.out.2.2).1).trans H1.out.2.2⟩
      clear hb2 c0 c1 c2 c3 c4 c5 c6 c7 H1 Q1
      cases x with
      | false =>
        have HN : Hid (lnsB rs = false) := lnsB_no fun h => by
          have h1 := h.at_ k c HS.out
          have h2 := HX.out
          rw [lnB_yes h1.ok] at h2
          cases h2
        go_wp2
        go_ret
        exact ⟨by rw [HN.out]; rfl, H2.out.1⟩
      | true =>
        have Q2 := lcmp_any c l
        obtain ⟨z, hz⟩ : ∃ z, z = lcmp c l := ⟨_, rfl⟩
        rw [← hz] at Q2
        have HZ2 : Hid (z = lcmp c l) := hz
        clear hz
        obtain ⟨c0, c1, c2, c3, c4, c5, c6, c7⟩ := box8 H2.out.2.2
        obtain ⟨d0, d1, d2, d3, d4, d5, d6, d7⟩ := box8 H2.out.2.1
        go_wp2_with fail
        refine (Q2 _).mono ?_
        rintro e w3 ⟨rfl, hb3⟩
        have H3 : Hid (Below w.heap.size w w3 ∧ w3.heap[w.heap.size]? = some (.cells #[.string l.partner, .string l.ref, .int .i64 l.no, .string l.item, .int .i64 l.ordered, .int .i64 l.sent, .int .i64 l.got, .int .i64 l.cut] 151) ∧ w3.heap[C]? = some (.cells #[.string c.partner, .string c.ref, .int .i64 c.no, .string c.item, .int .i64 c.ordered, .int .i64 c.sent, .int .i64 c.got, .int .i64 c.cut] 151)) := ⟨H2.out.1.trans (hb3.mono H2.out.1.size), (hb3.block _ (Array.getElem?_eq_some_iff.1 H2.out.2.1).1).trans H2.out.2.1, (hb3.block _ (Array.getElem?_eq_some_iff.1 H2.out.2.2).1).trans H2.out.2.2⟩
        clear hb3 c0 c1 c2 c3 c4 c5 c6 c7 d0 d1 d2 d3 d4 d5 d6 d7 H2 Q2
        by_cases hz : z ≤ 0
        · have HN : Hid (lnsB rs = false) := lnsB_no fun h => by
            have h1 := h.at_ k c HS.out
            have h2 : 0 < lcmp c l := by
              rcases Nat.eq_zero_or_pos k with k0 | k0
              · rw [HI.out.2.2.1 k0]
                exact lcmp_first h1.ok.p
              · rw [lcmp_pos]
                exact h1.rise l k0 (HI.out.2.2.2.1 k0)
            have h3 := HZ2.out
            omega
          go_wp2
          go_ret
          exact ⟨by rw [HN.out]; rfl, H3.out.1⟩
        · have HN : Hid (OkL rs k c) := by
            refine ⟨lnB_iff.1 HX.out.symm, fun d k0 hd => ?_⟩
            have h4 := HI.out.2.2.2.1 k0
            rw [h4] at hd
            cases hd
            rw [← lcmp_pos, ← HZ2.out]
            omega
          obtain ⟨c0, c1, c2, c3, c4, c5, c6, c7⟩ := box8 H3.out.2.2
          obtain ⟨d0, d1, d2, d3, d4, d5, d6, d7⟩ := box8 H3.out.2.1
          have hfr : ∀ o, w3.frozen? ⟨w.heap.size, o, none⟩ = false := fun o => by simp [World.frozen?, H3.out.2.1]
          go_wp2
          go_roundw
          case rel =>
            refine ⟨k + 1, c, by go_num, by omega, ?_, set8 H3.out.2.1, fun h => by omega, fun _ => by simpa using HS.out, fun i y hi hy => ?_⟩
            · exact ((((((((H3.out.1.setCell (Nat.le_refl _) _).setCell (Nat.le_refl _) _).setCell (Nat.le_refl _) _).setCell (Nat.le_refl _) _).setCell (Nat.le_refl _) _).setCell (Nat.le_refl _) _).setCell (Nat.le_refl _) _).setCell (Nat.le_refl _) _)
            rcases Nat.lt_or_ge i k with g | g
            · exact HI.out.2.2.2.2 i y g hy
            · obtain rfl : i = k := by omega
              rw [HS.out] at hy
              cases hy
              exact HN.out
          case measure => simp [intOf]; omega
    · obtain rfl : k = rs.length := by omega
      have HN : Hid (lnsB rs = true) := lnsB_yes ⟨by omega, fun i c hc => HI.out.2.2.2.2 i c (List.getElem?_eq_some_iff.1 hc).1 hc⟩
      go_wp2
      go_ret
      exact ⟨by rw [HN.out]; rfl, HI.out.1⟩
end Go.Proofs.YtkgkahlhekecmaaGreat
namespace Go.Proofs.YtkgkahlhekecmaaGreat
open Go.ChangeShapes Go.WideShapes Go.ChangeAt Go.RowKit
theorem undrewL {a b : World} (h : Below a.drew.heap.size a.drew b) : Below a.heap.size a b := (Below.refl _ _).drew.trans h
theorem same_set {W : World} {b i : Nat} {v : Value} (h : W.cell? ⟨b, i, none⟩ = some v) : W.setCell ⟨b, i, none⟩ v = W := by
  have hw : ∀ (W : World) (g : Array Obj), g = W.heap → ({ W with heap := g } : World) = W := by
    intro W g e
    subst e
    rfl
  unfold World.setCell
  refine hw W _ ?_
  apply Array.ext_getElem?
  intro j
  simp only [Array.getElem?_modify]
  split
  · rename_i e
    subst e
    unfold World.cell? at h
    cases hc : W.heap[b]? with
    | none => rfl
    | some x =>
      rw [hc] at h
      cases x <;> simp_all
      apply Array.ext_getElem?
      intro k
      rw [Array.getElem?_setIfInBounds]
      split
      · rename_i e
        subst e
        split
        · exact h.symm
        · rename_i hlt
          rw [Array.getElem?_eq_none (by omega)] at h
          cases h
      · rfl
  · rfl
set_option maxRecDepth 20000 in
set_option maxHeartbeats 8000000 in
theorem copyOl_any (l : OLn) (w : World) (hz : l.partner.size ≤ 281474976710656 ∧ l.ref.size ≤ 281474976710656 ∧ l.item.size ≤ 281474976710656) :
    Calls Tryz.prog 157 #[.agg #[.string l.partner, .string l.ref, .int .i64 l.no, .string l.item, .int .i64 l.ordered, .int .i64 l.sent, .int .i64 l.got, .int .i64 l.cut]] w fun e w' => e = .returned (.agg #[.string l.partner, .string l.ref, .int .i64 l.no, .string l.item, .int .i64 l.ordered, .int .i64 l.sent, .int .i64 l.got, .int .i64 l.cut]) ∧ Below w.heap.size w w' := by
  obtain ⟨z0, z1, z2⟩ := hz
  obtain ⟨W1, hW1⟩ : ∃ W1, (w.alloc (.cells #[.string l.partner, .string l.ref, .int .i64 l.no, .string l.item, .int .i64 l.ordered, .int .i64 l.sent, .int .i64 l.got, .int .i64 l.cut] 151)).alloc (.cells #[.string ⟨#[]⟩, .string ⟨#[]⟩, .int .i64 0, .string ⟨#[]⟩, .int .i64 0, .int .i64 0, .int .i64 0, .int .i64 0] 151) = W1 := ⟨_, rfl⟩
  have hb1 : Below w.heap.size w W1 := by rw [← hW1]; exact ((Below.refl _ _).alloc (Nat.le_refl _) _).alloc (by simp) _
  obtain ⟨k0, k1⟩ := fl_two w (.cells #[.string l.partner, .string l.ref, .int .i64 l.no, .string l.item, .int .i64 l.ordered, .int .i64 l.sent, .int .i64 l.got, .int .i64 l.cut] 151) (.cells #[.string ⟨#[]⟩, .string ⟨#[]⟩, .int .i64 0, .string ⟨#[]⟩, .int .i64 0, .int .i64 0, .int .i64 0, .int .i64 0] 151)
  rw [hW1] at k0 k1
  obtain ⟨B, hB⟩ : ∃ B, B = w.heap.size := ⟨_, rfl⟩
  obtain ⟨R, hR⟩ : ∃ R, R = w.heap.size + 1 := ⟨_, rfl⟩
  rw [← hB] at k0
  rw [← hR] at k1
  have HC : Hid (∀ W, Below W1.heap.size W1 W → W.cell? ⟨B, 0, none⟩ = some (.string l.partner) ∧ W.cell? ⟨B, 1, none⟩ = some (.string l.ref) ∧ W.cell? ⟨B, 3, none⟩ = some (.string l.item)) := fun W hW => by
    obtain ⟨a0, a1, _, a3, _⟩ := box8 ((hW.block _ (Array.getElem?_eq_some_iff.1 k0).1).trans k0)
    exact ⟨a0, a1, a3⟩
  have HD : Hid (∀ W, Below W1.heap.size W1 W → W.heap[B]? = some (.cells #[.string l.partner, .string l.ref, .int .i64 l.no, .string l.item, .int .i64 l.ordered, .int .i64 l.sent, .int .i64 l.got, .int .i64 l.cut] 151) ∧ W.heap[R]? = some (.cells #[.string ⟨#[]⟩, .string ⟨#[]⟩, .int .i64 0, .string ⟨#[]⟩, .int .i64 0, .int .i64 0, .int .i64 0, .int .i64 0] 151)) := fun W hW => ⟨(hW.block _ (Array.getElem?_eq_some_iff.1 k0).1).trans k0, (hW.block _ (Array.getElem?_eq_some_iff.1 k1).1).trans k1⟩
  have HB : Hid (Below w.heap.size w W1) := hb1
  obtain ⟨c0, c1, c3⟩ := HC.out W1 (Below.refl _ _)
  go_enter Tryz.func157, Tryz.ntmps157
  go_upto_region 1 with fail
  try rw [hW1]
  try rw [← hR]
  try rw [← hB]
  have HR : Hid (B = w.heap.size ∧ R = w.heap.size + 1) := ⟨hB, hR⟩
  clear hW1 hb1 k0 k1 hB hR
  have s0 : ∀ W : World, W.cell? ⟨B, 0, none⟩ = some (.string l.partner) → W.setCell ⟨B, 0, none⟩ (.string l.partner) = W := fun W h => same_set h
  have s1 : ∀ W : World, W.cell? ⟨B, 1, none⟩ = some (.string l.ref) → W.setCell ⟨B, 1, none⟩ (.string l.ref) = W := fun W h => same_set h
  have s3 : ∀ W : World, W.cell? ⟨B, 3, none⟩ = some (.string l.item) → W.setCell ⟨B, 3, none⟩ (.string l.item) = W := fun W h => same_set h
  have hfB : ∀ W : World, Below W1.heap.size W1 W → ∀ o, W.frozen? ⟨B, o, none⟩ = false := fun W hW o => by
    have e := (HD.out W hW).1
    simp [World.frozen?, e]
  have HF : Hid (∀ W : World, Below W1.heap.size W1 W → ∀ o, W.frozen? ⟨B, o, none⟩ = false) := hfB
  clear hfB
  go_region_held3 (fun W => W.cell? ⟨B, 0, none⟩ = some (.string l.partner) ∧ W.cell? ⟨B, 1, none⟩ = some (.string l.ref) ∧ W.cell? ⟨B, 3, none⟩ = some (.string l.item)) (go_keep) (first | (go_at_call_of 105 (Value.string l.partner); refine (clone_any _ _ (by omega)).mono ?_; rintro e wa ⟨rfl, hba⟩; have ba : Below W1.heap.size W1 wa := (by first | exact hba | exact undrewL hba); obtain ⟨ba0, ba1, ba3⟩ := HC.out wa ba; obtain ⟨_, _, _⟩ := HC.out wa.drew ba.drew; clear hba; try dsimp only) | (go_at_call_of 105 (Value.string l.ref); refine (clone_any _ _ (by omega)).mono ?_; rintro e wb ⟨rfl, hbb⟩; have bb : Below W1.heap.size W1 wb := ba.trans ((by first | exact hbb | exact undrewL hbb : Below wa.heap.size wa wb).mono ba.size); obtain ⟨bb0, bb1, bb3⟩ := HC.out wb bb; obtain ⟨_, _, _⟩ := HC.out wb.drew bb.drew; clear hbb; try dsimp only) | (go_at_call_of 105 (Value.string l.item); refine (clone_any _ _ (by omega)).mono ?_; rintro e wc ⟨rfl, hbc⟩; have bc : Below W1.heap.size W1 wc := bb.trans ((by first | exact hbc | exact undrewL hbc : Below wb.heap.size wb wc).mono bb.size); obtain ⟨bc0, bc1, bc3⟩ := HC.out wc bc; obtain ⟨_, _, _⟩ := HC.out wc.drew bc.drew; clear hbc; have hfr := HF.out wc bc; try dsimp only))
  rename_i hHeld
  clear hHeld s0 s1 s3
  obtain ⟨hb, hr⟩ := HD.out wc bc
  obtain ⟨d0, d1, d2, d3, d4, d5, d6, d7⟩ := box8 hb
  obtain ⟨e0, e1, e2, e3, e4, e5, e6, e7⟩ := box8 hr
  have hfR : ∀ o, wc.frozen? ⟨R, o, none⟩ = false := fun o => by simp [World.frozen?, hr]
  have HE : Hid (Below w.heap.size w wc ∧ wc.heap[R]? = some (.cells #[.string ⟨#[]⟩, .string ⟨#[]⟩, .int .i64 0, .string ⟨#[]⟩, .int .i64 0, .int .i64 0, .int .i64 0, .int .i64 0] 151)) := ⟨HB.out.trans (bc.mono HB.out.size), hr⟩
  clear hb hr bc bb ba
  go_wp2
  obtain ⟨f0, f1, f2, f3, f4, f5, f6, f7⟩ := box8 (set8 (y0 := .string l.partner) (y1 := .string l.ref) (y2 := .int .i64 l.no) (y3 := .string l.item) (y4 := .int .i64 l.ordered) (y5 := .int .i64 l.sent) (y6 := .int .i64 l.got) (y7 := .int .i64 l.cut) HE.out.2)
  have hge : w.heap.size ≤ R := by rw [HR.out.2]; omega
  exact bodyPost_ret (v := .agg #[.string l.partner, .string l.ref, .int .i64 l.no, .string l.item, .int .i64 l.ordered, .int .i64 l.sent, .int .i64 l.got, .int .i64 l.cut]) (by simp [results, Tryz.results157, go_sem, f0, f1, f2, f3, f4, f5, f6, f7]) rfl ⟨rfl, ((((((((HE.out.1.setCell hge _).setCell hge _).setCell hge _).setCell hge _).setCell hge _).setCell hge _).setCell hge _).setCell hge _)⟩
end Go.Proofs.YtkgkahlhekecmaaGreat
namespace Go.Proofs.YtkgkahlhekecmaaGreat
open Go.ChangeShapes Go.WideShapes Go.ChangeAt Go.RowKit
set_option maxRecDepth 20000 in
set_option maxHeartbeats 4000000 in
theorem copyOls_any (v : Value) (rs : List OLn) (w : World) (h : RowOl w v rs) (hl : rs.length ≤ 1048576) (hz : ∀ c ∈ rs, c.partner.size ≤ 1048576 ∧ c.ref.size ≤ 1048576 ∧ c.item.size ≤ 1048576) :
    Calls Tryz.prog 139 #[v] w fun e w' => ∃ u b, e = .returned u ∧ w.heap.size ≤ b ∧ LOl b w' u rs ∧ Below w.heap.size w w' := by
  obtain ⟨A, C, rfl⟩ := h.val
  have HR : Hid (RowOl w (.slice A rs.length C) rs ∧ ∀ c ∈ rs, c.partner.size ≤ 1048576 ∧ c.ref.size ≤ 1048576 ∧ c.item.size ≤ 1048576) := ⟨h, hz⟩
  clear h hz
  go_enter Tryz.func139, Tryz.ntmps139
  go_wp2_with fail
  go_loopw [3, 8] (fun lv i wr => ∃ k : Nat, i = .int .i64 (k : Int) ∧ k ≤ rs.length ∧ (∃ A C ts, ts = rs.take k ∧ lv = .slice A ts.length C ∧ wr.ownsRow w.heap.size 151 8 lv ts.length (clOls ts)) ∧ Below w.heap.size w wr) (fun _ i _ => rs.length - (intOf i).toNat)
  case atStart => exact ⟨0, rfl, by omega, ⟨none, 0, [], by simp, rfl, by simpa [clOls] using World.ownsRow_nil w w.heap.size 151 8⟩, Below.refl _ _⟩
  case round =>
    obtain ⟨k, rfl, hk, ⟨A1, C1, ts, hts, rfl, hR⟩, hb⟩ := hrel
    have HT : Hid (ts = rs.take k) := hts
    have htk : ts.length ≤ 1048576 := by rw [hts, List.length_take]; omega
    clear hts
    by_cases hlt : k < rs.length
    · have hlt' : (k : Int) < (rs.length : Int) := by omega
      obtain ⟨b, o, cap', c, e, hs, ⟨q0, q1, q2, q3, q4, q5, q6, q7⟩, _⟩ := (HR.out.1.below hb).at hlt
      simp only [Value.slice.injEq, true_and] at e
      obtain ⟨rfl, rfl⟩ := e
      have hz := HR.out.2 c (List.mem_of_getElem? hs)
      obtain ⟨W1, hW1⟩ : ∃ W1, wr.alloc (.cells #[.string c.partner, .string c.ref, .int .i64 c.no, .string c.item, .int .i64 c.ordered, .int .i64 c.sent, .int .i64 c.got, .int .i64 c.cut] 151) = W1 := ⟨_, rfl⟩
      have ha : Below wr.heap.size wr W1 := by rw [← hW1]; exact (Below.refl _ _).alloc (Nat.le_refl _) _
      have hbx : W1.heap[wr.heap.size]? = some (.cells #[.string c.partner, .string c.ref, .int .i64 c.no, .string c.item, .int .i64 c.ordered, .int .i64 c.sent, .int .i64 c.got, .int .i64 c.cut] 151) := by rw [← hW1]; exact World.alloc_heap_new _ _
      obtain ⟨B, hB⟩ : ∃ B, B = wr.heap.size := ⟨_, rfl⟩
      rw [← hB] at hbx
      have hR1 : W1.ownsRow w.heap.size 151 8 (.slice A1 ts.length C1) ts.length (clOls ts) := by rw [← hW1]; exact hR.alloc _
      have HG : Hid (Below w.heap.size w W1 ∧ W1.heap[B]? = some (.cells #[.string c.partner, .string c.ref, .int .i64 c.no, .string c.item, .int .i64 c.ordered, .int .i64 c.sent, .int .i64 c.got, .int .i64 c.cut] 151) ∧ W1.ownsRow w.heap.size 151 8 (.slice A1 ts.length C1) ts.length (clOls ts) ∧ rs[k]? = some c) := ⟨hb.trans (ha.mono hb.size), hbx, hR1, hs⟩
      have HW1 : Hid (wr.alloc (.cells #[.string c.partner, .string c.ref, .int .i64 c.no, .string c.item, .int .i64 c.ordered, .int .i64 c.sent, .int .i64 c.got, .int .i64 c.cut] 151) = W1 ∧ B = wr.heap.size) := ⟨hW1, hB⟩
      clear hW1 ha hbx hR1 hR hb hs hB
      go_upto_region 5 with fail
      try rw [HW1.out.1]
      try rw [← HW1.out.2]
      clear HW1 q0 q1 q2 q3 q4 q5 q6 q7
      obtain ⟨c0, c1, c2, c3, c4, c5, c6, c7⟩ := box8 HG.out.2.1
      go_wp2_with fail
      refine (copyOl_any c _ (by omega)).mono ?_
      rintro e w2 ⟨rfl, hb2⟩
      have hrow2 : w2.ownsRow w.heap.size 151 8 (.slice A1 ts.length C1) ts.length (clOls ts) := by
        refine HG.out.2.2.1.kept (row := none) ⟨hb2.os, hb2.tape, hb2.output, hb2.size, fun j hj _ => hb2.block j hj⟩ ?_
        rcases HG.out.2.2.1.2 with ⟨e, _⟩ | ⟨g, cap, cur, e, _⟩
        · exact .inl (by rw [e]; rfl)
        · exact .inr (by rw [e]; simp [Value.ownBlock])
      have H2 : Hid (Below w.heap.size w w2) := HG.out.1.trans (hb2.mono HG.out.1.size)
      have hrow : (w2.alloc (.cells #[.string c.partner, .string c.ref, .int .i64 c.no, .string c.item, .int .i64 c.ordered, .int .i64 c.sent, .int .i64 c.got, .int .i64 c.cut] 151)).ownsRow w.heap.size 151 8 (.slice A1 ts.length C1) ts.length (clOls ts) := hrow2.alloc _
      have hat : AtOl (w2.alloc (.cells #[.string c.partner, .string c.ref, .int .i64 c.no, .string c.item, .int .i64 c.ordered, .int .i64 c.sent, .int .i64 c.got, .int .i64 c.cut] 151)) w2.heap.size 0 c := by
        obtain ⟨a0, a1, a2, a3, a4, a5, a6, a7⟩ := box8 (World.alloc_heap_new w2 (.cells #[.string c.partner, .string c.ref, .int .i64 c.no, .string c.item, .int .i64 c.ordered, .int .i64 c.sent, .int .i64 c.got, .int .i64 c.cut] 151))
        exact ⟨a0, a1, a2, a3, a4, a5, a6, a7⟩
      have hsz := H2.out.size
      clear hb2 hrow2 c0 c1 c2 c3 c4 c5 c6 c7
      go_wp2_with (first | (at_builtin; refine wpList_appOl rfl _ _ rfl rfl rfl hrow hat (by omega) (by simp; omega) ?_; rintro v4 w4 hown4 hgrow4 ⟨A4, C4, rfl⟩))
      have e3 : rs.take (k + 1) = ts ++ [c] := by
        rw [List.take_add_one, HG.out.2.2.2, HT.out]
        rfl
      have H4 : Hid (w4.ownsRow w.heap.size 151 8 (.slice A4 (ts ++ [c]).length C4) (ts ++ [c]).length (clOls (ts ++ [c])) ∧ Below w.heap.size w w4) := by
        refine ⟨hown4, (H2.out.alloc hsz _).trans ⟨hgrow4.os, hgrow4.tape, hgrow4.output, hgrow4.size, fun q hq => hgrow4.block q (by simp; omega) (fun e => ?_)⟩⟩
        have := (hrow.lt q e.symm).1
        omega
      clear hown4 hgrow4
      go_wp2
      go_roundw
      case rel => exact ⟨k + 1, by go_num, by omega, ⟨A4, C4, ts ++ [c], e3.symm, by simp, by simpa using H4.out.1⟩, H4.out.2⟩
      case measure => simp [intOf]; omega
    · obtain rfl : k = rs.length := by omega
      have HF : Hid (wr.ownsRow w.heap.size 151 8 (.slice A1 ts.length C1) rs.length (clOls rs) ∧ Below w.heap.size w wr ∧ ts = rs) := by
        have e := HT.out
        rw [List.take_length] at e
        rw [e] at hR ⊢
        exact ⟨hR, hb, rfl⟩
      clear hR hb
      go_wp2
      go_ret
      obtain ⟨b, hb1, hL⟩ := LOl.of_owns HF.out.1 (by omega) (fun i g hi => by have := HR.out.2 g (List.mem_of_getElem? hi); omega)
      exact ⟨_, b, rfl, hb1, hL, HF.out.2.1⟩
end Go.Proofs.YtkgkahlhekecmaaGreat
