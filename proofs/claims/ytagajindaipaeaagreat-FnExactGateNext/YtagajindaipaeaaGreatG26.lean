/- Texts of ours put together: LnR, LnK, InsD, CpB. -/
import Derived.Test.YtagajindaipaeaaGreatG25
import Derived.Test.YtagajindaipaeaaGreatG18
import Derived.Deep.RegionHeld3
import Derived.Test.YtagajindaipaeaaGreatG17
import Derived.Test.YtagajindaipaeaaGreatG24
import Derived.Deep.RegionLaw
import Derived.Deep.AppendLies
import Derived.Sort.Walk0
import Derived.Test.YtagajindaipaeaaGreatG02
import Derived.RangeFuncBox
namespace Go.Proofs.YtagajindaipaeaaGreat
open Go.ChangeShapes Go.WideShapes Go.ChangeAt Go.RowKit
theorem set8 {W : World} {b t : Nat} {x0 x1 x2 x3 x4 x5 x6 x7 y0 y1 y2 y3 y4 y5 y6 y7 : Value} (h : W.heap[b]? = some (.cells #[x0, x1, x2, x3, x4, x5, x6, x7] t)) :
    ((((((((W.setCell ⟨b, 0, none⟩ y0).setCell ⟨b, 1, none⟩ y1).setCell ⟨b, 2, none⟩ y2).setCell ⟨b, 3, none⟩ y3).setCell ⟨b, 4, none⟩ y4).setCell ⟨b, 5, none⟩ y5).setCell ⟨b, 6, none⟩ y6).setCell ⟨b, 7, none⟩ y7).heap[b]? = some (.cells #[y0, y1, y2, y3, y4, y5, y6, y7] t) := by
  simp [World.setCell, Array.getElem?_modify, h]
set_option maxHeartbeats 4000000 in
theorem linesRight_impl (v : Value) (rs : List OLn) (w : World) (h : RowOl w v rs) : Calls Tryz.prog 130 #[v] w fun e w' => e = .returned (.bool (lnsB rs)) ∧ Below w.heap.size w w' := by
  have hlen := h.len
  obtain ⟨A, Cp, rfl⟩ := h.val
  have H0 : Hid (RowOl w (.slice A rs.length Cp) rs) := h
  clear h
  go_enter Tryz.func130, Tryz.ntmps130
  by_cases hl : 200 < rs.length
  · have hl' : (200 : Int) < (rs.length : Int) := by omega
    have HN : Hid (lnsB rs = false) := lnsB_no fun h => by have := h.len; omega
    go_wp2
    go_ret
    exact ⟨by rw [HN.out]; rfl, Below.refl _ _⟩
  have hl' : ¬ (200 : Int) < (rs.length : Int) := by omega
  have hb0 : Below w.heap.size w (w.alloc (.cells #[.string zeroL.partner, .string zeroL.ref, .int .i64 zeroL.no, .string zeroL.item, .int .i64 zeroL.ordered, .int .i64 zeroL.sent, .int .i64 zeroL.got, .int .i64 zeroL.cut] 173)) := (Below.refl _ _).alloc (Nat.le_refl _) _
  have hx0 : (w.alloc (.cells #[.string zeroL.partner, .string zeroL.ref, .int .i64 zeroL.no, .string zeroL.item, .int .i64 zeroL.ordered, .int .i64 zeroL.sent, .int .i64 zeroL.got, .int .i64 zeroL.cut] 173)).heap[w.heap.size]? = some (.cells #[.string zeroL.partner, .string zeroL.ref, .int .i64 zeroL.no, .string zeroL.item, .int .i64 zeroL.ordered, .int .i64 zeroL.sent, .int .i64 zeroL.got, .int .i64 zeroL.cut] 173) := World.alloc_heap_new _ _
  simp only [zeroL] at hb0 hx0
  have HZ : Hid _ := And.intro hb0 hx0
  clear hb0 hx0
  go_wp2_with fail
  go_loopw [12] (fun i wr => ∃ (k : Nat) (l : OLn), i = .int .i64 (k : Int) ∧ k ≤ rs.length ∧ Below w.heap.size w wr ∧ wr.heap[w.heap.size]? = some (.cells #[.string l.partner, .string l.ref, .int .i64 l.no, .string l.item, .int .i64 l.ordered, .int .i64 l.sent, .int .i64 l.got, .int .i64 l.cut] 173) ∧ (k = 0 → l = zeroL) ∧ (0 < k → rs[k - 1]? = some l) ∧ ∀ i c, i < k → rs[i]? = some c → OkL rs i c) (fun i _ => rs.length - (intOf i).toNat)
  case atStart => exact ⟨0, zeroL, rfl, by omega, HZ.out.1, HZ.out.2, fun _ => rfl, fun h => by omega, fun i c hi => by omega⟩
  case round =>
    obtain ⟨k, l, rfl, hk, hb, hbx, hl0, hl1, hok⟩ := hrel
    have HI : Hid (Below w.heap.size w wr ∧ wr.heap[w.heap.size]? = some (.cells #[.string l.partner, .string l.ref, .int .i64 l.no, .string l.item, .int .i64 l.ordered, .int .i64 l.sent, .int .i64 l.got, .int .i64 l.cut] 173) ∧ (k = 0 → l = zeroL) ∧ (0 < k → rs[k - 1]? = some l) ∧ ∀ i c, i < k → rs[i]? = some c → OkL rs i c) := ⟨hb, hbx, hl0, hl1, hok⟩
    have hsz : w.heap.size < wr.heap.size := (Array.getElem?_eq_some_iff.1 hbx).1
    clear hok hb hbx hl0 hl1
    by_cases hlt : k < rs.length
    · have hlt' : (k : Int) < (rs.length : Int) := by omega
      obtain ⟨b, o, cap', c, e, hs, ⟨q0, q1, q2, q3, q4, q5, q6, q7⟩, hz⟩ := (H0.out.below HI.out.1).at hlt
      simp only [Value.slice.injEq, true_and] at e
      obtain ⟨rfl, rfl⟩ := e
      have HS : Hid (rs[k]? = some c) := hs
      clear hs hz
      obtain ⟨W1, hW1⟩ : ∃ W1, wr.alloc (.cells #[.string c.partner, .string c.ref, .int .i64 c.no, .string c.item, .int .i64 c.ordered, .int .i64 c.sent, .int .i64 c.got, .int .i64 c.cut] 173) = W1 := ⟨_, rfl⟩
      have ha : Below wr.heap.size wr W1 := by rw [← hW1]; exact (Below.refl _ _).alloc (Nat.le_refl _) _
      have hc1 : W1.heap[wr.heap.size]? = some (.cells #[.string c.partner, .string c.ref, .int .i64 c.no, .string c.item, .int .i64 c.ordered, .int .i64 c.sent, .int .i64 c.got, .int .i64 c.cut] 173) := by rw [← hW1]; exact World.alloc_heap_new _ _
      obtain ⟨C, hC⟩ : ∃ C, C = wr.heap.size := ⟨_, rfl⟩
      rw [← hC] at hc1
      have H1 : Hid (Below w.heap.size w W1 ∧ W1.heap[w.heap.size]? = some (.cells #[.string l.partner, .string l.ref, .int .i64 l.no, .string l.item, .int .i64 l.ordered, .int .i64 l.sent, .int .i64 l.got, .int .i64 l.cut] 173) ∧ W1.heap[C]? = some (.cells #[.string c.partner, .string c.ref, .int .i64 c.no, .string c.item, .int .i64 c.ordered, .int .i64 c.sent, .int .i64 c.got, .int .i64 c.cut] 173)) := ⟨HI.out.1.trans (ha.mono HI.out.1.size), (ha.block _ hsz).trans HI.out.2.1, hc1⟩
      have hCw : w.heap.size < C := by omega
      go_upto_region 7 with fail
      try rw [hW1]
      try rw [← hC]
      clear hW1 hc1 ha q0 q1 q2 q3 q4 q5 q6 q7 hC hsz
      obtain ⟨c0, c1, c2, c3, c4, c5, c6, c7⟩ := box8 H1.out.2.2
      obtain ⟨x, hx⟩ : ∃ x, x = lnB c := ⟨_, rfl⟩
      have Q1 := lineRight_impl c
      rw [← hx] at Q1
      have HX : Hid (x = lnB c) := hx
      clear hx
      go_wp2_with fail
      refine (Q1 _).mono ?_
      rintro e w2 ⟨rfl, hb2⟩
      have H2 : Hid (Below w.heap.size w w2 ∧ w2.heap[w.heap.size]? = some (.cells #[.string l.partner, .string l.ref, .int .i64 l.no, .string l.item, .int .i64 l.ordered, .int .i64 l.sent, .int .i64 l.got, .int .i64 l.cut] 173) ∧ w2.heap[C]? = some (.cells #[.string c.partner, .string c.ref, .int .i64 c.no, .string c.item, .int .i64 c.ordered, .int .i64 c.sent, .int .i64 c.got, .int .i64 c.cut] 173)) := ⟨H1.out.1.trans (hb2.mono H1.out.1.size), (hb2.block _ (Array.getElem?_eq_some_iff.1 H1.out.2.1).1).trans H1.out.2.1, (hb2.block _ (Array.getElem?_eq_some_iff.1 H1.out.2.2).1).trans H1.out.2.2⟩
      clear hb2 c0 c1 c2 c3 c4 c5 c6 c7 H1 Q1
      cases x with
      | false =>
        have HN : Hid (lnsB rs = false) := lnsB_no fun h => by
          have h1 := h.at_ k c HS.out
          have h2 := HX.out
          rw [lnB_yes h1.ok] at h2
          cases h2
        go_wp2
        go_ret
        exact ⟨by rw [HN.out]; rfl, H2.out.1⟩
      | true =>
        have Q2 := lcmp_any c l
        obtain ⟨z, hz⟩ : ∃ z, z = lcmp c l := ⟨_, rfl⟩
        rw [← hz] at Q2
        have HZ2 : Hid (z = lcmp c l) := hz
        clear hz
        obtain ⟨c0, c1, c2, c3, c4, c5, c6, c7⟩ := box8 H2.out.2.2
        obtain ⟨d0, d1, d2, d3, d4, d5, d6, d7⟩ := box8 H2.out.2.1
        go_wp2_with fail
        refine (Q2 _).mono ?_
        rintro e w3 ⟨rfl, hb3⟩
        have H3 : Hid (Below w.heap.size w w3 ∧ w3.heap[w.heap.size]? = some (.cells #[.string l.partner, .string l.ref, .int .i64 l.no, .string l.item, .int .i64 l.ordered, .int .i64 l.sent, .int .i64 l.got, .int .i64 l.cut] 173) ∧ w3.heap[C]? = some (.cells #[.string c.partner, .string c.ref, .int .i64 c.no, .string c.item, .int .i64 c.ordered, .int .i64 c.sent, .int .i64 c.got, .int .i64 c.cut] 173)) := ⟨H2.out.1.trans (hb3.mono H2.out.1.size), (hb3.block _ (Array.getElem?_eq_some_iff.1 H2.out.2.1).1).trans H2.out.2.1, (hb3.block _ (Array.getElem?_eq_some_iff.1 H2.out.2.2).1).trans H2.out.2.2⟩
        clear hb3 c0 c1 c2 c3 c4 c5 c6 c7 d0 d1 d2 d3 d4 d5 d6 d7 H2 Q2
        by_cases hz : z ≤ 0
        · have HN : Hid (lnsB rs = false) := lnsB_no fun h => by
            have h1 := h.at_ k c HS.out
            have h2 : 0 < lcmp c l := by
              rcases Nat.eq_zero_or_pos k with k0 | k0
              · rw [HI.out.2.2.1 k0]
                exact lcmp_first h1.ok.p
              · rw [lcmp_pos]
                exact h1.rise l k0 (HI.out.2.2.2.1 k0)
            have h3 := HZ2.out
            omega
          go_wp2
          go_ret
          exact ⟨by rw [HN.out]; rfl, H3.out.1⟩
        · have HN : Hid (OkL rs k c) := by
            refine ⟨lnB_iff.1 HX.out.symm, fun d k0 hd => ?_⟩
            have h4 := HI.out.2.2.2.1 k0
            rw [h4] at hd
            cases hd
            rw [← lcmp_pos, ← HZ2.out]
            omega
          obtain ⟨c0, c1, c2, c3, c4, c5, c6, c7⟩ := box8 H3.out.2.2
          obtain ⟨d0, d1, d2, d3, d4, d5, d6, d7⟩ := box8 H3.out.2.1
          have hfr : ∀ o, w3.frozen? ⟨w.heap.size, o, none⟩ = false := fun o => by simp [World.frozen?, H3.out.2.1]
          go_wp2
          go_roundw
          case rel =>
            refine ⟨k + 1, c, by go_num, by omega, ?_, set8 H3.out.2.1, fun h => by omega, fun _ => by simpa using HS.out, fun i y hi hy => ?_⟩
            · exact ((((((((H3.out.1.setCell (Nat.le_refl _) _).setCell (Nat.le_refl _) _).setCell (Nat.le_refl _) _).setCell (Nat.le_refl _) _).setCell (Nat.le_refl _) _).setCell (Nat.le_refl _) _).setCell (Nat.le_refl _) _).setCell (Nat.le_refl _) _)
            rcases Nat.lt_or_ge i k with g | g
            · exact HI.out.2.2.2.2 i y g hy
            · obtain rfl : i = k := by omega
              rw [HS.out] at hy
              cases hy
              exact HN.out
          case measure => simp [intOf]; omega
    · obtain rfl : k = rs.length := by omega
      have HN : Hid (lnsB rs = true) := lnsB_yes ⟨by omega, fun i c hc => HI.out.2.2.2.2 i c (List.getElem?_eq_some_iff.1 hc).1 hc⟩
      go_wp2
      go_ret
      exact ⟨by rw [HN.out]; rfl, HI.out.1⟩
end Go.Proofs.YtagajindaipaeaaGreat
namespace Go.Proofs.YtagajindaipaeaaGreat
open Go.ChangeShapes Go.WideShapes Go.ChangeAt Go.RowKit
theorem undrewL {a b : World} (h : Below a.drew.heap.size a.drew b) : Below a.heap.size a b := (Below.refl _ _).drew.trans h
theorem same_set {W : World} {b i : Nat} {v : Value} (h : W.cell? ⟨b, i, none⟩ = some v) : W.setCell ⟨b, i, none⟩ v = W := by
  have hw : ∀ (W : World) (g : Array Obj), g = W.heap → ({ W with heap := g } : World) = W := by
    intro W g e
    subst e
    rfl
  unfold World.setCell
  refine hw W _ ?_
  apply Array.ext_getElem?
  intro j
  simp only [Array.getElem?_modify]
  split
  · rename_i e
    subst e
    unfold World.cell? at h
    cases hc : W.heap[b]? with
    | none => rfl
    | some x =>
      rw [hc] at h
      cases x <;> simp_all
      apply Array.ext_getElem?
      intro k
      rw [Array.getElem?_setIfInBounds]
      split
      · rename_i e
        subst e
        split
        · exact h.symm
        · rename_i hlt
          rw [Array.getElem?_eq_none (by omega)] at h
          cases h
      · rfl
  · rfl
set_option maxRecDepth 20000 in
set_option maxHeartbeats 8000000 in
theorem copyOl_any (l : OLn) (w : World) (hz : l.partner.size ≤ 281474976710656 ∧ l.ref.size ≤ 281474976710656 ∧ l.item.size ≤ 281474976710656) :
    Calls Tryz.prog 177 #[.agg #[.string l.partner, .string l.ref, .int .i64 l.no, .string l.item, .int .i64 l.ordered, .int .i64 l.sent, .int .i64 l.got, .int .i64 l.cut]] w fun e w' => e = .returned (.agg #[.string l.partner, .string l.ref, .int .i64 l.no, .string l.item, .int .i64 l.ordered, .int .i64 l.sent, .int .i64 l.got, .int .i64 l.cut]) ∧ Below w.heap.size w w' := by
  obtain ⟨z0, z1, z2⟩ := hz
  obtain ⟨W1, hW1⟩ : ∃ W1, (w.alloc (.cells #[.string l.partner, .string l.ref, .int .i64 l.no, .string l.item, .int .i64 l.ordered, .int .i64 l.sent, .int .i64 l.got, .int .i64 l.cut] 173)).alloc (.cells #[.string ⟨#[]⟩, .string ⟨#[]⟩, .int .i64 0, .string ⟨#[]⟩, .int .i64 0, .int .i64 0, .int .i64 0, .int .i64 0] 173) = W1 := ⟨_, rfl⟩
  have hb1 : Below w.heap.size w W1 := by rw [← hW1]; exact ((Below.refl _ _).alloc (Nat.le_refl _) _).alloc (by simp) _
  obtain ⟨k0, k1⟩ := fl_two w (.cells #[.string l.partner, .string l.ref, .int .i64 l.no, .string l.item, .int .i64 l.ordered, .int .i64 l.sent, .int .i64 l.got, .int .i64 l.cut] 173) (.cells #[.string ⟨#[]⟩, .string ⟨#[]⟩, .int .i64 0, .string ⟨#[]⟩, .int .i64 0, .int .i64 0, .int .i64 0, .int .i64 0] 173)
  rw [hW1] at k0 k1
  obtain ⟨B, hB⟩ : ∃ B, B = w.heap.size := ⟨_, rfl⟩
  obtain ⟨R, hR⟩ : ∃ R, R = w.heap.size + 1 := ⟨_, rfl⟩
  rw [← hB] at k0
  rw [← hR] at k1
  have HC : Hid (∀ W, Below W1.heap.size W1 W → W.cell? ⟨B, 0, none⟩ = some (.string l.partner) ∧ W.cell? ⟨B, 1, none⟩ = some (.string l.ref) ∧ W.cell? ⟨B, 3, none⟩ = some (.string l.item)) := fun W hW => by
    obtain ⟨a0, a1, _, a3, _⟩ := box8 ((hW.block _ (Array.getElem?_eq_some_iff.1 k0).1).trans k0)
    exact ⟨a0, a1, a3⟩
  have HD : Hid (∀ W, Below W1.heap.size W1 W → W.heap[B]? = some (.cells #[.string l.partner, .string l.ref, .int .i64 l.no, .string l.item, .int .i64 l.ordered, .int .i64 l.sent, .int .i64 l.got, .int .i64 l.cut] 173) ∧ W.heap[R]? = some (.cells #[.string ⟨#[]⟩, .string ⟨#[]⟩, .int .i64 0, .string ⟨#[]⟩, .int .i64 0, .int .i64 0, .int .i64 0, .int .i64 0] 173)) := fun W hW => ⟨(hW.block _ (Array.getElem?_eq_some_iff.1 k0).1).trans k0, (hW.block _ (Array.getElem?_eq_some_iff.1 k1).1).trans k1⟩
  have HB : Hid (Below w.heap.size w W1) := hb1
  obtain ⟨c0, c1, c3⟩ := HC.out W1 (Below.refl _ _)
  go_enter Tryz.func177, Tryz.ntmps177
  go_upto_region 1 with fail
  try rw [hW1]
  try rw [← hR]
  try rw [← hB]
  have HR : Hid (B = w.heap.size ∧ R = w.heap.size + 1) := ⟨hB, hR⟩
  clear hW1 hb1 k0 k1 hB hR
  have s0 : ∀ W : World, W.cell? ⟨B, 0, none⟩ = some (.string l.partner) → W.setCell ⟨B, 0, none⟩ (.string l.partner) = W := fun W h => same_set h
  have s1 : ∀ W : World, W.cell? ⟨B, 1, none⟩ = some (.string l.ref) → W.setCell ⟨B, 1, none⟩ (.string l.ref) = W := fun W h => same_set h
  have s3 : ∀ W : World, W.cell? ⟨B, 3, none⟩ = some (.string l.item) → W.setCell ⟨B, 3, none⟩ (.string l.item) = W := fun W h => same_set h
  have hfB : ∀ W : World, Below W1.heap.size W1 W → ∀ o, W.frozen? ⟨B, o, none⟩ = false := fun W hW o => by
    have e := (HD.out W hW).1
    simp [World.frozen?, e]
  have HF : Hid (∀ W : World, Below W1.heap.size W1 W → ∀ o, W.frozen? ⟨B, o, none⟩ = false) := hfB
  clear hfB
  go_region_held3 (fun W => W.cell? ⟨B, 0, none⟩ = some (.string l.partner) ∧ W.cell? ⟨B, 1, none⟩ = some (.string l.ref) ∧ W.cell? ⟨B, 3, none⟩ = some (.string l.item)) (go_keep) (first | (go_at_call_of 107 (Value.string l.partner); refine (clone_any _ _ (by omega)).mono ?_; rintro e wa ⟨rfl, hba⟩; have ba : Below W1.heap.size W1 wa := (by first | exact hba | exact undrewL hba); obtain ⟨ba0, ba1, ba3⟩ := HC.out wa ba; obtain ⟨_, _, _⟩ := HC.out wa.drew ba.drew; clear hba; try dsimp only) | (go_at_call_of 107 (Value.string l.ref); refine (clone_any _ _ (by omega)).mono ?_; rintro e wb ⟨rfl, hbb⟩; have bb : Below W1.heap.size W1 wb := ba.trans ((by first | exact hbb | exact undrewL hbb : Below wa.heap.size wa wb).mono ba.size); obtain ⟨bb0, bb1, bb3⟩ := HC.out wb bb; obtain ⟨_, _, _⟩ := HC.out wb.drew bb.drew; clear hbb; try dsimp only) | (go_at_call_of 107 (Value.string l.item); refine (clone_any _ _ (by omega)).mono ?_; rintro e wc ⟨rfl, hbc⟩; have bc : Below W1.heap.size W1 wc := bb.trans ((by first | exact hbc | exact undrewL hbc : Below wb.heap.size wb wc).mono bb.size); obtain ⟨bc0, bc1, bc3⟩ := HC.out wc bc; obtain ⟨_, _, _⟩ := HC.out wc.drew bc.drew; clear hbc; have hfr := HF.out wc bc; try dsimp only))
  rename_i hHeld
  clear hHeld s0 s1 s3
  obtain ⟨hb, hr⟩ := HD.out wc bc
  obtain ⟨d0, d1, d2, d3, d4, d5, d6, d7⟩ := box8 hb
  obtain ⟨e0, e1, e2, e3, e4, e5, e6, e7⟩ := box8 hr
  have hfR : ∀ o, wc.frozen? ⟨R, o, none⟩ = false := fun o => by simp [World.frozen?, hr]
  have HE : Hid (Below w.heap.size w wc ∧ wc.heap[R]? = some (.cells #[.string ⟨#[]⟩, .string ⟨#[]⟩, .int .i64 0, .string ⟨#[]⟩, .int .i64 0, .int .i64 0, .int .i64 0, .int .i64 0] 173)) := ⟨HB.out.trans (bc.mono HB.out.size), hr⟩
  clear hb hr bc bb ba
  go_wp2
  obtain ⟨f0, f1, f2, f3, f4, f5, f6, f7⟩ := box8 (set8 (y0 := .string l.partner) (y1 := .string l.ref) (y2 := .int .i64 l.no) (y3 := .string l.item) (y4 := .int .i64 l.ordered) (y5 := .int .i64 l.sent) (y6 := .int .i64 l.got) (y7 := .int .i64 l.cut) HE.out.2)
  have hge : w.heap.size ≤ R := by rw [HR.out.2]; omega
  exact bodyPost_ret (v := .agg #[.string l.partner, .string l.ref, .int .i64 l.no, .string l.item, .int .i64 l.ordered, .int .i64 l.sent, .int .i64 l.got, .int .i64 l.cut]) (by simp [results, Tryz.results177, go_sem, f0, f1, f2, f3, f4, f5, f6, f7]) rfl ⟨rfl, ((((((((HE.out.1.setCell hge _).setCell hge _).setCell hge _).setCell hge _).setCell hge _).setCell hge _).setCell hge _).setCell hge _)⟩
end Go.Proofs.YtagajindaipaeaaGreat
namespace Go.Proofs.YtagajindaipaeaaGreat
open Go.ChangeShapes Go.WideShapes Go.ChangeAt Go.RowKit
set_option maxRecDepth 20000 in
set_option maxHeartbeats 4000000 in
theorem copyOls_any (v : Value) (rs : List OLn) (w : World) (h : RowOl w v rs) (hl : rs.length ≤ 1048576) (hz : ∀ c ∈ rs, c.partner.size ≤ 1048576 ∧ c.ref.size ≤ 1048576 ∧ c.item.size ≤ 1048576) :
    Calls Tryz.prog 148 #[v] w fun e w' => ∃ u b, e = .returned u ∧ w.heap.size ≤ b ∧ LOl b w' u rs ∧ Below w.heap.size w w' := by
  obtain ⟨A, C, rfl⟩ := h.val
  have HR : Hid (RowOl w (.slice A rs.length C) rs ∧ ∀ c ∈ rs, c.partner.size ≤ 1048576 ∧ c.ref.size ≤ 1048576 ∧ c.item.size ≤ 1048576) := ⟨h, hz⟩
  clear h hz
  go_enter Tryz.func148, Tryz.ntmps148
  go_wp2_with fail
  go_loopw [3, 8] (fun lv i wr => ∃ k : Nat, i = .int .i64 (k : Int) ∧ k ≤ rs.length ∧ (∃ A C ts, ts = rs.take k ∧ lv = .slice A ts.length C ∧ wr.ownsRow w.heap.size 173 8 lv ts.length (clOls ts)) ∧ Below w.heap.size w wr) (fun _ i _ => rs.length - (intOf i).toNat)
  case atStart => exact ⟨0, rfl, by omega, ⟨none, 0, [], by simp, rfl, by simpa [clOls] using World.ownsRow_nil w w.heap.size 173 8⟩, Below.refl _ _⟩
  case round =>
    obtain ⟨k, rfl, hk, ⟨A1, C1, ts, hts, rfl, hR⟩, hb⟩ := hrel
    have HT : Hid (ts = rs.take k) := hts
    have htk : ts.length ≤ 1048576 := by rw [hts, List.length_take]; omega
    clear hts
    by_cases hlt : k < rs.length
    · have hlt' : (k : Int) < (rs.length : Int) := by omega
      obtain ⟨b, o, cap', c, e, hs, ⟨q0, q1, q2, q3, q4, q5, q6, q7⟩, _⟩ := (HR.out.1.below hb).at hlt
      simp only [Value.slice.injEq, true_and] at e
      obtain ⟨rfl, rfl⟩ := e
      have hz := HR.out.2 c (List.mem_of_getElem? hs)
      obtain ⟨W1, hW1⟩ : ∃ W1, wr.alloc (.cells #[.string c.partner, .string c.ref, .int .i64 c.no, .string c.item, .int .i64 c.ordered, .int .i64 c.sent, .int .i64 c.got, .int .i64 c.cut] 173) = W1 := ⟨_, rfl⟩
      have ha : Below wr.heap.size wr W1 := by rw [← hW1]; exact (Below.refl _ _).alloc (Nat.le_refl _) _
      have hbx : W1.heap[wr.heap.size]? = some (.cells #[.string c.partner, .string c.ref, .int .i64 c.no, .string c.item, .int .i64 c.ordered, .int .i64 c.sent, .int .i64 c.got, .int .i64 c.cut] 173) := by rw [← hW1]; exact World.alloc_heap_new _ _
      obtain ⟨B, hB⟩ : ∃ B, B = wr.heap.size := ⟨_, rfl⟩
      rw [← hB] at hbx
      have hR1 : W1.ownsRow w.heap.size 173 8 (.slice A1 ts.length C1) ts.length (clOls ts) := by rw [← hW1]; exact hR.alloc _
      have HG : Hid (Below w.heap.size w W1 ∧ W1.heap[B]? = some (.cells #[.string c.partner, .string c.ref, .int .i64 c.no, .string c.item, .int .i64 c.ordered, .int .i64 c.sent, .int .i64 c.got, .int .i64 c.cut] 173) ∧ W1.ownsRow w.heap.size 173 8 (.slice A1 ts.length C1) ts.length (clOls ts) ∧ rs[k]? = some c) := ⟨hb.trans (ha.mono hb.size), hbx, hR1, hs⟩
      have HW1 : Hid (wr.alloc (.cells #[.string c.partner, .string c.ref, .int .i64 c.no, .string c.item, .int .i64 c.ordered, .int .i64 c.sent, .int .i64 c.got, .int .i64 c.cut] 173) = W1 ∧ B = wr.heap.size) := ⟨hW1, hB⟩
      clear hW1 ha hbx hR1 hR hb hs hB
      go_upto_region 5 with fail
      try rw [HW1.out.1]
      try rw [← HW1.out.2]
      clear HW1 q0 q1 q2 q3 q4 q5 q6 q7
      obtain ⟨c0, c1, c2, c3, c4, c5, c6, c7⟩ := box8 HG.out.2.1
      go_wp2_with fail
      refine (copyOl_any c _ (by omega)).mono ?_
      rintro e w2 ⟨rfl, hb2⟩
      have hrow2 : w2.ownsRow w.heap.size 173 8 (.slice A1 ts.length C1) ts.length (clOls ts) := by
        refine HG.out.2.2.1.kept (row := none) ⟨hb2.os, hb2.tape, hb2.output, hb2.size, fun j hj _ => hb2.block j hj⟩ ?_
        rcases HG.out.2.2.1.2 with ⟨e, _⟩ | ⟨g, cap, cur, e, _⟩
        · exact .inl (by rw [e]; rfl)
        · exact .inr (by rw [e]; simp [Value.ownBlock])
      have H2 : Hid (Below w.heap.size w w2) := HG.out.1.trans (hb2.mono HG.out.1.size)
      have hrow : (w2.alloc (.cells #[.string c.partner, .string c.ref, .int .i64 c.no, .string c.item, .int .i64 c.ordered, .int .i64 c.sent, .int .i64 c.got, .int .i64 c.cut] 173)).ownsRow w.heap.size 173 8 (.slice A1 ts.length C1) ts.length (clOls ts) := hrow2.alloc _
      have hat : AtOl (w2.alloc (.cells #[.string c.partner, .string c.ref, .int .i64 c.no, .string c.item, .int .i64 c.ordered, .int .i64 c.sent, .int .i64 c.got, .int .i64 c.cut] 173)) w2.heap.size 0 c := by
        obtain ⟨a0, a1, a2, a3, a4, a5, a6, a7⟩ := box8 (World.alloc_heap_new w2 (.cells #[.string c.partner, .string c.ref, .int .i64 c.no, .string c.item, .int .i64 c.ordered, .int .i64 c.sent, .int .i64 c.got, .int .i64 c.cut] 173))
        exact ⟨a0, a1, a2, a3, a4, a5, a6, a7⟩
      have hsz := H2.out.size
      clear hb2 hrow2 c0 c1 c2 c3 c4 c5 c6 c7
      go_wp2_with (first | (at_builtin; refine wpList_appOl rfl _ _ rfl rfl rfl hrow hat (by omega) (by simp; omega) ?_; rintro v4 w4 hown4 hgrow4 ⟨A4, C4, rfl⟩))
      have e3 : rs.take (k + 1) = ts ++ [c] := by
        rw [List.take_add_one, HG.out.2.2.2, HT.out]
        rfl
      have H4 : Hid (w4.ownsRow w.heap.size 173 8 (.slice A4 (ts ++ [c]).length C4) (ts ++ [c]).length (clOls (ts ++ [c])) ∧ Below w.heap.size w w4) := by
        refine ⟨hown4, (H2.out.alloc hsz _).trans ⟨hgrow4.os, hgrow4.tape, hgrow4.output, hgrow4.size, fun q hq => hgrow4.block q (by simp; omega) (fun e => ?_)⟩⟩
        have := (hrow.lt q e.symm).1
        omega
      clear hown4 hgrow4
      go_wp2
      go_roundw
      case rel => exact ⟨k + 1, by go_num, by omega, ⟨A4, C4, ts ++ [c], e3.symm, by simp, by simpa using H4.out.1⟩, H4.out.2⟩
      case measure => simp [intOf]; omega
    · obtain rfl : k = rs.length := by omega
      have HF : Hid (wr.ownsRow w.heap.size 173 8 (.slice A1 ts.length C1) rs.length (clOls rs) ∧ Below w.heap.size w wr ∧ ts = rs) := by
        have e := HT.out
        rw [List.take_length] at e
        rw [e] at hR ⊢
        exact ⟨hR, hb, rfl⟩
      clear hR hb
      go_wp2
      go_ret
      obtain ⟨b, hb1, hL⟩ := LOl.of_owns HF.out.1 (by omega) (fun i g hi => by have := HR.out.2 g (List.mem_of_getElem? hi); omega)
      exact ⟨_, b, rfl, hb1, hL, HF.out.2.1⟩
end Go.Proofs.YtagajindaipaeaaGreat
namespace Go.Proofs.YtagajindaipaeaaGreat
open Go.ChangeShapes Go.WideShapes Go.ChangeAt Go.RowKit
/-- The boxes of copyOfBook, and the row that grows. -/
structure QB (w W : World) (B bl : Nat) (lv ul : Value) (ls : List OLn) (k : Nat) (ts : List Stk) : Prop where
  bel : Below w.heap.size w W
  res : W.heap[w.heap.size + 1]? = some (.cells #[.slice none 0 0, .slice none 0 0] 38)
  box : W.heap[B]? = some (.cells #[lv, ul] 38)
  own : W.ownsRow (B + 1) 167 2 lv k (clSts ts)
  ln : LOl bl W ul ls
  hB : w.heap.size + 1 < B
  hl : w.heap.size + 2 ≤ bl
  hlB : ls ≠ [] → bl < B
theorem QB.below {w W W' : World} {B bl : Nat} {lv ul : Value} {ls : List OLn} {k : Nat} {ts : List Stk} (h : QB w W B bl lv ul ls k ts) (hb : Below W.heap.size W W') : QB w W' B bl lv ul ls k ts := by
  have hr := (Array.getElem?_eq_some_iff.1 h.res).1
  have hx := (Array.getElem?_eq_some_iff.1 h.box).1
  refine ⟨h.bel.trans (hb.mono h.bel.size), (hb.block _ hr).trans h.res, (hb.block _ hx).trans h.box, ?_, h.ln.below hb, h.hB, h.hl, h.hlB⟩
  refine h.own.kept (row := none) ⟨hb.os, hb.tape, hb.output, hb.size, fun j hj _ => hb.block j hj⟩ ?_
  rcases h.own.2 with ⟨e, _⟩ | ⟨g, cap, cur, e, _⟩
  · exact .inl (by rw [e]; rfl)
  · exact .inr (by rw [e]; simp [Value.ownBlock])
theorem qb_next {w Wx w4 : World} {B bl : Nat} {lv ul v' : Value} {ls : List OLn} {k k' : Nat} {ts ts' : List Stk} (hq : QB w Wx B bl lv ul ls k ts) (hg : Wx.grownBy w4 lv.ownBlock) (bx : w4.heap[B]? = some (.cells #[lv, ul] 38)) (ho : w4.ownsRow (B + 1) 167 2 v' k' (clSts ts')) : QB w (w4.setCell ⟨B, 0, none⟩ v') B bl v' ul ls k' ts' := by
  have hne : ∀ j, j < B → some j ≠ lv.ownBlock := fun j hj e => by
    have := (hq.own.lt j e.symm).1
    omega
  have hxl := (Array.getElem?_eq_some_iff.1 hq.box).1
  have hb4 : Below w.heap.size w w4 := hq.bel.trans ⟨hg.os, hg.tape, hg.output, hg.size, fun j hj => hg.block j (by have := hq.bel.size; omega) (hne j (by have := hq.hB; omega))⟩
  have hB := hq.hB
  refine ⟨hb4.setCell (show w.heap.size ≤ B by omega) _, ?_, set2a _ bx, ?_, hq.ln.of_block fun hn => ?_, hq.hB, hq.hl, hq.hlB⟩
  · rw [setNe _ (by omega)]
    exact (hg.block _ (by omega) (hne _ (by omega))).trans hq.res
  · refine ho.kept (grownBy_setCell' w4 B v') ?_
    rcases ho.2 with ⟨e, _⟩ | ⟨g, cap, cur, e, h1, _⟩
    · exact .inl (by rw [e]; rfl)
    · exact .inr (by rw [e]; simp [Value.ownBlock]; omega)
  · have h1 := hq.hlB hn
    rw [setNe _ (by omega)]
    exact hg.block _ (by omega) (hne _ h1)
theorem LSt.of_blk {W : World} {base : Nat} {v : Value} {rs : List Stk} (h : W.ownsRow base 167 2 v rs.length (clSts rs)) (hl : rs.length ≤ 9223372036854775807) (hz : ∀ (i : Nat) (g : Stk), rs[i]? = some g → g.item.size ≤ 9223372036854775807) : ∃ b, base ≤ b ∧ (rs ≠ [] → b < W.heap.size) ∧ LSt b W v rs := by
  obtain ⟨b, h1, h2⟩ := LSt.of_owns h hl hz
  exact ⟨b, h1, fun hn => h2.lt hn, h2⟩
set_option maxRecDepth 20000 in
set_option maxHeartbeats 8000000 in
theorem copyOfBook_any (p : Bk) (us ul : Value) (w : World) (h : RBk w us ul p) (hP : BdBk 1048576 p) : Calls Tryz.prog 110 #[.agg #[us, ul]] w fun e w' => ∃ us' ul' bs bl, e = .returned (.agg #[us', ul']) ∧ w.heap.size ≤ bs ∧ w.heap.size ≤ bl ∧ LSt bs w' us' p.stocks ∧ LOl bl w' ul' p.lines ∧ w'.ownsRow w.heap.size 167 2 us' p.stocks.length (clSts p.stocks) ∧ Below w.heap.size w w' := by
  obtain ⟨a, c, a', c', rfl, rfl⟩ := h.val
  have hlen := h.st.len
  obtain ⟨j0, hj0i, hi0, hi1, hi2⟩ := info_parts infoStA
  obtain ⟨W0, hW0⟩ : ∃ W0, (w.alloc (.cells #[.slice a p.stocks.length c, .slice a' p.lines.length c'] 38)).alloc (.cells #[.slice none 0 0, .slice none 0 0] 38) = W0 := ⟨_, rfl⟩
  have hb0 : Below w.heap.size w W0 := by rw [← hW0]; exact ((Below.refl _ _).alloc (Nat.le_refl _) _).alloc (by simp) _
  obtain ⟨x0, x1⟩ := fl_two w (.cells #[.slice a p.stocks.length c, .slice a' p.lines.length c'] 38) (.cells #[.slice none 0 0, .slice none 0 0] 38)
  rw [hW0] at x0 x1
  have H0 : Hid (Below w.heap.size w W0 ∧ RBk W0 (.slice a p.stocks.length c) (.slice a' p.lines.length c') p ∧ W0.heap[w.heap.size]? = some (.cells #[.slice a p.stocks.length c, .slice a' p.lines.length c'] 38) ∧ W0.heap[w.heap.size + 1]? = some (.cells #[.slice none 0 0, .slice none 0 0] 38) ∧ BdBk 1048576 p) := ⟨hb0, h.below hb0, x0, x1, hP⟩
  have HRow : Hid (RowSt w (.slice a p.stocks.length c) p.stocks) := h.st
  obtain ⟨c0, c1⟩ := box2 x0
  have hlt0 := (Array.getElem?_eq_some_iff.1 x0).1
  have hlt1 := (Array.getElem?_eq_some_iff.1 x1).1
  have HS2 : Hid (W0.heap.size = w.heap.size + 2) := by rw [← hW0]; simp [Hid]
  have hl1 := hP.2.len
  have hl0 := hP.1.len
  clear h hb0 x0 x1 hP
  go_enter Tryz.func110, Tryz.ntmps110
  go_upto_region 1 with fail
  try rw [hW0]
  clear hW0
  go_wp2_with fail
  refine (copyOls_any _ p.lines _ H0.out.2.1.ln hl1 (fun d hd => by obtain ⟨i, hi⟩ := List.getElem?_of_mem hd; exact H0.out.2.2.2.2.2.2 i d hi)).mono ?_
  rintro e w1 ⟨u1, bl, rfl, hbl, hL1, hb1⟩
  obtain ⟨A2, C2, rfl⟩ := hL1.val
  obtain ⟨B, hB⟩ : ∃ B, B = w1.heap.size := ⟨_, rfl⟩
  obtain ⟨Wb, hWb⟩ : ∃ Wb, w1.alloc (.cells #[.slice none 0 0, .slice A2 p.lines.length C2] 38) = Wb := ⟨_, rfl⟩
  have hbW : Below w1.heap.size w1 Wb := by rw [← hWb]; exact (Below.refl _ _).alloc (Nat.le_refl _) _
  have s1 := hb1.size
  have HQ : Hid (QB w Wb B bl (.slice none 0 0) (.slice A2 p.lines.length C2) p.lines 0 []) := by
    have q1 := (hb1.block _ hlt1).trans H0.out.2.2.2.1
    have hlq := (Array.getElem?_eq_some_iff.1 q1).1
    refine ⟨(H0.out.1.trans (hb1.mono H0.out.1.size)).trans (hbW.mono (by have := H0.out.1.size; omega)), (hbW.block _ hlq).trans q1, ?_, by simpa [clSts] using World.ownsRow_nil Wb (B + 1) 167 2, hL1.below hbW, by omega, by have hs2 := HS2.out; omega, fun hn => by rw [hB]; exact hL1.lt hn⟩
    rw [hB, ← hWb]
    exact World.alloc_heap_new _ _
  have x2 := (hbW.block _ (by omega)).trans ((hb1.block _ hlt0).trans H0.out.2.2.1)
  obtain ⟨d0, d1⟩ := box2 x2
  have HWB : Hid (w1.alloc (.cells #[.slice none 0 0, .slice A2 p.lines.length C2] 38) = Wb ∧ B = w1.heap.size) := ⟨hWb, hB⟩
  clear hL1 hb1 hbW c0 c1 x2 hWb hB
  go_upto_region 2 with fail
  try rw [HWB.out.1]
  try rw [← HWB.out.2]
  clear HWB
  obtain ⟨rs, hrs⟩ : ∃ rs, rs = p.stocks := ⟨_, rfl⟩
  rw [← hrs] at hlen hl0 d0
  have HR : Hid (rs = p.stocks) := hrs
  have HRw : Hid (RowSt w (.slice a rs.length c) rs ∧ BdSt 1048576 rs) := by rw [hrs]; exact ⟨HRow.out, H0.out.2.2.2.2.1⟩
  clear hrs HRow
  go_wp2_with fail
  go_loopw [13] (fun i wr => ∃ (k : Nat) (A : Option Addr) (C : Nat), i = .int .i64 (k : Int) ∧ k ≤ rs.length ∧ QB w wr B bl (.slice A k C) (.slice A2 p.lines.length C2) p.lines k (rs.take k)) (fun i _ => rs.length - (intOf i).toNat)
  case atStart => exact ⟨0, none, 0, rfl, by omega, by simpa using HQ.out⟩
  case round =>
    obtain ⟨k, A1, C1, rfl, hk, hQ⟩ := hrel
    by_cases hlt : k < rs.length
    · have hlt' : (k : Int) < (rs.length : Int) := by omega
      obtain ⟨b, o, cap', c, e, hs, ⟨q0, q1⟩, _⟩ := (HRw.out.1.below hQ.bel).at hlt
      simp only [Value.slice.injEq, true_and] at e
      obtain ⟨rfl, rfl⟩ := e
      have hz := HRw.out.2.2 k c hs
      have hmx : k + 1 ≤ maxLen := by unfold maxLen; omega
      obtain ⟨W1, hW1⟩ : ∃ W1, wr.alloc (.cells #[.string c.item, .int .i64 c.hand] 167) = W1 := ⟨_, rfl⟩
      have ha : Below wr.heap.size wr W1 := by rw [← hW1]; exact (Below.refl _ _).alloc (Nat.le_refl _) _
      have hbx : W1.heap[wr.heap.size]? = some (.cells #[.string c.item, .int .i64 c.hand] 167) := by rw [← hW1]; exact World.alloc_heap_new _ _
      obtain ⟨S, hS⟩ : ∃ S, S = wr.heap.size := ⟨_, rfl⟩
      rw [← hS] at hbx
      have hQ1 := hQ.below ha
      have HG : Hid (QB w W1 B bl (.slice A1 k C1) (.slice A2 p.lines.length C2) p.lines k (rs.take k) ∧ rs[k]? = some c) := ⟨hQ1, hs⟩
      have HX : Hid (∀ W, Below W1.heap.size W1 W → W.heap[B]? = some (.cells #[.slice A1 k C1, .slice A2 p.lines.length C2] 38)) := fun W hW => (hQ1.below hW).box
      have HC : Hid (∀ W, Below W1.heap.size W1 W → W.cell? ⟨S, 0, none⟩ = some (.string c.item) ∧ W.cell? ⟨S, 1, none⟩ = some (.int .i64 c.hand) ∧ W.cell? ⟨B, 0, none⟩ = some (.slice A1 k C1) ∧ W.cell? ⟨B, 1, none⟩ = some (.slice A2 p.lines.length C2) ∧ ∀ o, W.frozen? ⟨B, o, none⟩ = false) := fun W hW => by
        have e1 := (hW.block S (Array.getElem?_eq_some_iff.1 hbx).1).trans hbx
        have e2 := HX.out W hW
        exact ⟨(box2 e1).1, (box2 e1).2, (box2 e2).1, (box2 e2).2, frz2 e2⟩
      have HW : Hid (∀ W, Below W1.heap.size W1 W → W.ownsRow (B + 1) 167 2 (.slice A1 k C1) k (clSts (rs.take k)) ∧ B + 1 ≤ W.heap.size) := fun W hW => by
        have := hQ1.below hW
        exact ⟨this.own, (Array.getElem?_eq_some_iff.1 this.box).1⟩
      have HB : Hid (some B ≠ (Value.slice A1 k C1).ownBlock) := fun e => by
        have := (hQ.own.lt B e.symm).1
        omega
      obtain ⟨b0, b1, b2, b3, b4⟩ := HC.out W1 (Below.refl _ _)
      go_upto_region 5 with fail
      try rw [hW1]
      try rw [← hS]
      clear hW1 ha hbx hQ hQ1 hs q0 q1 hS
      go_region_law (first | (go_simp; go_at_call 107; refine (clone_any _ _ (by omega)).mono ?_; rintro e wa ⟨rfl, hba⟩; have ba : Below W1.heap.size W1 wa := (by first | exact hba | exact undrewS hba); have bd : Below W1.heap.size W1 (wa.alloc (.cells #[.string c.item, .int .i64 c.hand] 167)) := ba.alloc ba.size _; have HD : Hid (Below W1.heap.size W1 (wa.alloc (.cells #[.string c.item, .int .i64 c.hand] 167))) := bd; have rowN := (HW.out _ bd).1; obtain ⟨a0, a1, a2, a3, a4⟩ := HC.out wa ba; obtain ⟨f0, f1, f2, f3, f4⟩ := HC.out _ bd; have szN := (HW.out _ ba).2; clear hba bd; try dsimp only) | (refine step_append_lies _ (by rfl) _ _ _ (by rfl) (B + 1) 167 j0 _ 2 24 Tryz.underlying35 hj0i hi0 hi1 hi2 rfl (by omega) (.slice A1 k C1) k (clSts (rs.take k)) (by rfl) (by first | exact rowN | exact rowN.drew) ⟨wa.heap.size, 0, none⟩ 1 1 (clSt c) (by rfl) (by rfl) (World.news_of_block (cs := #[.string c.item, .int .i64 c.hand]) (t := 167) (fr := (0, 0)) (by first | exact World.alloc_heap_new wa _)) (by simp [Value.oneCell', clSt]) (by omega) hmx (by omega) (by simp; omega) (wa.heap.size + 1) (by simp) ?_; intro gg cap w4 hown4 hgrow hat4 hlt4; have bx4 := (hgrow.block B (by have := (Array.getElem?_eq_some_iff.1 (HX.out _ HD.out)).1; omega) HB.out).trans (HX.out _ HD.out); have u0 := (box2 bx4).1; have u1 := frz2 bx4; try dsimp only))
      all_goals
        have e3 : rs.take (k + 1) = rs.take k ++ [c] := by
          rw [List.take_add_one, HG.out.2]
          rfl
        have H4 : Hid (QB w (w4.setCell ⟨B, 0, none⟩ (.slice (some ⟨gg, 0, none⟩) (k + 1) cap)) B bl (.slice (some ⟨gg, 0, none⟩) (k + 1) cap) (.slice A2 p.lines.length C2) p.lines (k + 1) (rs.take (k + 1))) := by
          have hq := HG.out.1.below HD.out
          have hg4 : (wa.alloc (.cells #[.string c.item, .int .i64 c.hand] 167)).grownBy w4 (Value.slice A1 k C1).ownBlock := hgrow
          exact qb_next hq hg4 bx4 (by rw [e3, clSts_app]; exact hown4)
        clear hown4 hgrow hat4 hlt4 u0 rowN szN
        try go_wp2
        exact ⟨⟨k + 1, _, _, by go_num, by omega, H4.out⟩, by simp [intOf]; omega⟩
    · obtain rfl : k = rs.length := by omega
      have HF : Hid (QB w wr B bl (.slice A1 rs.length C1) (.slice A2 p.lines.length C2) p.lines rs.length rs) := by
        rw [List.take_length] at hQ
        exact hQ
      obtain ⟨y0, y1⟩ := box2 hQ.box
      obtain ⟨z0, z1⟩ := box2 hQ.res
      have zf := frz2 hQ.res
      clear hQ
      go_wp2
      have hF := HF.out
      have hst : ∀ (i : Nat) (x : Value) (W : World), (Below w.heap.size w W ∧ LOl bl W (.slice A2 p.lines.length C2) p.lines ∧ W.ownsRow (B + 1) 167 2 (.slice A1 rs.length C1) rs.length (clSts rs)) → (Below w.heap.size w (W.setCell ⟨w.heap.size + 1, i, none⟩ x) ∧ LOl bl (W.setCell ⟨w.heap.size + 1, i, none⟩ x) (.slice A2 p.lines.length C2) p.lines ∧ (W.setCell ⟨w.heap.size + 1, i, none⟩ x).ownsRow (B + 1) 167 2 (.slice A1 rs.length C1) rs.length (clSts rs)) := fun i x W ⟨k1, k2, k3⟩ => by
        have h1 := hF.hl
        have h2 := hF.hB
        refine ⟨k1.setCell (show w.heap.size ≤ w.heap.size + 1 by omega) x, k2.of_block fun _ => setNe x (by omega), ?_⟩
        refine k3.kept (row := some (w.heap.size + 1)) ⟨rfl, rfl, rfl, by simp, fun j hj hne => setNe x (fun e => hne (by rw [e]))⟩ ?_
        rcases k3.2 with ⟨e, _⟩ | ⟨g, cap, cur, e, h3, _⟩
        · exact .inl (by rw [e]; rfl)
        · exact .inr (by rw [e]; simp [Value.ownBlock]; omega)
      have hE := hst 1 (.slice A2 p.lines.length C2) _ (hst 0 (.slice A1 rs.length C1) _ ⟨hF.bel, hF.ln, hF.own⟩)
      obtain ⟨bs, hbs, _, hLs⟩ := LSt.of_blk hE.2.2 hlen (fun i g hi => by have := HRw.out.2.2 i g hi; omega)
      have hB' := hF.hB
      have hl' := hF.hl
      rw [HR.out] at hLs hE
      exact bodyPost_ret (v := .agg #[.slice A1 p.stocks.length C1, .slice A2 p.lines.length C2]) (by rw [← HR.out]; simp [results, Tryz.results110, go_sem, z0, z1]) rfl ⟨_, _, bs, bl, rfl, by omega, by omega, by rw [← HR.out] at hLs ⊢; exact hLs, by rw [← HR.out] at hE; exact hE.2.1, by rw [← HR.out] at hE ⊢; exact ownsRow_down hE.2.2 (by omega), by rw [← HR.out] at hE; exact hE.1⟩
end Go.Proofs.YtagajindaipaeaaGreat
