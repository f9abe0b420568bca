/- Texts of ours put together: OuR, OuK, PtC, AppCs. -/
import Derived.Test.YtkgkahlhekecmaaGreatG19
import Derived.Test.YtkgkahlhekecmaaGreatG16
import Derived.Deep.RegionHeld3
import Derived.Deep.RegionLaw
import Derived.Deep.Cut
import Derived.Deep.CutRange
import Derived.Test.YtkgkahlhekecmaaGreatG00
import Derived.Laws.AppendOwn
import Derived.Maps.AppendAt
namespace Go.Proofs.YtkgkahlhekecmaaGreat
open Go.ChangeShapes Go.WideShapes Go.ChangeAt Go.RowKit
set_option maxHeartbeats 4000000 in
theorem outboxRight_impl (v : Value) (rs : List OutR) (w : World) (h : RowOu w v rs) : Calls Tryz.prog 66 #[v] w fun e w' => e = .returned (.bool (ousB rs)) ∧ Below w.heap.size w w' := by
  have hlen := h.len
  obtain ⟨A, Cp, rfl⟩ := h.val
  have H0 : Hid (RowOu w (.slice A rs.length Cp) rs) := h
  clear h
  go_enter Tryz.func66, Tryz.ntmps66
  by_cases hl : 60 < rs.length
  · have hl' : (60 : Int) < (rs.length : Int) := by omega
    have HN : Hid (ousB rs = false) := ousB_no fun h => by have := h.len; omega
    go_wp2
    go_ret
    exact ⟨by rw [HN.out]; rfl, Below.refl _ _⟩
  have hl' : ¬ (60 : Int) < (rs.length : Int) := by omega
  have hb0 : Below w.heap.size w (w.alloc (.cells #[.string zeroO.partner, .int .i64 zeroO.number, .string zeroO.text, .int .i64 zeroO.tries, .int .i64 zeroO.due] 112)) := (Below.refl _ _).alloc (Nat.le_refl _) _
  have hx0 : (w.alloc (.cells #[.string zeroO.partner, .int .i64 zeroO.number, .string zeroO.text, .int .i64 zeroO.tries, .int .i64 zeroO.due] 112)).heap[w.heap.size]? = some (.cells #[.string zeroO.partner, .int .i64 zeroO.number, .string zeroO.text, .int .i64 zeroO.tries, .int .i64 zeroO.due] 112) := World.alloc_heap_new _ _
  simp only [zeroO] at hb0 hx0
  have HZ : Hid _ := And.intro hb0 hx0
  clear hb0 hx0
  go_wp2_with fail
  go_loopw [12] (fun i wr => ∃ (k : Nat) (l : OutR), i = .int .i64 (k : Int) ∧ k ≤ rs.length ∧ Below w.heap.size w wr ∧ wr.heap[w.heap.size]? = some (.cells #[.string l.partner, .int .i64 l.number, .string l.text, .int .i64 l.tries, .int .i64 l.due] 112) ∧ (k = 0 → l = zeroO) ∧ (0 < k → rs[k - 1]? = some l) ∧ ∀ i c, i < k → rs[i]? = some c → OkO rs i c) (fun i _ => rs.length - (intOf i).toNat)
  case atStart => exact ⟨0, zeroO, rfl, by omega, HZ.out.1, HZ.out.2, fun _ => rfl, fun h => by omega, fun i c hi => by omega⟩
  case round =>
    obtain ⟨k, l, rfl, hk, hb, hbx, hl0, hl1, hok⟩ := hrel
    have HI : Hid (Below w.heap.size w wr ∧ wr.heap[w.heap.size]? = some (.cells #[.string l.partner, .int .i64 l.number, .string l.text, .int .i64 l.tries, .int .i64 l.due] 112) ∧ (k = 0 → l = zeroO) ∧ (0 < k → rs[k - 1]? = some l) ∧ ∀ i c, i < k → rs[i]? = some c → OkO rs i c) := ⟨hb, hbx, hl0, hl1, hok⟩
    have hsz : w.heap.size < wr.heap.size := (Array.getElem?_eq_some_iff.1 hbx).1
    clear hok hb hbx hl0 hl1
    by_cases hlt : k < rs.length
    · have hlt' : (k : Int) < (rs.length : Int) := by omega
      obtain ⟨b, o, cap', c, e, hs, ⟨q0, q1, q2, q3, q4⟩, hz⟩ := (H0.out.below HI.out.1).at hlt
      simp only [Value.slice.injEq, true_and] at e
      obtain ⟨rfl, rfl⟩ := e
      have HS : Hid (rs[k]? = some c) := hs
      clear hs
      obtain ⟨W1, hW1⟩ : ∃ W1, wr.alloc (.cells #[.string c.partner, .int .i64 c.number, .string c.text, .int .i64 c.tries, .int .i64 c.due] 112) = W1 := ⟨_, rfl⟩
      have ha : Below wr.heap.size wr W1 := by rw [← hW1]; exact (Below.refl _ _).alloc (Nat.le_refl _) _
      have hc1 : W1.heap[wr.heap.size]? = some (.cells #[.string c.partner, .int .i64 c.number, .string c.text, .int .i64 c.tries, .int .i64 c.due] 112) := by rw [← hW1]; exact World.alloc_heap_new _ _
      obtain ⟨C, hC⟩ : ∃ C, C = wr.heap.size := ⟨_, rfl⟩
      rw [← hC] at hc1
      have H1 : Hid (Below w.heap.size w W1 ∧ W1.heap[w.heap.size]? = some (.cells #[.string l.partner, .int .i64 l.number, .string l.text, .int .i64 l.tries, .int .i64 l.due] 112) ∧ W1.heap[C]? = some (.cells #[.string c.partner, .int .i64 c.number, .string c.text, .int .i64 c.tries, .int .i64 c.due] 112)) := ⟨HI.out.1.trans (ha.mono HI.out.1.size), (ha.block _ hsz).trans HI.out.2.1, hc1⟩
      have hCw : w.heap.size < C := by omega
      go_upto_region 7 with fail
      try rw [hW1]
      try rw [← hC]
      clear hW1 hc1 ha q0 q1 q2 q3 q4 hC hsz
      obtain ⟨c0, c1, c2, c3, c4⟩ := box5 H1.out.2.2
      obtain ⟨x, hx⟩ : ∃ x, x = ouB c := ⟨_, rfl⟩
      have Q1 := fun w => right_any c w hz.2
      clear hz
      rw [← hx] at Q1
      have HX : Hid (x = ouB c) := hx
      clear hx
      go_wp2_with fail
      refine (Q1 _).mono ?_
      rintro e w2 ⟨rfl, hb2⟩
      have H2 : Hid (Below w.heap.size w w2 ∧ w2.heap[w.heap.size]? = some (.cells #[.string l.partner, .int .i64 l.number, .string l.text, .int .i64 l.tries, .int .i64 l.due] 112) ∧ w2.heap[C]? = some (.cells #[.string c.partner, .int .i64 c.number, .string c.text, .int .i64 c.tries, .int .i64 c.due] 112)) := ⟨H1.out.1.trans (hb2.mono H1.out.1.size), (hb2.block _ (Array.getElem?_eq_some_iff.1 H1.out.2.1).1).trans H1.out.2.1, (hb2.block _ (Array.getElem?_eq_some_iff.1 H1.out.2.2).1).trans H1.out.2.2⟩
      clear hb2 c0 c1 c2 c3 c4 H1 Q1
      cases x with
      | false =>
        have HN : Hid (ousB rs = false) := ousB_no fun h => by
          have h1 := h.at_ k c HS.out
          have h2 := HX.out
          rw [ouB_yes h1.ok] at h2
          cases h2
        go_wp2
        go_ret
        exact ⟨by rw [HN.out]; rfl, H2.out.1⟩
      | true =>
        have Q2 := ocmp_any c l
        obtain ⟨z, hz⟩ : ∃ z, z = ocmp c l := ⟨_, rfl⟩
        rw [← hz] at Q2
        have HZ2 : Hid (z = ocmp c l) := hz
        clear hz
        obtain ⟨c0, c1, c2, c3, c4⟩ := box5 H2.out.2.2
        obtain ⟨d0, d1, d2, d3, d4⟩ := box5 H2.out.2.1
        go_wp2_with fail
        refine (Q2 _).mono ?_
        rintro e w3 ⟨rfl, hb3⟩
        have H3 : Hid (Below w.heap.size w w3 ∧ w3.heap[w.heap.size]? = some (.cells #[.string l.partner, .int .i64 l.number, .string l.text, .int .i64 l.tries, .int .i64 l.due] 112) ∧ w3.heap[C]? = some (.cells #[.string c.partner, .int .i64 c.number, .string c.text, .int .i64 c.tries, .int .i64 c.due] 112)) := ⟨H2.out.1.trans (hb3.mono H2.out.1.size), (hb3.block _ (Array.getElem?_eq_some_iff.1 H2.out.2.1).1).trans H2.out.2.1, (hb3.block _ (Array.getElem?_eq_some_iff.1 H2.out.2.2).1).trans H2.out.2.2⟩
        clear hb3 c0 c1 c2 c3 c4 d0 d1 d2 d3 d4 H2 Q2
        by_cases hz : z ≤ 0
        · have HN : Hid (ousB rs = false) := ousB_no fun h => by
            have h1 := h.at_ k c HS.out
            have h2 : 0 < ocmp c l := by
              rcases Nat.eq_zero_or_pos k with k0 | k0
              · rw [HI.out.2.2.1 k0]
                exact ocmp_first h1.ok.p
              · rw [ocmp_pos]
                exact h1.rise l k0 (HI.out.2.2.2.1 k0)
            have h3 := HZ2.out
            omega
          go_wp2
          go_ret
          exact ⟨by rw [HN.out]; rfl, H3.out.1⟩
        · have HN : Hid (OkO rs k c) := by
            refine ⟨ouB_iff.1 HX.out.symm, fun d k0 hd => ?_⟩
            have h4 := HI.out.2.2.2.1 k0
            rw [h4] at hd
            cases hd
            rw [← ocmp_pos, ← HZ2.out]
            omega
          obtain ⟨c0, c1, c2, c3, c4⟩ := box5 H3.out.2.2
          obtain ⟨d0, d1, d2, d3, d4⟩ := box5 H3.out.2.1
          have hfr : ∀ o, w3.frozen? ⟨w.heap.size, o, none⟩ = false := fun o => by simp [World.frozen?, H3.out.2.1]
          go_wp2
          go_roundw
          case rel =>
            refine ⟨k + 1, c, by go_num, by omega, ?_, set5 H3.out.2.1, fun h => by omega, fun _ => by simpa using HS.out, fun i y hi hy => ?_⟩
            · exact (((((H3.out.1.setCell (Nat.le_refl _) _).setCell (Nat.le_refl _) _).setCell (Nat.le_refl _) _).setCell (Nat.le_refl _) _).setCell (Nat.le_refl _) _)
            rcases Nat.lt_or_ge i k with g | g
            · exact HI.out.2.2.2.2 i y g hy
            · obtain rfl : i = k := by omega
              rw [HS.out] at hy
              cases hy
              exact HN.out
          case measure => simp [intOf]; omega
    · obtain rfl : k = rs.length := by omega
      have HN : Hid (ousB rs = true) := ousB_yes ⟨by omega, fun i c hc => HI.out.2.2.2.2 i c (List.getElem?_eq_some_iff.1 hc).1 hc⟩
      go_wp2
      go_ret
      exact ⟨by rw [HN.out]; rfl, HI.out.1⟩
end Go.Proofs.YtkgkahlhekecmaaGreat
namespace Go.Proofs.YtkgkahlhekecmaaGreat
open Go.ChangeShapes Go.WideShapes Go.ChangeAt Go.RowKit
theorem undrewLU {a b : World} (h : Below a.drew.heap.size a.drew b) : Below a.heap.size a b := (Below.refl _ _).drew.trans h
theorem same_setU {W : World} {b i : Nat} {v : Value} (h : W.cell? ⟨b, i, none⟩ = some v) : W.setCell ⟨b, i, none⟩ v = W := by
  have hw : ∀ (W : World) (g : Array Obj), g = W.heap → ({ W with heap := g } : World) = W := by
    intro W g e
    subst e
    rfl
  unfold World.setCell
  refine hw W _ ?_
  apply Array.ext_getElem?
  intro j
  simp only [Array.getElem?_modify]
  split
  · rename_i e
    subst e
    unfold World.cell? at h
    cases hc : W.heap[b]? with
    | none => rfl
    | some x =>
      rw [hc] at h
      cases x <;> simp_all
      apply Array.ext_getElem?
      intro k
      rw [Array.getElem?_setIfInBounds]
      split
      · rename_i e
        subst e
        split
        · exact h.symm
        · rename_i hlt
          rw [Array.getElem?_eq_none (by omega)] at h
          cases h
      · rfl
  · rfl
set_option maxRecDepth 20000 in
set_option maxHeartbeats 8000000 in
theorem copyOu_any (l : OutR) (w : World) (hz : l.partner.size ≤ 281474976710656 ∧ l.text.size ≤ 281474976710656) :
    Calls Tryz.prog 140 #[.agg #[.string l.partner, .int .i64 l.number, .string l.text, .int .i64 l.tries, .int .i64 l.due]] w fun e w' => e = .returned (.agg #[.string l.partner, .int .i64 l.number, .string l.text, .int .i64 l.tries, .int .i64 l.due]) ∧ Below w.heap.size w w' := by
  obtain ⟨z0, z1⟩ := hz
  obtain ⟨W1, hW1⟩ : ∃ W1, (w.alloc (.cells #[.string l.partner, .int .i64 l.number, .string l.text, .int .i64 l.tries, .int .i64 l.due] 112)).alloc (.cells #[.string ⟨#[]⟩, .int .i64 0, .string ⟨#[]⟩, .int .i64 0, .int .i64 0] 112) = W1 := ⟨_, rfl⟩
  have hb1 : Below w.heap.size w W1 := by rw [← hW1]; exact ((Below.refl _ _).alloc (Nat.le_refl _) _).alloc (by simp) _
  obtain ⟨k0, k1⟩ := fl_twoU w (.cells #[.string l.partner, .int .i64 l.number, .string l.text, .int .i64 l.tries, .int .i64 l.due] 112) (.cells #[.string ⟨#[]⟩, .int .i64 0, .string ⟨#[]⟩, .int .i64 0, .int .i64 0] 112)
  rw [hW1] at k0 k1
  obtain ⟨B, hB⟩ : ∃ B, B = w.heap.size := ⟨_, rfl⟩
  obtain ⟨R, hR⟩ : ∃ R, R = w.heap.size + 1 := ⟨_, rfl⟩
  rw [← hB] at k0
  rw [← hR] at k1
  have HC : Hid (∀ W, Below W1.heap.size W1 W → W.cell? ⟨B, 0, none⟩ = some (.string l.partner) ∧ W.cell? ⟨B, 2, none⟩ = some (.string l.text)) := fun W hW => by
    obtain ⟨a0, a1, a2, _⟩ := box5 ((hW.block _ (Array.getElem?_eq_some_iff.1 k0).1).trans k0)
    exact ⟨a0, a2⟩
  have HD : Hid (∀ W, Below W1.heap.size W1 W → W.heap[B]? = some (.cells #[.string l.partner, .int .i64 l.number, .string l.text, .int .i64 l.tries, .int .i64 l.due] 112) ∧ W.heap[R]? = some (.cells #[.string ⟨#[]⟩, .int .i64 0, .string ⟨#[]⟩, .int .i64 0, .int .i64 0] 112)) := fun W hW => ⟨(hW.block _ (Array.getElem?_eq_some_iff.1 k0).1).trans k0, (hW.block _ (Array.getElem?_eq_some_iff.1 k1).1).trans k1⟩
  have HB : Hid (Below w.heap.size w W1) := hb1
  obtain ⟨c0, c2⟩ := HC.out W1 (Below.refl _ _)
  go_enter Tryz.func140, Tryz.ntmps140
  go_upto_region 1 with fail
  try rw [hW1]
  try rw [← hR]
  try rw [← hB]
  have HR : Hid (B = w.heap.size ∧ R = w.heap.size + 1) := ⟨hB, hR⟩
  clear hW1 hb1 k0 k1 hB hR
  have s0 : ∀ W : World, W.cell? ⟨B, 0, none⟩ = some (.string l.partner) → W.setCell ⟨B, 0, none⟩ (.string l.partner) = W := fun W h => same_setU h
  have s2 : ∀ W : World, W.cell? ⟨B, 2, none⟩ = some (.string l.text) → W.setCell ⟨B, 2, none⟩ (.string l.text) = W := fun W h => same_setU h
  have hfB : ∀ W : World, Below W1.heap.size W1 W → ∀ o, W.frozen? ⟨B, o, none⟩ = false := fun W hW o => by
    have e := (HD.out W hW).1
    simp [World.frozen?, e]
  have HF : Hid (∀ W : World, Below W1.heap.size W1 W → ∀ o, W.frozen? ⟨B, o, none⟩ = false) := hfB
  clear hfB
  go_region_held3 (fun W => W.cell? ⟨B, 0, none⟩ = some (.string l.partner) ∧ W.cell? ⟨B, 2, none⟩ = some (.string l.text)) (go_keep) (first | (go_at_call_of 105 (Value.string l.partner); refine (clone_any _ _ (by omega)).mono ?_; rintro e wa ⟨rfl, hba⟩; have ba : Below W1.heap.size W1 wa := (by first | exact hba | exact undrewLU hba); obtain ⟨ba0, ba2⟩ := HC.out wa ba; obtain ⟨_, _⟩ := HC.out wa.drew ba.drew; clear hba; try dsimp only) | (go_at_call_of 105 (Value.string l.text); refine (clone_any _ _ (by omega)).mono ?_; rintro e wc ⟨rfl, hbc⟩; have bc : Below W1.heap.size W1 wc := ba.trans ((by first | exact hbc | exact undrewLU hbc : Below wa.heap.size wa wc).mono ba.size); obtain ⟨bc0, bc2⟩ := HC.out wc bc; obtain ⟨_, _⟩ := HC.out wc.drew bc.drew; clear hbc; have hfr := HF.out wc bc; try dsimp only))
  rename_i hHeld
  clear hHeld s0 s2
  obtain ⟨hb, hr⟩ := HD.out wc bc
  obtain ⟨d0, d1, d2, d3, d4⟩ := box5 hb
  obtain ⟨e0, e1, e2, e3, e4⟩ := box5 hr
  have hfR : ∀ o, wc.frozen? ⟨R, o, none⟩ = false := fun o => by simp [World.frozen?, hr]
  have HE : Hid (Below w.heap.size w wc ∧ wc.heap[R]? = some (.cells #[.string ⟨#[]⟩, .int .i64 0, .string ⟨#[]⟩, .int .i64 0, .int .i64 0] 112)) := ⟨HB.out.trans (bc.mono HB.out.size), hr⟩
  clear hb hr bc ba
  go_wp2
  obtain ⟨f0, f1, f2, f3, f4⟩ := box5 (set5 (y0 := .string l.partner) (y1 := .int .i64 l.number) (y2 := .string l.text) (y3 := .int .i64 l.tries) (y4 := .int .i64 l.due) HE.out.2)
  have hge : w.heap.size ≤ R := by rw [HR.out.2]; omega
  exact bodyPost_ret (v := .agg #[.string l.partner, .int .i64 l.number, .string l.text, .int .i64 l.tries, .int .i64 l.due]) (by simp [results, Tryz.results140, go_sem, f0, f1, f2, f3, f4]) rfl ⟨rfl, (((((HE.out.1.setCell hge _).setCell hge _).setCell hge _).setCell hge _).setCell hge _)⟩
end Go.Proofs.YtkgkahlhekecmaaGreat
namespace Go.Proofs.YtkgkahlhekecmaaGreat
open Go.ChangeShapes Go.WideShapes Go.ChangeAt Go.RowKit
theorem undrewP {a b : World} (h : Below a.drew.heap.size a.drew b) : Below a.heap.size a b := (Below.refl _ _).drew.trans h
theorem grow_below {W W' : World} {n : Nat} (h : W.grownBy W' none) (hn : n ≤ W.heap.size) : Below n W W' := ⟨h.os, h.tape, h.output, h.size, fun k hk => h.block k (by omega) (by simp)⟩
theorem own_set {W : World} {base : Nat} {e : TypeId} {size : Nat} {v : Value} {n : Nat} {xs : List Value} (h : W.ownsRow base e size v n xs) {B : Nat} (hB : v.ownBlock ≠ some B) (i : Nat) (x : Value) : (W.setCell ⟨B, i, none⟩ x).ownsRow base e size v n xs :=
  h.kept (row := some B) ⟨rfl, rfl, rfl, by simp, fun k _ hk => by
    simp only [World.setCell, Array.getElem?_modify]
    rw [if_neg (fun e => hk (by rw [e]))]⟩ (.inr hB)
theorem bx4p {W : World} {b t : Nat} {x0 x1 x2 x3 : Value} (h : W.heap[b]? = some (.cells #[x0, x1, x2, x3] t)) : W.cell? ⟨b, 0, none⟩ = some x0 ∧ W.cell? ⟨b, 1, none⟩ = some x1 ∧ W.cell? ⟨b, 2, none⟩ = some x2 ∧ W.cell? ⟨b, 3, none⟩ = some x3 := by
  refine ⟨?_, ?_, ?_, ?_⟩ <;> simp [World.cell?, h]
/-- What a round of copyOfPartners has in hand ahead of its append. -/
structure KB (w W1 : World) (B : Nat) (p : Ptn) (u0 lv : Value) (qs : List (Ptn × Value)) : Prop where
  bel : Below w.heap.size w W1
  ge : w.heap.size ≤ B
  box : W1.heap[B]? = some (.cells #[.string p.name, .int .i64 p.low, .int .i64 p.next, u0] 63)
  own : OwnP w.heap.size W1 lv qs
  lvB : lv.ownBlock ≠ some B
  qsB : ∀ q ∈ qs, q.2.ownBlock ≠ some B
structure KP0 (w W1 wx : World) (B : Nat) (p : Ptn) (u lv : Value) (qs : List (Ptn × Value)) : Prop where
  bel : Below w.heap.size w wx
  box : wx.heap[B]? = some (.cells #[.string p.name, .int .i64 p.low, .int .i64 p.next, u] 63)
  own : OwnP w.heap.size wx lv qs
  sn : wx.ownsRow w.heap.size 148 3 u p.seen.length (clSns p.seen)
  new : ∀ g, u.ownBlock = some g → W1.heap.size ≤ g
theorem KP0.of {w W1 X : World} {B : Nat} {p : Ptn} {u u0 lv : Value} {qs : List (Ptn × Value)} (hX : Below W1.heap.size W1 X) (hs : X.ownsRow w.heap.size 148 3 u p.seen.length (clSns p.seen)) (hn : ∀ g, u.ownBlock = some g → W1.heap.size ≤ g) (h : KB w W1 B p u0 lv qs) : KP0 w W1 (X.setCell ⟨B, 3, none⟩ u) B p u lv qs := by
  have hBl := (Array.getElem?_eq_some_iff.1 h.box).1
  have hb := (hX.block B hBl).trans h.box
  have ho := h.own.below hX
  refine ⟨(h.bel.trans (hX.mono h.bel.size)).setCell h.ge _, ?_, ⟨own_set ho.row h.lvB _ _, fun q hq => own_set (ho.sn q hq) (h.qsB q hq) _ _, ho.ap⟩, own_set hs (fun e => ?_) _ _, hn⟩
  · simp [World.setCell, Array.getElem?_modify, hb]
  · have := hn B e
    omega
theorem KP.mk {w W1 X : World} {B : Nat} {p : Ptn} {u u0 lv : Value} {qs : List (Ptn × Value)} (hX : Below W1.heap.size W1 X) (hs : X.ownsRow w.heap.size 148 3 u p.seen.length (clSns p.seen)) (hn : ∀ g, u.ownBlock = some g → W1.heap.size ≤ g) (h : KB w W1 B p u0 lv qs) : Hid (KP0 w W1 (X.setCell ⟨B, 3, none⟩ u) B p u lv qs) := KP0.of hX hs hn h
set_option maxRecDepth 20000 in
set_option maxHeartbeats 8000000 in
theorem copyPts_any (v : Value) (ps : List Ptn) (w : World) (h : RowPt w v ps) (hl : ps.length ≤ 1048576) (hz : ∀ p ∈ ps, p.name.size ≤ 1048576 ∧ p.seen.length ≤ 1048576) :
    Calls Tryz.prog 106 #[v] w fun e w' => ∃ A C qs, e = .returned (.slice A qs.length C) ∧ qs.map Prod.fst = ps ∧ OwnP w.heap.size w' (.slice A qs.length C) qs ∧ Below w.heap.size w w' := by
  obtain ⟨A, C, rfl⟩ := h.val
  have HR : Hid (RowPt w (.slice A ps.length C) ps ∧ ∀ p ∈ ps, p.name.size ≤ 1048576 ∧ p.seen.length ≤ 1048576) := ⟨h, hz⟩
  clear h hz
  go_enter Tryz.func106, Tryz.ntmps106
  go_wp2_with fail
  go_loopw [3, 8] (fun lv i wr => ∃ k : Nat, i = .int .i64 (k : Int) ∧ k ≤ ps.length ∧ (∃ A C qs, qs.map Prod.fst = ps.take k ∧ lv = .slice A qs.length C ∧ OwnP w.heap.size wr lv qs) ∧ Below w.heap.size w wr) (fun _ i _ => ps.length - (intOf i).toNat)
  case atStart => exact ⟨0, rfl, by omega, ⟨none, 0, [], by simp, rfl, OwnP.nil _ _⟩, Below.refl _ _⟩
  case round =>
    obtain ⟨k, rfl, hk, ⟨A1, C1, qs, hts, rfl, hR⟩, hb⟩ := hrel
    have HT : Hid (qs.map Prod.fst = ps.take k) := hts
    have htk : qs.length ≤ 1048576 := by
      have := congrArg List.length hts
      rw [List.length_map, List.length_take] at this
      omega
    clear hts
    by_cases hlt : k < ps.length
    · have hlt' : (k : Int) < (ps.length : Int) := by omega
      obtain ⟨b, o, cap', p, u, e, hs, ⟨q0, q1, q2, q3⟩, hRp⟩ := (HR.out.1.below hb).at hlt
      simp only [Value.slice.injEq, true_and] at e
      obtain ⟨rfl, rfl⟩ := e
      obtain ⟨n0, m0, rfl⟩ := hRp.ls.val
      obtain ⟨z0, z1⟩ := HR.out.2 p (List.mem_of_getElem? hs)
      obtain ⟨W1, hW1⟩ : ∃ W1, wr.alloc (.cells #[.string p.name, .int .i64 p.low, .int .i64 p.next, (.slice n0 p.seen.length m0)] 63) = W1 := ⟨_, rfl⟩
      have ha : Below wr.heap.size wr W1 := by rw [← hW1]; exact (Below.refl _ _).alloc (Nat.le_refl _) _
      have hbx : W1.heap[wr.heap.size]? = some (.cells #[.string p.name, .int .i64 p.low, .int .i64 p.next, (.slice n0 p.seen.length m0)] 63) := by rw [← hW1]; exact World.alloc_heap_new _ _
      obtain ⟨B, hB⟩ : ∃ B, B = wr.heap.size := ⟨_, rfl⟩
      rw [← hB] at hbx
      have HB : Hid (KB w W1 B p (.slice n0 p.seen.length m0) (.slice A1 qs.length C1) qs) := ⟨hb.trans (ha.mono hb.size), by rw [hB]; exact hb.size, hbx, hR.below ha, fun e => by have := (hR.row.lt B e).2; omega, fun q hq e => by have := ((hR.sn q hq).lt B e).2; omega⟩
      have HK : Hid (ps[k]? = some p) := hs
      have HS : Hid (∀ W, Below W1.heap.size W1 W → RowSn W (.slice n0 p.seen.length m0) p.seen) := fun W hW => (hRp.ls.below ha).below hW
      have HZ : Hid (∀ W, Below W1.heap.size W1 W → w.heap.size ≤ W.heap.size) := fun W hW => Nat.le_trans HB.out.bel.size hW.size
      have HC : Hid (∀ W, Below W1.heap.size W1 W → W.cell? ⟨B, 0, none⟩ = some (.string p.name) ∧ W.cell? ⟨B, 3, none⟩ = some (.slice n0 p.seen.length m0)) := fun W hW => by
        obtain ⟨x0, _, _, x3⟩ := bx4p ((hW.block B (Array.getElem?_eq_some_iff.1 hbx).1).trans hbx)
        exact ⟨x0, x3⟩
      have HF : Hid (∀ W : World, Below W1.heap.size W1 W → ∀ o, W.frozen? ⟨B, o, none⟩ = false) := fun W hW o => by
        have e := (hW.block B (Array.getElem?_eq_some_iff.1 hbx).1).trans hbx
        simp [World.frozen?, e]
      have HW1 : Hid (wr.alloc (.cells #[.string p.name, .int .i64 p.low, .int .i64 p.next, (.slice n0 p.seen.length m0)] 63) = W1 ∧ B = wr.heap.size) := ⟨hW1, hB⟩
      clear hW1 ha hbx hR hb hs hB hRp
      go_upto_region 5 with fail
      try rw [HW1.out.1]
      try rw [← HW1.out.2]
      clear HW1 q0 q1 q2 q3
      go_cut [19] from 12 to 18 (fun t wx => t = .pointer (some ⟨B, 3, none⟩) ∧ ∃ A2 C2, KP0 w W1 wx B p (.slice A2 p.seen.length C2) (.slice A1 qs.length C1) qs)
      case first =>
        obtain ⟨k0, k3⟩ := HC.out W1 (Below.refl _ _)
        have r1 := HS.out W1 (Below.refl _ _)
        have z1' := HZ.out W1 (Below.refl _ _)
        have z1 := z1'
        have s0 : ∀ W : World, W.cell? ⟨B, 0, none⟩ = some (.string p.name) → W.setCell ⟨B, 0, none⟩ (.string p.name) = W := fun W h => same_setU h
        have s3 : ∀ (W : World) (x : Value), W.cell? ⟨B, 0, none⟩ = some (.string p.name) → (W.setCell ⟨B, 3, none⟩ x).cell? ⟨B, 0, none⟩ = some (.string p.name) := fun W x h => by
          rw [World.cell?_setCell_other _ _ _ _ (by simp)]
          exact h
        go_region_law (first | (have _h := b6; go_simp; go_at_call 105; refine (clone_any _ _ (by omega)).mono ?_; rintro e wb ⟨rfl, hbwb⟩; have bb : Below w6.heap.size w6 wb := (by with_reducible first | exact hbwb | exact undrewP hbwb); have b7 : Below W1.heap.size W1 wb := b6.trans (bb.mono b6.size); have K7 := KP.mk b7 (own_belowP hown6 bb) hf6b HB.out; obtain ⟨e0, e3⟩ := HC.out wb b7; have fz := HF.out wb b7; clear hbwb hown6 hf6b; try dsimp only) | (refine step_nilSn (base := w.heap.size) (by rfl) _ _ (by rfl) (by rfl) (by rfl) ra (by omega) za ?_; intro A5 C5 w5 hown5 hg5 hf5; have b5 : Below W1.heap.size W1 w5 := ba.trans (grow_below hg5 ba.size); have K5 := KP.mk b5 hown5 (fun g h => Nat.le_trans ba.size (hf5 g h)) HB.out; obtain ⟨c0, c3⟩ := HC.out w5 b5; have fz := HF.out w5 b5; clear hown5 hg5 hf5; try dsimp only) | (go_simp; go_at_call 105; refine (clone_any _ _ (by omega)).mono ?_; rintro e wa ⟨rfl, hbwa⟩; have ba : Below W1.heap.size W1 wa := (by with_reducible first | exact hbwa | exact undrewP hbwa); have ra := HS.out wa ba; have za := HZ.out wa ba; obtain ⟨a0, a3⟩ := HC.out wa ba; clear hbwa; try dsimp only) | (refine step_nilSn (base := w.heap.size) (by rfl) _ _ (by rfl) (by rfl) (by rfl) (by with_reducible first | exact r1 | exact r1.below (Below.refl _ _).drew) (by omega) z1 ?_; intro A6 C6 w6 hown6 hg6 hf6; have b6 : Below W1.heap.size W1 w6 := (by with_reducible first | exact grow_below hg6 (Nat.le_refl _) | exact undrewP (grow_below hg6 (Nat.le_refl _))); obtain ⟨d0, d3⟩ := HC.out w6 b6; have hf6b : ∀ g, (Value.slice A6 p.seen.length C6).ownBlock = some g → W1.heap.size ≤ g := hf6; clear hg6 hf6; try dsimp only))
        all_goals go_wp2_with fail
        all_goals go_meet
        all_goals first | exact ⟨rfl, _, _, K5.out⟩ | exact ⟨rfl, _, _, K7.out⟩
      case rest =>
        obtain ⟨rfl, A2, C2, hK⟩ := hcut
        rename World => wx
        have HX : Hid (KP0 w W1 wx B p (.slice A2 p.seen.length C2) (.slice A1 qs.length C1) qs) := hK
        obtain ⟨x0, x1, x2, x3⟩ := bx4p hK.box
        have hown : OwnP w.heap.size (wx.alloc (.cells #[.string p.name, .int .i64 p.low, .int .i64 p.next, (.slice A2 p.seen.length C2)] 63)) (.slice A1 qs.length C1) qs := hK.own.below ((Below.refl _ _).alloc (Nat.le_refl _) _)
        have hsn : (wx.alloc (.cells #[.string p.name, .int .i64 p.low, .int .i64 p.next, (.slice A2 p.seen.length C2)] 63)).ownsRow w.heap.size 148 3 (.slice A2 p.seen.length C2) p.seen.length (clSns p.seen) := hK.sn.alloc _
        have hat := bx4p (World.alloc_heap_new wx (.cells #[.string p.name, .int .i64 p.low, .int .i64 p.next, (.slice A2 p.seen.length C2)] 63))
        have hnew : ∀ y ∈ qs, ∀ g, y.2.ownBlock = some g → (Value.slice A2 p.seen.length C2).ownBlock ≠ some g := fun y hy g hg e => by
          have h1 := ((HB.out.own.sn y hy).lt g hg).2
          have h2 := hK.new g e
          omega
        have hsz : w.heap.size ≤ wx.heap.size := hK.bel.size
        clear hK
        go_wp2_with (first | (at_builtin; refine wpList_appP (q := (p, .slice A2 p.seen.length C2)) rfl _ _ rfl rfl rfl hown hat hsn hnew rfl (by omega) (by simp; omega) ?_; rintro v4 w4 hown4 hgrow4 ⟨A4, C4, rfl⟩))
        have e3 : (qs ++ [(p, Value.slice A2 p.seen.length C2)]).map Prod.fst = ps.take (k + 1) := by
          rw [List.take_add_one, HK.out, List.map_append, HT.out]
          rfl
        have H4 : Hid (OwnP w.heap.size w4 (.slice A4 (qs ++ [(p, Value.slice A2 p.seen.length C2)]).length C4) (qs ++ [(p, Value.slice A2 p.seen.length C2)]) ∧ Below w.heap.size w w4) := by
          refine ⟨hown4, (HX.out.bel.alloc hsz _).trans ⟨hgrow4.os, hgrow4.tape, hgrow4.output, hgrow4.size, fun q hq => hgrow4.block q (by simp; omega) (fun e => ?_)⟩⟩
          have := (hown.row.lt q e.symm).1
          omega
        clear hown4 hgrow4 hown hsn hat hnew
        go_wp2
        go_roundw
        case rel => exact ⟨k + 1, by go_num, by omega, ⟨A4, C4, _, e3, by simp, by simpa using H4.out.1⟩, H4.out.2⟩
        case measure => simp [intOf]; omega
    · obtain rfl : k = ps.length := by omega
      have HF : Hid (OwnP w.heap.size wr (.slice A1 qs.length C1) qs ∧ Below w.heap.size w wr ∧ qs.map Prod.fst = ps) := ⟨hR, hb, by rw [HT.out, List.take_length]⟩
      clear hR hb
      go_wp2
      go_ret
      exact ⟨_, _, qs, rfl, HF.out.2.2, HF.out.1, HF.out.2.1⟩
end Go.Proofs.YtkgkahlhekecmaaGreat
namespace Go.Proofs.YtkgkahlhekecmaaGreat
open Go.ChangeShapes Go.WideShapes Go.ChangeAt Go.RowKit
theorem infoCsA : (Tryz.prog.info? 106).map (fun i => (i.zero, i.size, i.bytes)) = some (some (.agg #[.string ⟨#[]⟩, .string ⟨#[]⟩, .string ⟨#[]⟩]), 3, 48) := by kernel_rfl
/-- Its cells, one behind the other. -/
def clCs (g : Crs) : List Value := [.string g.partner, .string g.theirs, .string g.own]
def clCss (rs : List Crs) : List Value := rs.flatMap clCs
theorem clCss_len (rs : List Crs) : (clCss rs).length = rs.length * 3 := by
  induction rs with
  | nil => rfl
  | cons g r ih =>
    have : clCss (g :: r) = clCs g ++ clCss r := rfl
    rw [this, List.length_append, ih, List.length_cons]
    have : (clCs g).length = 3 := rfl
    omega
theorem clCss_app (rs : List Crs) (g : Crs) : clCss (rs ++ [g]) = clCss rs ++ clCs g := by simp [clCss]
theorem clCss_at : ∀ {rs : List Crs} {i : Nat} {g : Crs}, rs[i]? = some g → (clCss rs)[i * 3]? = some (.string g.partner) ∧ (clCss rs)[i * 3 + 1]? = some (.string g.theirs) ∧ (clCss rs)[i * 3 + 2]? = some (.string g.own)
  | [], i, g, h => by simp at h
  | x :: r, 0, g, h => by
    simp only [List.getElem?_cons_zero, Option.some.injEq] at h
    subst h
    refine ⟨rfl, rfl, rfl⟩
  | x :: r, i + 1, g, h => by
    rw [List.getElem?_cons_succ] at h
    obtain ⟨e0, e1, e2⟩ := clCss_at h
    have hc : clCss (x :: r) = clCs x ++ clCss r := rfl
    have hl : (clCs x).length = 3 := rfl
    refine ⟨?_, ?_, ?_⟩
    · rw [hc, List.getElem?_append_right (by omega), hl, ← e0]
      congr 1
      omega
    · rw [hc, List.getElem?_append_right (by omega), hl, ← e1]
      congr 1
      omega
    · rw [hc, List.getElem?_append_right (by omega), hl, ← e2]
      congr 1
      omega
/-- A list that the call has made by appends, read. -/
theorem LCs.of_owns {W : World} {base : Nat} {v : Value} {rs : List Crs} (h : W.ownsRow base 106 3 v rs.length (clCss rs)) (hl : rs.length ≤ 9223372036854775807) (hz : ∀ (i : Nat) (g : Crs), rs[i]? = some g → g.partner.size ≤ 9223372036854775807 ∧ g.theirs.size ≤ 9223372036854775807 ∧ g.own.size ≤ 9223372036854775807) : ∃ b, base ≤ b ∧ LCs b W v rs := by
  rcases h.2 with ⟨rfl, h0⟩ | ⟨b, cap, cur, rfl, hb, hh, hc, hm, hs, ht⟩
  · refine ⟨base, Nat.le_refl _, ⟨none, 0, by rw [h0], fun hn => absurd (List.eq_nil_of_length_eq_zero h0) hn⟩, hl, hz⟩
  · refine ⟨b, hb, ⟨_, _, rfl, fun _ => ⟨rfl, cap * 3, fun i => cur[i]?.getD undef, ⟨cur, hh, hs, fun i hi => by simp [hs, hi]⟩, Nat.mul_le_mul_right _ hc, fun i g hi => ?_⟩⟩, hl, hz⟩
    obtain ⟨e0, e1, e2⟩ := clCss_at hi
    have hlt := (List.getElem?_eq_some_iff.1 hi).1
    rw [← ht] at e0 e1 e2
    have get : ∀ (j : Nat) (x : Value), j < rs.length * 3 → (cur.toList.take (rs.length * 3))[j]? = some x → cur[j]?.getD undef = x := fun j x hj hx => by
      rw [List.getElem?_take_of_lt hj, Array.getElem?_toList] at hx
      rw [hx]
      rfl
    exact ⟨get _ _ (by omega) e0, get _ _ (by omega) e1, get _ _ (by omega) e2⟩
/-- An append of one, at the list of a plain region's operations. -/
theorem wpList_appCs {ops : Array Oper} {rest : List Oper} {o : Oper} {a : Act} {Q : Exit → Act → World → Prop} {W : World} {base c C : Nat} {lv : Value} {rs : List Crs} {g : Crs} (hgd : o.guard = none) (s x : Operand)
    (ho : o.op = .call { callee := .builtin .append, args := #[s, x], argTypes := #[34, 34] })
    (hs' : a.eval s = lv) (hx : a.eval x = .slice (some ⟨c, 0, none⟩) 1 C) (h : W.ownsRow base 106 3 lv rs.length (clCss rs)) (hg : AtCs W c 0 g) (hl : rs.length + 1 ≤ 1000000) (hbase : base ≤ W.heap.size)
    (k : ∀ v' w', w'.ownsRow base 106 3 v' (rs ++ [g]).length (clCss (rs ++ [g])) → W.grownBy w' lv.ownBlock → (∃ A C, v' = .slice A (rs ++ [g]).length C) → wpList Tryz.prog ops Q rest (a.put o.dst v') w') : wpList Tryz.prog ops Q (o :: rest) a W := by
  obtain ⟨i0, hi, hz0, hz1, hz2⟩ := info_parts infoCsA
  obtain ⟨q0, q1, q2⟩ := hg
  refine wpList_append_own W hgd s x 34 ho base 106 i0 (.agg #[.string ⟨#[]⟩, .string ⟨#[]⟩, .string ⟨#[]⟩]) 3 48 Tryz.underlying34 hi hz0 hz1 hz2 rfl (by decide) lv rs.length (clCss rs) hs' h ⟨c, 0, none⟩ 1 C (clCs g) hx rfl (fun j u hu => ?_) (fun u hu => ?_) (by unfold maxLen; omega) (by omega) hbase ?_
  · rw [fl_addr]
    have hj := (List.getElem?_eq_some_iff.1 hu).1
    have hj3 : j < 3 := hj
    match j, hj3 with
    | 0, _ =>
      cases hu
      simpa using q0
    | 1, _ =>
      cases hu
      simpa using q1
    | 2, _ =>
      cases hu
      simpa using q2
  · simp only [clCs, List.mem_cons, List.not_mem_nil, or_false] at hu
    rcases hu with rfl | rfl | rfl <;> rfl
  · intro v' w' hown hgrow hnil
    have e1 : (rs ++ [g]).length = rs.length + 1 := by simp
    have hown' : w'.ownsRow base 106 3 v' (rs ++ [g]).length (clCss (rs ++ [g])) := by
      rw [e1, clCss_app]
      exact hown
    refine k v' w' hown' hgrow ?_
    rcases hown'.2 with ⟨rfl, h0⟩ | ⟨b, cap, cur, rfl, _⟩
    · exact ⟨none, 0, by rw [h0]⟩
    · exact ⟨_, _, rfl⟩
theorem clCss_get : ∀ {rs : List Crs} {j : Nat} {u : Value}, (clCss rs)[j]? = some u → ∃ (i : Nat) (g : Crs), rs[i]? = some g ∧ ((j = i * 3 ∧ u = .string g.partner) ∨ (j = i * 3 + 1 ∧ u = .string g.theirs) ∨ (j = i * 3 + 2 ∧ u = .string g.own))
  | [], j, u, h => by simp [clCss] at h
  | x :: r, j, u, h => by
    have hc : clCss (x :: r) = clCs x ++ clCss r := rfl
    have hl : (clCs x).length = 3 := rfl
    rw [hc] at h
    by_cases hj : j < 3
    · rw [List.getElem?_append_left (by omega)] at h
      refine ⟨0, x, rfl, ?_⟩
      match j, hj with
      | 0, _ => cases h; simp
      | 1, _ => cases h; simp
      | 2, _ => cases h; simp
    · rw [List.getElem?_append_right (by omega), hl] at h
      obtain ⟨i, g, hg, ho⟩ := clCss_get h
      refine ⟨i + 1, g, by simpa using hg, ?_⟩
      rcases ho with ⟨h1, h2⟩ | ⟨h1, h2⟩ | ⟨h1, h2⟩
      · exact .inl ⟨by omega, h2⟩
      · exact .inr (.inl ⟨by omega, h2⟩)
      · exact .inr (.inr (⟨by omega, h2⟩))
/-- An append of a list, at the list of a plain region's operations. -/
theorem wpList_appsCs {ops : Array Oper} {rest : List Oper} {o : Oper} {a : Act} {Q : Exit → Act → World → Prop} {W : World} {base C : Nat} {lv : Value} {ad : Addr} {rs ms : List Crs} (hgd : o.guard = none) (s x : Operand)
    (ho : o.op = .call { callee := .builtin .append, args := #[s, x], argTypes := #[34, 34] })
    (hs' : a.eval s = lv) (hx : a.eval x = .slice (some ad) ms.length C) (h : W.ownsRow base 106 3 lv rs.length (clCss rs)) (hg : RowCs W (.slice (some ad) ms.length C) ms) (hl : rs.length + ms.length ≤ 1000000) (hbase : base ≤ W.heap.size)
    (k : ∀ v' w', w'.ownsRow base 106 3 v' (rs ++ ms).length (clCss (rs ++ ms)) → W.grownBy w' lv.ownBlock → (∃ A C, v' = .slice A (rs ++ ms).length C) → wpList Tryz.prog ops Q rest (a.put o.dst v') w') : wpList Tryz.prog ops Q (o :: rest) a W := by
  obtain ⟨i0, hi, hz0, hz1, hz2⟩ := info_parts infoCsA
  refine wpList_append_own W hgd s x 34 ho base 106 i0 (.agg #[.string ⟨#[]⟩, .string ⟨#[]⟩, .string ⟨#[]⟩]) 3 48 Tryz.underlying34 hi hz0 hz1 hz2 rfl (by decide) lv rs.length (clCss rs) hs' h ad ms.length C (clCss ms) hx (clCss_len ms) (fun j u hu => ?_) (fun u hu => ?_) (by unfold maxLen; omega) (by omega) hbase ?_
  · obtain ⟨i, g, hg', ho'⟩ := clCss_get hu
    obtain ⟨a', cap, e, hc⟩ := hg.shape
    simp only [Value.slice.injEq] at e
    obtain ⟨b, o', ea, hcell⟩ := hc (by intro e2; rw [e2] at hg'; simp at hg')
    rw [← e.1] at ea
    cases ea
    obtain ⟨q0, q1, q2⟩ := hcell i g hg'
    rw [fl_addr]
    rcases ho' with ⟨rfl, rfl⟩ | ⟨rfl, rfl⟩ | ⟨rfl, rfl⟩
    · first | exact q0 | (rw [← q0]; congr 2; omega)
    · first | exact q1 | (rw [← q1]; congr 2; omega)
    · first | exact q2 | (rw [← q2]; congr 2; omega)
  · obtain ⟨j, hj⟩ := List.getElem?_of_mem hu
    obtain ⟨i, g, _, ho'⟩ := clCss_get hj
    rcases ho' with ⟨_, rfl⟩ | ⟨_, rfl⟩ | ⟨_, rfl⟩ <;> rfl
  · intro v' w' hown hgrow hnil
    have e1 : (rs ++ ms).length = rs.length + ms.length := by simp
    have e2 : clCss (rs ++ ms) = clCss rs ++ clCss ms := by simp [clCss]
    have hown' : w'.ownsRow base 106 3 v' (rs ++ ms).length (clCss (rs ++ ms)) := by
      rw [e1, e2]
      exact hown
    refine k v' w' hown' hgrow ?_
    rcases hown'.2 with ⟨rfl, h0⟩ | ⟨b, cap, cur, rfl, _⟩
    · exact ⟨none, 0, by rw [h0]⟩
    · exact ⟨_, _, rfl⟩
end Go.Proofs.YtkgkahlhekecmaaGreat
