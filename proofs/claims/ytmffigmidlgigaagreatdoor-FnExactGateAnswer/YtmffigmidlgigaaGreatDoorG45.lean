/- Texts of ours put together: OuC, OuR, GtI. -/
import Derived.Test.YtmffigmidlgigaaGreatDoorG44
import Derived.Test.YtmffigmidlgigaaGreatDoorG33
import Derived.Test.YtmffigmidlgigaaGreatDoorG39
import Derived.Test.YtmffigmidlgigaaGreatDoorG42
import Derived.Laws.Cover1
namespace Go.Proofs.YtmffigmidlgigaaGreatDoor
open Go.ChangeShapes Go.WideShapes Go.ChangeAt Go.RowKit
open Go.Lib (compareBytes)
open Go.Sort
theorem fl_twoU (w : World) (a b : Obj) : ((w.alloc a).alloc b).heap[w.heap.size]? = some a ∧ ((w.alloc a).alloc b).heap[w.heap.size + 1]? = some b := by
  have e : ((w.alloc a).alloc b).heap = (w.heap.push a).push b := rfl
  rw [e]
  simp only [Array.getElem?_push, Array.size_push]
  refine ⟨?_, ?_⟩
  · rw [if_neg (by omega), if_pos trivial]
  · rw [if_pos trivial]
theorem cell_newU (W : World) (c : Array Value) (t i : Nat) (x : Value) (h : c[i]? = some x) : (W.alloc (.cells c t)).cell? ⟨W.heap.size, i, none⟩ = some x := by
  have e := World.alloc_heap_new W (.cells c t)
  unfold World.cell?
  rw [e]
  exact h
set_option maxRecDepth 100000 in
theorem compareString_anyU (a b : ByteArray) (w : World) : Calls Tryz.prog 124 #[.string a, .string b] w fun e w' => e = .returned (.int .i64 (compareBytes a.data.toList b.data.toList)) ∧ w' = w := by
  go_enter Tryz.func124, Tryz.ntmps124
  go_wp2
  rw [run_callFunc_extern Tryz.func132 (by kernel_rfl) (by kernel_rfl) (by kernel_rfl) (e := Extern.BytealgCompare.compare) (by kernel_rfl), Lib.run_compareString]
  simp only [Result.andThen]
  rw [Oper.upon_value]
  go_wp2
  go_ret
  exact ⟨rfl, rfl⟩
theorem compare_anyU (a b : ByteArray) (w : World) : Calls Tryz.prog 114 #[.string a, .string b] w fun e w' => e = .returned (.int .i64 (compareBytes a.data.toList b.data.toList)) ∧ w' = w := by
  go_enter Tryz.func114, Tryz.ntmps114
  go_wp2_with (go_at_call 124; refine (compareString_anyU _ _ _).mono ?_; rintro e w' ⟨rfl, rfl⟩)
  go_ret
  exact ⟨rfl, rfl⟩
theorem isNaN_anyU (x : Int) (w : World) : Calls Tryz.prog 125 #[.int .i64 x] w fun e w' => e = .returned (.bool false) ∧ w' = w := by
  go_enter Tryz.func125, Tryz.ntmps125
  go_wp2
  go_ret
  exact ⟨by first | rfl | simp, rfl⟩
theorem cmpI_anyU (x y : Int) (w : World) : Calls Tryz.prog 115 #[.int .i64 x, .int .i64 y] w fun e w' => e = .returned (.int .i64 (cmpZU x y)) ∧ w' = w := by
  rcases Int.lt_trichotomy x y with h | h | h
  · have HE : Hid (cmpZU x y = -1) := by show cmpZU x y = -1; unfold cmpZU; rw [if_pos h]
    go_enter Tryz.func115, Tryz.ntmps115
    go_wp2_with (go_at_call 125; refine (isNaN_anyU _ _).mono ?_; rintro e w' ⟨rfl, rfl⟩)
    go_ret
    exact ⟨by rw [HE.out]; rfl, rfl⟩
  · subst h
    have HE : Hid (cmpZU x x = 0) := by show cmpZU x x = 0; unfold cmpZU; rw [if_neg (by omega), if_neg (by omega)]
    go_enter Tryz.func115, Tryz.ntmps115
    go_wp2_with (go_at_call 125; refine (isNaN_anyU _ _).mono ?_; rintro e w' ⟨rfl, rfl⟩)
    go_ret
    exact ⟨by rw [HE.out]; rfl, rfl⟩
  · have HE : Hid (cmpZU x y = 1) := by show cmpZU x y = 1; unfold cmpZU; rw [if_neg (by omega), if_pos h]
    go_enter Tryz.func115, Tryz.ntmps115
    go_wp2_with (go_at_call 125; refine (isNaN_anyU _ _).mono ?_; rintro e w' ⟨rfl, rfl⟩)
    go_ret
    exact ⟨by rw [HE.out]; rfl, rfl⟩
set_option maxHeartbeats 1000000 in
/-- cmp.Or of two numbers. -/
theorem or2_any (x y : Int) (B : Nat) (w : World) (h0 : w.cell? ⟨B, 0, none⟩ = some (.int .i64 x)) (h1 : w.cell? ⟨B, 1, none⟩ = some (.int .i64 y)) :
    Calls Tryz.prog 113 #[.slice (some ⟨B, 0, none⟩) 2 2] w fun e w' => e = .returned (.int .i64 (orZU x y)) ∧ w' = w := by
  unfold orZU
  go_enter Tryz.func113, Tryz.ntmps113
  go_wp2
  by_cases hx : x = 0
  · subst hx
    by_cases hy : y = 0
    · subst hy
      go_loopw [8] (fun i wr => ∃ k : Nat, i = .int .i64 (k : Int) ∧ k ≤ 2 ∧ wr = w) (fun i _ => 2 - (intOf i).toNat)
      case atStart => exact ⟨0, rfl, by omega, rfl⟩
      case round =>
        obtain ⟨k, rfl, hk, rfl⟩ := hrel
        obtain rfl | rfl | rfl : k = 0 ∨ k = 1 ∨ k = 2 := by omega
        · go_wp2
          go_roundw
          case rel => exact ⟨1, by go_num, by omega, trivial⟩
          case measure => simp [intOf]
        · go_wp2
          go_roundw
          case rel => exact ⟨2, by go_num, by omega, trivial⟩
          case measure => simp [intOf]
        · go_wp2
          go_ret
          exact ⟨by first | rfl | simp, rfl⟩
    · go_loopw [8] (fun i wr => ∃ k : Nat, i = .int .i64 (k : Int) ∧ k ≤ 1 ∧ wr = w) (fun i _ => 2 - (intOf i).toNat)
      case atStart => exact ⟨0, rfl, by omega, rfl⟩
      case round =>
        obtain ⟨k, rfl, hk, rfl⟩ := hrel
        obtain rfl | rfl : k = 0 ∨ k = 1 := by omega
        · go_wp2
          go_roundw
          case rel => exact ⟨1, by go_num, by omega, trivial⟩
          case measure => simp [intOf]
        · go_wp2
          go_ret
          exact ⟨by first | rfl | simp, rfl⟩
  · go_loopw [8] (fun i wr => i = .int .i64 0 ∧ wr = w) (fun i _ => 2 - (intOf i).toNat)
    case atStart => exact ⟨rfl, rfl⟩
    case round =>
      obtain ⟨rfl, rfl⟩ := hrel
      go_wp2
      go_ret
      exact ⟨rfl, rfl⟩
set_option maxHeartbeats 4000000 in
/-- compare. -/
theorem ocmp_grows (a b : OutR) (w : World) : Calls Tryz.prog 97 #[.agg #[.string a.partner, .int .i64 a.number, .string a.text, .int .i64 a.tries, .int .i64 a.due], .agg #[.string b.partner, .int .i64 b.number, .string b.text, .int .i64 b.tries, .int .i64 b.due]] w fun e w' => e = .returned (.int .i64 (ocmp a b)) ∧ ∃ o1 o2 o3, w' = (((w.alloc o1).alloc o2).alloc o3).drew := by
  unfold ocmp
  obtain ⟨a_partner, a_number, a_text, a_tries, a_due⟩ := a
  obtain ⟨b_partner, b_number, b_text, b_tries, b_due⟩ := b
  dsimp only
  obtain ⟨W0, hW0⟩ : ∃ W0, ((w.alloc (.cells #[.string a_partner, .int .i64 a_number, .string a_text, .int .i64 a_tries, .int .i64 a_due] 114)).alloc (.cells #[.string b_partner, .int .i64 b_number, .string b_text, .int .i64 b_tries, .int .i64 b_due] 114)) = W0 := ⟨_, rfl⟩
  have HW : Hid (∃ o1 o2, W0 = (w.alloc o1).alloc o2) := ⟨_, _, hW0.symm⟩
  have hB : W0.heap.size = w.heap.size + 2 := by rw [← hW0]; simp
  go_enter Tryz.func97, Tryz.ntmps97
  go_upto_region 1 with fail
  try rw [hW0]
  obtain ⟨k0, k1⟩ := fl_twoU w (.cells #[.string a_partner, .int .i64 a_number, .string a_text, .int .i64 a_tries, .int .i64 a_due] 114) (.cells #[.string b_partner, .int .i64 b_number, .string b_text, .int .i64 b_tries, .int .i64 b_due] 114)
  rw [hW0] at k0 k1
  obtain ⟨z0, z1, _⟩ := box5 k0
  obtain ⟨y0, y1, _⟩ := box5 k1
  clear k0 k1 hW0
  have HN : Hid (∀ x y : Int, (W0.alloc (.cells #[.int .i64 x, .int .i64 y] 3)).drew.cell? ⟨w.heap.size + 2, 0, none⟩ = some (.int .i64 x) ∧ (W0.alloc (.cells #[.int .i64 x, .int .i64 y] 3)).drew.cell? ⟨w.heap.size + 2, 1, none⟩ = some (.int .i64 y)) := fun x y => by
    rw [← hB]
    exact ⟨cell_newU W0 _ _ 0 _ rfl, cell_newU W0 _ _ 1 _ rfl⟩
  go_region_held3 (fun W => W.cell? ⟨w.heap.size, 0, none⟩ = some (.string a_partner) ∧ W.cell? ⟨w.heap.size, 1, none⟩ = some (.int .i64 a_number) ∧ W.cell? ⟨w.heap.size + 1, 0, none⟩ = some (.string b_partner) ∧ W.cell? ⟨w.heap.size + 1, 1, none⟩ = some (.int .i64 b_number)) (go_keep) (first | (go_at_call 114; refine (compare_anyU _ _ _).mono ?_; rintro e w2 ⟨rfl, rfl⟩) | (go_at_call 115; refine (cmpI_anyU _ _ _).mono ?_; rintro e w2 ⟨rfl, rfl⟩) | (go_at_call 113; refine (or2_any _ _ _ _ (HN.out _ _).1 (HN.out _ _).2).mono ?_; rintro e w3 ⟨rfl, rfl⟩))
  rename_i hHeld
  clear hHeld
  go_wp2
  go_ret
  obtain ⟨o1, o2, e⟩ := HW.out
  exact ⟨rfl, o1, o2, _, by rw [e]⟩
theorem ocmp_any (a b : OutR) (w : World) : Calls Tryz.prog 97 #[.agg #[.string a.partner, .int .i64 a.number, .string a.text, .int .i64 a.tries, .int .i64 a.due], .agg #[.string b.partner, .int .i64 b.number, .string b.text, .int .i64 b.tries, .int .i64 b.due]] w fun e w' => e = .returned (.int .i64 (ocmp a b)) ∧ Below w.heap.size w w' :=
  (ocmp_grows a b w).mono fun _ _ ⟨he, o1, o2, o3, hw⟩ => ⟨he, by rw [hw]; exact ((((Below.refl _ _).alloc (Nat.le_refl _) _).alloc (by simp) _).alloc (by simp; omega) _).drew⟩
end Go.Proofs.YtmffigmidlgigaaGreatDoor
namespace Go.Proofs.YtmffigmidlgigaaGreatDoor
open Go.ChangeShapes Go.WideShapes Go.ChangeAt Go.RowKit
set_option maxHeartbeats 4000000 in
theorem outboxRight_impl (v : Value) (rs : List OutR) (w : World) (h : RowOu w v rs) : Calls Tryz.prog 69 #[v] w fun e w' => e = .returned (.bool (ousB rs)) ∧ Below w.heap.size w w' := by
  have hlen := h.len
  obtain ⟨A, Cp, rfl⟩ := h.val
  have H0 : Hid (RowOu w (.slice A rs.length Cp) rs) := h
  clear h
  go_enter Tryz.func69, Tryz.ntmps69
  by_cases hl : 60 < rs.length
  · have hl' : (60 : Int) < (rs.length : Int) := by omega
    have HN : Hid (ousB rs = false) := ousB_no fun h => by have := h.len; omega
    go_wp2
    go_ret
    exact ⟨by rw [HN.out]; rfl, Below.refl _ _⟩
  have hl' : ¬ (60 : Int) < (rs.length : Int) := by omega
  have hb0 : Below w.heap.size w (w.alloc (.cells #[.string zeroO.partner, .int .i64 zeroO.number, .string zeroO.text, .int .i64 zeroO.tries, .int .i64 zeroO.due] 114)) := (Below.refl _ _).alloc (Nat.le_refl _) _
  have hx0 : (w.alloc (.cells #[.string zeroO.partner, .int .i64 zeroO.number, .string zeroO.text, .int .i64 zeroO.tries, .int .i64 zeroO.due] 114)).heap[w.heap.size]? = some (.cells #[.string zeroO.partner, .int .i64 zeroO.number, .string zeroO.text, .int .i64 zeroO.tries, .int .i64 zeroO.due] 114) := World.alloc_heap_new _ _
  simp only [zeroO] at hb0 hx0
  have HZ : Hid _ := And.intro hb0 hx0
  clear hb0 hx0
  go_wp2_with fail
  go_loopw [12] (fun i wr => ∃ (k : Nat) (l : OutR), i = .int .i64 (k : Int) ∧ k ≤ rs.length ∧ Below w.heap.size w wr ∧ wr.heap[w.heap.size]? = some (.cells #[.string l.partner, .int .i64 l.number, .string l.text, .int .i64 l.tries, .int .i64 l.due] 114) ∧ (k = 0 → l = zeroO) ∧ (0 < k → rs[k - 1]? = some l) ∧ ∀ i c, i < k → rs[i]? = some c → OkO rs i c) (fun i _ => rs.length - (intOf i).toNat)
  case atStart => exact ⟨0, zeroO, rfl, by omega, HZ.out.1, HZ.out.2, fun _ => rfl, fun h => by omega, fun i c hi => by omega⟩
  case round =>
    obtain ⟨k, l, rfl, hk, hb, hbx, hl0, hl1, hok⟩ := hrel
    have HI : Hid (Below w.heap.size w wr ∧ wr.heap[w.heap.size]? = some (.cells #[.string l.partner, .int .i64 l.number, .string l.text, .int .i64 l.tries, .int .i64 l.due] 114) ∧ (k = 0 → l = zeroO) ∧ (0 < k → rs[k - 1]? = some l) ∧ ∀ i c, i < k → rs[i]? = some c → OkO rs i c) := ⟨hb, hbx, hl0, hl1, hok⟩
    have hsz : w.heap.size < wr.heap.size := (Array.getElem?_eq_some_iff.1 hbx).1
    clear hok hb hbx hl0 hl1
    by_cases hlt : k < rs.length
    · have hlt' : (k : Int) < (rs.length : Int) := by omega
      obtain ⟨b, o, cap', c, e, hs, ⟨q0, q1, q2, q3, q4⟩, hz⟩ := (H0.out.below HI.out.1).at hlt
      simp only [Value.slice.injEq, true_and] at e
      obtain ⟨rfl, rfl⟩ := e
      have HS : Hid (rs[k]? = some c) := hs
      clear hs
      obtain ⟨W1, hW1⟩ : ∃ W1, wr.alloc (.cells #[.string c.partner, .int .i64 c.number, .string c.text, .int .i64 c.tries, .int .i64 c.due] 114) = W1 := ⟨_, rfl⟩
      have ha : Below wr.heap.size wr W1 := by rw [← hW1]; exact (Below.refl _ _).alloc (Nat.le_refl _) _
      have hc1 : W1.heap[wr.heap.size]? = some (.cells #[.string c.partner, .int .i64 c.number, .string c.text, .int .i64 c.tries, .int .i64 c.due] 114) := by rw [← hW1]; exact World.alloc_heap_new _ _
      obtain ⟨C, hC⟩ : ∃ C, C = wr.heap.size := ⟨_, rfl⟩
      rw [← hC] at hc1
      have H1 : Hid (Below w.heap.size w W1 ∧ W1.heap[w.heap.size]? = some (.cells #[.string l.partner, .int .i64 l.number, .string l.text, .int .i64 l.tries, .int .i64 l.due] 114) ∧ W1.heap[C]? = some (.cells #[.string c.partner, .int .i64 c.number, .string c.text, .int .i64 c.tries, .int .i64 c.due] 114)) := ⟨HI.out.1.trans (ha.mono HI.out.1.size), (ha.block _ hsz).trans HI.out.2.1, hc1⟩
      have hCw : w.heap.size < C := by omega
      go_upto_region 7 with fail
      try rw [hW1]
      try rw [← hC]
      clear hW1 hc1 ha q0 q1 q2 q3 q4 hC hsz
      obtain ⟨c0, c1, c2, c3, c4⟩ := box5 H1.out.2.2
      obtain ⟨x, hx⟩ : ∃ x, x = ouB c := ⟨_, rfl⟩
      have Q1 := fun w => right_any c w hz.2
      clear hz
      rw [← hx] at Q1
      have HX : Hid (x = ouB c) := hx
      clear hx
      go_wp2_with fail
      refine (Q1 _).mono ?_
      rintro e w2 ⟨rfl, hb2⟩
      have H2 : Hid (Below w.heap.size w w2 ∧ w2.heap[w.heap.size]? = some (.cells #[.string l.partner, .int .i64 l.number, .string l.text, .int .i64 l.tries, .int .i64 l.due] 114) ∧ w2.heap[C]? = some (.cells #[.string c.partner, .int .i64 c.number, .string c.text, .int .i64 c.tries, .int .i64 c.due] 114)) := ⟨H1.out.1.trans (hb2.mono H1.out.1.size), (hb2.block _ (Array.getElem?_eq_some_iff.1 H1.out.2.1).1).trans H1.out.2.1, (hb2.block _ (Array.getElem?_eq_some_iff.1 H1.out.2.2).1).trans H1.out.2.2⟩
      clear hb2 c0 c1 c2 c3 c4 H1 Q1
      cases x with
      | false =>
        have HN : Hid (ousB rs = false) := ousB_no fun h => by
          have h1 := h.at_ k c HS.out
          have h2 := HX.out
          rw [ouB_yes h1.ok] at h2
          cases h2
        go_wp2
        go_ret
        exact ⟨by rw [HN.out]; rfl, H2.out.1⟩
      | true =>
        have Q2 := ocmp_any c l
        obtain ⟨z, hz⟩ : ∃ z, z = ocmp c l := ⟨_, rfl⟩
        rw [← hz] at Q2
        have HZ2 : Hid (z = ocmp c l) := hz
        clear hz
        obtain ⟨c0, c1, c2, c3, c4⟩ := box5 H2.out.2.2
        obtain ⟨d0, d1, d2, d3, d4⟩ := box5 H2.out.2.1
        go_wp2_with fail
        refine (Q2 _).mono ?_
        rintro e w3 ⟨rfl, hb3⟩
        have H3 : Hid (Below w.heap.size w w3 ∧ w3.heap[w.heap.size]? = some (.cells #[.string l.partner, .int .i64 l.number, .string l.text, .int .i64 l.tries, .int .i64 l.due] 114) ∧ w3.heap[C]? = some (.cells #[.string c.partner, .int .i64 c.number, .string c.text, .int .i64 c.tries, .int .i64 c.due] 114)) := ⟨H2.out.1.trans (hb3.mono H2.out.1.size), (hb3.block _ (Array.getElem?_eq_some_iff.1 H2.out.2.1).1).trans H2.out.2.1, (hb3.block _ (Array.getElem?_eq_some_iff.1 H2.out.2.2).1).trans H2.out.2.2⟩
        clear hb3 c0 c1 c2 c3 c4 d0 d1 d2 d3 d4 H2 Q2
        by_cases hz : z ≤ 0
        · have HN : Hid (ousB rs = false) := ousB_no fun h => by
            have h1 := h.at_ k c HS.out
            have h2 : 0 < ocmp c l := by
              rcases Nat.eq_zero_or_pos k with k0 | k0
              · rw [HI.out.2.2.1 k0]
                exact ocmp_first h1.ok.p
              · rw [ocmp_pos]
                exact h1.rise l k0 (HI.out.2.2.2.1 k0)
            have h3 := HZ2.out
            omega
          go_wp2
          go_ret
          exact ⟨by rw [HN.out]; rfl, H3.out.1⟩
        · have HN : Hid (OkO rs k c) := by
            refine ⟨ouB_iff.1 HX.out.symm, fun d k0 hd => ?_⟩
            have h4 := HI.out.2.2.2.1 k0
            rw [h4] at hd
            cases hd
            rw [← ocmp_pos, ← HZ2.out]
            omega
          obtain ⟨c0, c1, c2, c3, c4⟩ := box5 H3.out.2.2
          obtain ⟨d0, d1, d2, d3, d4⟩ := box5 H3.out.2.1
          have hfr : ∀ o, w3.frozen? ⟨w.heap.size, o, none⟩ = false := fun o => by simp [World.frozen?, H3.out.2.1]
          go_wp2
          go_roundw
          case rel =>
            refine ⟨k + 1, c, by go_num, by omega, ?_, set5 H3.out.2.1, fun h => by omega, fun _ => by simpa using HS.out, fun i y hi hy => ?_⟩
            · exact (((((H3.out.1.setCell (Nat.le_refl _) _).setCell (Nat.le_refl _) _).setCell (Nat.le_refl _) _).setCell (Nat.le_refl _) _).setCell (Nat.le_refl _) _)
            rcases Nat.lt_or_ge i k with g | g
            · exact HI.out.2.2.2.2 i y g hy
            · obtain rfl : i = k := by omega
              rw [HS.out] at hy
              cases hy
              exact HN.out
          case measure => simp [intOf]; omega
    · obtain rfl : k = rs.length := by omega
      have HN : Hid (ousB rs = true) := ousB_yes ⟨by omega, fun i c hc => HI.out.2.2.2.2 i c (List.getElem?_eq_some_iff.1 hc).1 hc⟩
      go_wp2
      go_ret
      exact ⟨by rw [HN.out]; rfl, HI.out.1⟩
end Go.Proofs.YtmffigmidlgigaaGreatDoor
namespace Go.Proofs.YtmffigmidlgigaaGreatDoor
open Go.ChangeShapes Go.WideShapes Go.ChangeAt Go.RowKit
theorem bx4P {W : World} {b t : Nat} {x0 x1 x2 x3 : Value} (h : W.heap[b]? = some (.cells #[x0, x1, x2, x3] t)) : W.cell? ⟨b, 0, none⟩ = some x0 ∧ W.cell? ⟨b, 1, none⟩ = some x1 ∧ W.cell? ⟨b, 2, none⟩ = some x2 ∧ W.cell? ⟨b, 3, none⟩ = some x3 := by
  refine ⟨?_, ?_, ?_, ?_⟩ <;> simp [World.cell?, h]
set_option maxHeartbeats 4000000 in
theorem partnersRight_any (v : Value) (ps : List Ptn) (w : World) (h : RowPt w v ps) : Calls Tryz.prog 66 #[v] w fun e w' => e = .returned (.bool (ptsB ps)) ∧ Below w.heap.size w w' := by
  have hlen := h.len
  obtain ⟨A, Cp, rfl⟩ := h.val
  have H0 : Hid (RowPt w (.slice A ps.length Cp) ps) := h
  clear h
  go_enter Tryz.func66, Tryz.ntmps66
  by_cases hl : 20 < ps.length
  · have hl' : (20 : Int) < (ps.length : Int) := by omega
    have HN : Hid (ptsB ps = false) := ptsB_no fun h => by have := h.len; omega
    go_wp2
    go_ret
    exact ⟨by rw [HN.out]; rfl, Below.refl _ _⟩
  have hl' : ¬ (20 : Int) < (ps.length : Int) := by omega
  go_wp2_with fail
  go_loopw [3, 11] (fun l i wr => ∃ (k : Nat) (s : ByteArray), l = .string s ∧ i = .int .i64 (k : Int) ∧ k ≤ ps.length ∧ Below w.heap.size w wr ∧ (k = 0 → s = ⟨#[]⟩) ∧ (∀ d, 0 < k → ps[k - 1]? = some d → d.name = s) ∧ ∀ i c, i < k → ps[i]? = some c → OkP ps i c) (fun _ i _ => ps.length - (intOf i).toNat)
  case atStart => exact ⟨0, ⟨#[]⟩, rfl, rfl, by omega, Below.refl _ _, fun _ => rfl, fun d h => by omega, fun i c hi => by omega⟩
  case round =>
    obtain ⟨k, s, rfl, rfl, hk, hb, hs0, hs1, hok⟩ := hrel
    have HI : Hid (Below w.heap.size w wr ∧ (k = 0 → s = ⟨#[]⟩) ∧ (∀ d, 0 < k → ps[k - 1]? = some d → d.name = s) ∧ ∀ i c, i < k → ps[i]? = some c → OkP ps i c) := ⟨hb, hs0, hs1, hok⟩
    clear hok hb hs0 hs1
    by_cases hlt : k < ps.length
    · have hlt' : (k : Int) < (ps.length : Int) := by omega
      obtain ⟨b, o, cap', p, u, e, hs, ⟨q0, q1, q2, q3⟩, hR⟩ := (H0.out.below HI.out.1).at hlt
      simp only [Value.slice.injEq, true_and] at e
      obtain ⟨rfl, rfl⟩ := e
      obtain ⟨n0, c0, rfl⟩ := hR.ls.val
      obtain ⟨W1, hW1⟩ : ∃ W1, wr.alloc (.cells #[.string p.name, .int .i64 p.low, .int .i64 p.next, .slice n0 p.seen.length c0] 105) = W1 := ⟨_, rfl⟩
      have hb1 : Below wr.heap.size wr W1 := by rw [← hW1]; exact (Below.refl _ _).alloc (Nat.le_refl _) _
      have hx1 : W1.heap[wr.heap.size]? = some (.cells #[.string p.name, .int .i64 p.low, .int .i64 p.next, .slice n0 p.seen.length c0] 105) := by rw [← hW1]; exact World.alloc_heap_new _ _
      obtain ⟨S, hS⟩ : ∃ S, S = wr.heap.size := ⟨_, rfl⟩
      rw [← hS] at hx1
      have HS : Hid (ps[k]? = some p ∧ RPt W1 (.slice n0 p.seen.length c0) p ∧ Below w.heap.size w W1 ∧ W1.heap[S]? = some (.cells #[.string p.name, .int .i64 p.low, .int .i64 p.next, .slice n0 p.seen.length c0] 105)) := ⟨hs, hR.below hb1, HI.out.1.trans (hb1.mono HI.out.1.size), hx1⟩
      have HW : Hid (wr.alloc (.cells #[.string p.name, .int .i64 p.low, .int .i64 p.next, .slice n0 p.seen.length c0] 105) = W1 ∧ S = wr.heap.size) := ⟨hW1, hS⟩
      clear hs hR hb1 hx1 hW1 hS
      go_upto_region 7 with fail
      try rw [HW.out.1]
      try rw [← HW.out.2]
      clear HW q0 q1 q2 q3
      obtain ⟨x0, x1, x2, x3⟩ := bx4P HS.out.2.2.2
      go_wp2_with fail
      refine (ptRight_impl p _ _ HS.out.2.1).mono ?_
      rintro e w2 ⟨rfl, hb2⟩
      have H2 : Hid (ps[k]? = some p ∧ Below w.heap.size w w2) := ⟨HS.out.1, HS.out.2.2.1.trans (hb2.mono HS.out.2.2.1.size)⟩
      have hx2 := (hb2.block _ (Array.getElem?_eq_some_iff.1 HS.out.2.2.2).1).trans HS.out.2.2.2
      clear x0 x1 x2 x3
      obtain ⟨x0, x1, x2, x3⟩ := bx4P hx2
      clear hb2 hx2 HS
      obtain ⟨y, hy⟩ : ∃ y, y = ptnB p := ⟨_, rfl⟩
      have HY : Hid (y = ptnB p) := hy
      rw [← hy]
      clear hy
      cases y with
      | false =>
        have HN : Hid (ptsB ps = false) := ptsB_no fun h => by
          have h1 := (h.at_ k _ H2.out.1).ok
          rw [← HY.out] at h1
          cases h1
        go_wp2
        go_ret
        exact ⟨by rw [HN.out]; rfl, H2.out.2⟩
      | true =>
        cases x : Op.bytesLess p.name.toList s.toList
        case true =>
          have HN : Hid (ptsB ps = false) := ptsB_no fun h => by
            have := bl_asymm (ptp_lt (h.at_ k _ H2.out.1) hk HI.out.2.1 HI.out.2.2.1)
            rw [x] at this
            cases this
          go_wp2
          go_ret
          exact ⟨by rw [HN.out]; rfl, H2.out.2⟩
        cases y : (p.name.toList == s.toList)
        case true =>
          have HN : Hid (ptsB ps = false) := ptsB_no fun h => by
            have := bl_neG (ptp_lt (h.at_ k _ H2.out.1) hk HI.out.2.1 HI.out.2.2.1)
            rw [y] at this
            cases this
          go_wp2
          go_ret
          exact ⟨by rw [HN.out]; rfl, H2.out.2⟩
        have HN : Hid (OkP ps k p) := ptp_ok HY.out.symm x y HI.out.2.2.1
        go_wp2
        go_roundw
        case rel =>
          refine ⟨k + 1, p.name, rfl, by go_num, by omega, H2.out.2, fun h => by omega, fun d _ hd => ?_, fun i y hi hy => ?_⟩
          · rw [show k + 1 - 1 = k by omega, H2.out.1] at hd
            cases hd
            rfl
          · rcases Nat.lt_or_ge i k with g | g
            · exact HI.out.2.2.2 i y g hy
            · obtain rfl : i = k := by omega
              rw [H2.out.1] at hy
              cases hy
              exact HN.out
        case measure => simp [intOf]; omega
    · obtain rfl : k = ps.length := by omega
      have HN : Hid (ptsB ps = true) := ptsB_yes ⟨by omega, fun i c hc => HI.out.2.2.2 i c (List.getElem?_eq_some_iff.1 hc).1 hc⟩
      go_wp2
      go_ret
      exact ⟨by rw [HN.out]; rfl, HI.out.1⟩
set_option maxHeartbeats 4000000 in
theorem gateRight_impl (g : Gat) (up uc us ul ud uo : Value) (w : World) (h : RGt w up uc us ul ud uo g) : Calls Tryz.prog 27 #[.agg #[.string g.name, .int .i64 g.day, up, uc, us, ul, ud, uo]] w fun e w' => e = .returned (.bool (gtB g)) ∧ Below w.heap.size w w' := by
  obtain ⟨a0, c0, a1, c1, a2, c2, a3, c3, a4, c4, a5, c5, rfl, rfl, rfl, rfl, rfl, rfl⟩ := h.val
  have hld := h.df.len
  obtain ⟨W0, hW0⟩ : ∃ W0, w.alloc (.cells #[.string g.name, .int .i64 g.day, (.slice a0 g.ptns.length c0), (.slice a1 g.crss.length c1), (.slice a2 g.book.stocks.length c2), (.slice a3 g.book.lines.length c3), (.slice a4 g.dffs.length c4), (.slice a5 g.outs.length c5)] 47) = W0 := ⟨_, rfl⟩
  have hb0 : Below w.heap.size w W0 := by rw [← hW0]; exact (Below.refl _ _).alloc (Nat.le_refl _) _
  have hx0 : W0.heap[w.heap.size]? = some (.cells #[.string g.name, .int .i64 g.day, (.slice a0 g.ptns.length c0), (.slice a1 g.crss.length c1), (.slice a2 g.book.stocks.length c2), (.slice a3 g.book.lines.length c3), (.slice a4 g.dffs.length c4), (.slice a5 g.outs.length c5)] 47) := by rw [← hW0]; exact World.alloc_heap_new _ _
  have H0 : Hid (Below w.heap.size w W0 ∧ RGt W0 (.slice a0 g.ptns.length c0) (.slice a1 g.crss.length c1) (.slice a2 g.book.stocks.length c2) (.slice a3 g.book.lines.length c3) (.slice a4 g.dffs.length c4) (.slice a5 g.outs.length c5) g ∧ W0.heap[w.heap.size]? = some (.cells #[.string g.name, .int .i64 g.day, (.slice a0 g.ptns.length c0), (.slice a1 g.crss.length c1), (.slice a2 g.book.stocks.length c2), (.slice a3 g.book.lines.length c3), (.slice a4 g.dffs.length c4), (.slice a5 g.outs.length c5)] 47)) := ⟨hb0, h.below hb0, hx0⟩
  clear h hb0 hx0
  obtain ⟨y1, h1⟩ : ∃ y, y = nameB g.name := ⟨_, rfl⟩
  obtain ⟨y2, h2⟩ : ∃ y, y = dayB g.day := ⟨_, rfl⟩
  obtain ⟨y3, h3⟩ : ∃ y, y = ptsB g.ptns := ⟨_, rfl⟩
  obtain ⟨y4, h4⟩ : ∃ y, y = rightB g.crss := ⟨_, rfl⟩
  obtain ⟨y5, h5⟩ : ∃ y, y = bkB g.book := ⟨_, rfl⟩
  obtain ⟨y7, h7⟩ : ∃ y, y = ousB g.outs := ⟨_, rfl⟩
  have HZ : Hid (gtB g = (y1 && (y2 && (y3 && (y4 && (y5 && (dfB g && y7))))))) := by rw [h1, h2, h3, h4, h5, h7]; rfl
  have Q1 := isName_any g.name
  have Q2 := isDay_any g.day
  have Q3 := fun W h => partnersRight_any (.slice a0 g.ptns.length c0) g.ptns W h
  have Q4 := fun W h => crossRight_impl (.slice a1 g.crss.length c1) g.crss W h
  have Q5 := fun W h => bookRight_impl g.book (.slice a2 g.book.stocks.length c2) (.slice a3 g.book.lines.length c3) W h
  have Q7 := fun W h => outboxRight_impl (.slice a5 g.outs.length c5) g.outs W h
  rw [← h1] at Q1
  rw [← h2] at Q2
  rw [← h3] at Q3
  rw [← h4] at Q4
  rw [← h5] at Q5
  rw [← h7] at Q7
  clear h1 h2 h3 h4 h5 h7
  go_enter Tryz.func27, Tryz.ntmps27
  go_upto_region 1 with fail
  try rw [hW0]
  clear hW0
  obtain ⟨x0, x1, x2, x3, x4, x5, x6, x7⟩ := bx8 H0.out.2.2
  go_wp2_with fail
  refine (Q1 _).mono ?_
  rintro e w1 ⟨rfl, rfl⟩
  cases y1
  · go_wp2
    go_ret
    exact ⟨by rw [HZ.out]; simp, H0.out.1⟩
  go_wp2_with fail
  refine (Q2 _).mono ?_
  rintro e w1 ⟨rfl, rfl⟩
  cases y2
  · go_wp2
    go_ret
    exact ⟨by rw [HZ.out]; simp, H0.out.1⟩
  go_wp2_with fail
  refine (Q3 _ H0.out.2.1.pt).mono ?_
  rintro e w3 ⟨rfl, hb⟩
  have H3 : Hid (Below w.heap.size w w3 ∧ RGt w3 (.slice a0 g.ptns.length c0) (.slice a1 g.crss.length c1) (.slice a2 g.book.stocks.length c2) (.slice a3 g.book.lines.length c3) (.slice a4 g.dffs.length c4) (.slice a5 g.outs.length c5) g ∧ w3.heap[w.heap.size]? = some (.cells #[.string g.name, .int .i64 g.day, (.slice a0 g.ptns.length c0), (.slice a1 g.crss.length c1), (.slice a2 g.book.stocks.length c2), (.slice a3 g.book.lines.length c3), (.slice a4 g.dffs.length c4), (.slice a5 g.outs.length c5)] 47)) := ⟨H0.out.1.trans (hb.mono H0.out.1.size), H0.out.2.1.below hb, (hb.block _ (Array.getElem?_eq_some_iff.1 H0.out.2.2).1).trans H0.out.2.2⟩
  clear hb x0 x1 x2 x3 x4 x5 x6 x7 H0
  obtain ⟨x0, x1, x2, x3, x4, x5, x6, x7⟩ := bx8 H3.out.2.2
  cases y3
  · go_wp2
    go_ret
    exact ⟨by rw [HZ.out]; simp, H3.out.1⟩
  go_wp2_with fail
  refine (Q4 _ H3.out.2.1.cs).mono ?_
  rintro e w4 ⟨rfl, hb⟩
  have H4 : Hid (Below w.heap.size w w4 ∧ RGt w4 (.slice a0 g.ptns.length c0) (.slice a1 g.crss.length c1) (.slice a2 g.book.stocks.length c2) (.slice a3 g.book.lines.length c3) (.slice a4 g.dffs.length c4) (.slice a5 g.outs.length c5) g ∧ w4.heap[w.heap.size]? = some (.cells #[.string g.name, .int .i64 g.day, (.slice a0 g.ptns.length c0), (.slice a1 g.crss.length c1), (.slice a2 g.book.stocks.length c2), (.slice a3 g.book.lines.length c3), (.slice a4 g.dffs.length c4), (.slice a5 g.outs.length c5)] 47)) := ⟨H3.out.1.trans (hb.mono H3.out.1.size), H3.out.2.1.below hb, (hb.block _ (Array.getElem?_eq_some_iff.1 H3.out.2.2).1).trans H3.out.2.2⟩
  clear hb x0 x1 x2 x3 x4 x5 x6 x7 H3
  obtain ⟨x0, x1, x2, x3, x4, x5, x6, x7⟩ := bx8 H4.out.2.2
  cases y4
  · go_wp2
    go_ret
    exact ⟨by rw [HZ.out]; simp, H4.out.1⟩
  go_wp2_with fail
  refine (Q5 _ H4.out.2.1.bk).mono ?_
  rintro e w5 ⟨rfl, hb⟩
  have H5 : Hid (Below w.heap.size w w5 ∧ RGt w5 (.slice a0 g.ptns.length c0) (.slice a1 g.crss.length c1) (.slice a2 g.book.stocks.length c2) (.slice a3 g.book.lines.length c3) (.slice a4 g.dffs.length c4) (.slice a5 g.outs.length c5) g ∧ w5.heap[w.heap.size]? = some (.cells #[.string g.name, .int .i64 g.day, (.slice a0 g.ptns.length c0), (.slice a1 g.crss.length c1), (.slice a2 g.book.stocks.length c2), (.slice a3 g.book.lines.length c3), (.slice a4 g.dffs.length c4), (.slice a5 g.outs.length c5)] 47)) := ⟨H4.out.1.trans (hb.mono H4.out.1.size), H4.out.2.1.below hb, (hb.block _ (Array.getElem?_eq_some_iff.1 H4.out.2.2).1).trans H4.out.2.2⟩
  clear hb x0 x1 x2 x3 x4 x5 x6 x7 H4
  obtain ⟨x0, x1, x2, x3, x4, x5, x6, x7⟩ := bx8 H5.out.2.2
  cases y5
  · go_wp2
    go_ret
    exact ⟨by rw [HZ.out]; simp, H5.out.1⟩
  by_cases hd : g.dffs.length ≤ 200
  case neg =>
    have hd' : ¬ (g.dffs.length : Int) ≤ 200 := by omega
    have HD : Hid (dfB g = false) := decide_eq_false hd
    go_wp2
    go_ret
    exact ⟨by rw [HZ.out, HD.out]; simp, H5.out.1⟩
  have hd' : (g.dffs.length : Int) ≤ 200 := by omega
  have HD : Hid (dfB g = true) := decide_eq_true hd
  go_wp2_with fail
  refine (Q7 _ H5.out.2.1.ou).mono ?_
  rintro e w7 ⟨rfl, hb⟩
  have H7 : Hid (Below w.heap.size w w7 ∧ RGt w7 (.slice a0 g.ptns.length c0) (.slice a1 g.crss.length c1) (.slice a2 g.book.stocks.length c2) (.slice a3 g.book.lines.length c3) (.slice a4 g.dffs.length c4) (.slice a5 g.outs.length c5) g ∧ w7.heap[w.heap.size]? = some (.cells #[.string g.name, .int .i64 g.day, (.slice a0 g.ptns.length c0), (.slice a1 g.crss.length c1), (.slice a2 g.book.stocks.length c2), (.slice a3 g.book.lines.length c3), (.slice a4 g.dffs.length c4), (.slice a5 g.outs.length c5)] 47)) := ⟨H5.out.1.trans (hb.mono H5.out.1.size), H5.out.2.1.below hb, (hb.block _ (Array.getElem?_eq_some_iff.1 H5.out.2.2).1).trans H5.out.2.2⟩
  clear hb x0 x1 x2 x3 x4 x5 x6 x7 H5
  go_wp2
  go_ret
  exact ⟨by rw [HZ.out, HD.out]; cases y7 <;> rfl, H7.out.1⟩
end Go.Proofs.YtmffigmidlgigaaGreatDoor
