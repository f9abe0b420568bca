/- Texts of ours put together: OuC, OuR. -/
import Derived.Test.YtamlhbjcokkmeaaGreatDoorG31
namespace Go.Proofs.YtamlhbjcokkmeaaGreatDoor
open Go.ChangeShapes Go.WideShapes Go.ChangeAt Go.RowKit
open Go.Lib (compareBytes)
open Go.Sort
theorem fl_twoU (w : World) (a b : Obj) : ((w.alloc a).alloc b).heap[w.heap.size]? = some a ∧ ((w.alloc a).alloc b).heap[w.heap.size + 1]? = some b := by
  have e : ((w.alloc a).alloc b).heap = (w.heap.push a).push b := rfl
  rw [e]
  simp only [Array.getElem?_push, Array.size_push]
  refine ⟨?_, ?_⟩
  · rw [if_neg (by omega), if_pos trivial]
  · rw [if_pos trivial]
theorem cell_newU (W : World) (c : Array Value) (t i : Nat) (x : Value) (h : c[i]? = some x) : (W.alloc (.cells c t)).cell? ⟨W.heap.size, i, none⟩ = some x := by
  have e := World.alloc_heap_new W (.cells c t)
  unfold World.cell?
  rw [e]
  exact h
set_option maxRecDepth 100000 in
theorem compareString_anyU (a b : ByteArray) (w : World) : Calls Tryz.prog 145 #[.string a, .string b] w fun e w' => e = .returned (.int .i64 (compareBytes a.data.toList b.data.toList)) ∧ w' = w := by
  go_enter Tryz.func145, Tryz.ntmps145
  go_wp2
  rw [run_callFunc_extern Tryz.func164 (by kernel_rfl) (by kernel_rfl) (by kernel_rfl) (e := Extern.BytealgCompare.compare) (by kernel_rfl), Lib.run_compareString]
  simp only [Result.andThen]
  rw [Oper.upon_value]
  go_wp2
  go_ret
  exact ⟨rfl, rfl⟩
theorem compare_anyU (a b : ByteArray) (w : World) : Calls Tryz.prog 130 #[.string a, .string b] w fun e w' => e = .returned (.int .i64 (compareBytes a.data.toList b.data.toList)) ∧ w' = w := by
  go_enter Tryz.func130, Tryz.ntmps130
  go_wp2_with (go_at_call 145; refine (compareString_anyU _ _ _).mono ?_; rintro e w' ⟨rfl, rfl⟩)
  go_ret
  exact ⟨rfl, rfl⟩
theorem isNaN_anyU (x : Int) (w : World) : Calls Tryz.prog 146 #[.int .i64 x] w fun e w' => e = .returned (.bool false) ∧ w' = w := by
  go_enter Tryz.func146, Tryz.ntmps146
  go_wp2
  go_ret
  exact ⟨by first | rfl | simp, rfl⟩
theorem cmpI_anyU (x y : Int) (w : World) : Calls Tryz.prog 131 #[.int .i64 x, .int .i64 y] w fun e w' => e = .returned (.int .i64 (cmpZU x y)) ∧ w' = w := by
  rcases Int.lt_trichotomy x y with h | h | h
  · have HE : Hid (cmpZU x y = -1) := by show cmpZU x y = -1; unfold cmpZU; rw [if_pos h]
    go_enter Tryz.func131, Tryz.ntmps131
    go_wp2_with (go_at_call 146; refine (isNaN_anyU _ _).mono ?_; rintro e w' ⟨rfl, rfl⟩)
    go_ret
    exact ⟨by rw [HE.out]; rfl, rfl⟩
  · subst h
    have HE : Hid (cmpZU x x = 0) := by show cmpZU x x = 0; unfold cmpZU; rw [if_neg (by omega), if_neg (by omega)]
    go_enter Tryz.func131, Tryz.ntmps131
    go_wp2_with (go_at_call 146; refine (isNaN_anyU _ _).mono ?_; rintro e w' ⟨rfl, rfl⟩)
    go_ret
    exact ⟨by rw [HE.out]; rfl, rfl⟩
  · have HE : Hid (cmpZU x y = 1) := by show cmpZU x y = 1; unfold cmpZU; rw [if_neg (by omega), if_pos h]
    go_enter Tryz.func131, Tryz.ntmps131
    go_wp2_with (go_at_call 146; refine (isNaN_anyU _ _).mono ?_; rintro e w' ⟨rfl, rfl⟩)
    go_ret
    exact ⟨by rw [HE.out]; rfl, rfl⟩
set_option maxHeartbeats 1000000 in
/-- cmp.Or of two numbers. -/
theorem or2_any (x y : Int) (B : Nat) (w : World) (h0 : w.cell? ⟨B, 0, none⟩ = some (.int .i64 x)) (h1 : w.cell? ⟨B, 1, none⟩ = some (.int .i64 y)) :
    Calls Tryz.prog 129 #[.slice (some ⟨B, 0, none⟩) 2 2] w fun e w' => e = .returned (.int .i64 (orZU x y)) ∧ w' = w := by
  unfold orZU
  go_enter Tryz.func129, Tryz.ntmps129
  go_wp2
  by_cases hx : x = 0
  · subst hx
    by_cases hy : y = 0
    · subst hy
      go_loopw [8] (fun i wr => ∃ k : Nat, i = .int .i64 (k : Int) ∧ k ≤ 2 ∧ wr = w) (fun i _ => 2 - (intOf i).toNat)
      case atStart => exact ⟨0, rfl, by omega, rfl⟩
      case round =>
        obtain ⟨k, rfl, hk, rfl⟩ := hrel
        obtain rfl | rfl | rfl : k = 0 ∨ k = 1 ∨ k = 2 := by omega
        · go_wp2
          go_roundw
          case rel => exact ⟨1, by go_num, by omega, trivial⟩
          case measure => simp [intOf]
        · go_wp2
          go_roundw
          case rel => exact ⟨2, by go_num, by omega, trivial⟩
          case measure => simp [intOf]
        · go_wp2
          go_ret
          exact ⟨by first | rfl | simp, rfl⟩
    · go_loopw [8] (fun i wr => ∃ k : Nat, i = .int .i64 (k : Int) ∧ k ≤ 1 ∧ wr = w) (fun i _ => 2 - (intOf i).toNat)
      case atStart => exact ⟨0, rfl, by omega, rfl⟩
      case round =>
        obtain ⟨k, rfl, hk, rfl⟩ := hrel
        obtain rfl | rfl : k = 0 ∨ k = 1 := by omega
        · go_wp2
          go_roundw
          case rel => exact ⟨1, by go_num, by omega, trivial⟩
          case measure => simp [intOf]
        · go_wp2
          go_ret
          exact ⟨by first | rfl | simp, rfl⟩
  · go_loopw [8] (fun i wr => i = .int .i64 0 ∧ wr = w) (fun i _ => 2 - (intOf i).toNat)
    case atStart => exact ⟨rfl, rfl⟩
    case round =>
      obtain ⟨rfl, rfl⟩ := hrel
      go_wp2
      go_ret
      exact ⟨rfl, rfl⟩
set_option maxHeartbeats 4000000 in
/-- compare. -/
theorem ocmp_grows (a b : OutR) (w : World) : Calls Tryz.prog 107 #[.agg #[.string a.partner, .int .i64 a.number, .string a.text, .int .i64 a.tries, .int .i64 a.due], .agg #[.string b.partner, .int .i64 b.number, .string b.text, .int .i64 b.tries, .int .i64 b.due]] w fun e w' => e = .returned (.int .i64 (ocmp a b)) ∧ ∃ o1 o2 o3, w' = (((w.alloc o1).alloc o2).alloc o3).drew := by
  unfold ocmp
  obtain ⟨a_partner, a_number, a_text, a_tries, a_due⟩ := a
  obtain ⟨b_partner, b_number, b_text, b_tries, b_due⟩ := b
  dsimp only
  obtain ⟨W0, hW0⟩ : ∃ W0, ((w.alloc (.cells #[.string a_partner, .int .i64 a_number, .string a_text, .int .i64 a_tries, .int .i64 a_due] 111)).alloc (.cells #[.string b_partner, .int .i64 b_number, .string b_text, .int .i64 b_tries, .int .i64 b_due] 111)) = W0 := ⟨_, rfl⟩
  have HW : Hid (∃ o1 o2, W0 = (w.alloc o1).alloc o2) := ⟨_, _, hW0.symm⟩
  have hB : W0.heap.size = w.heap.size + 2 := by rw [← hW0]; simp
  go_enter Tryz.func107, Tryz.ntmps107
  go_upto_region 1 with fail
  try rw [hW0]
  obtain ⟨k0, k1⟩ := fl_twoU w (.cells #[.string a_partner, .int .i64 a_number, .string a_text, .int .i64 a_tries, .int .i64 a_due] 111) (.cells #[.string b_partner, .int .i64 b_number, .string b_text, .int .i64 b_tries, .int .i64 b_due] 111)
  rw [hW0] at k0 k1
  obtain ⟨z0, z1, _⟩ := box5 k0
  obtain ⟨y0, y1, _⟩ := box5 k1
  clear k0 k1 hW0
  have HN : Hid (∀ x y : Int, (W0.alloc (.cells #[.int .i64 x, .int .i64 y] 3)).drew.cell? ⟨w.heap.size + 2, 0, none⟩ = some (.int .i64 x) ∧ (W0.alloc (.cells #[.int .i64 x, .int .i64 y] 3)).drew.cell? ⟨w.heap.size + 2, 1, none⟩ = some (.int .i64 y)) := fun x y => by
    rw [← hB]
    exact ⟨cell_newU W0 _ _ 0 _ rfl, cell_newU W0 _ _ 1 _ rfl⟩
  go_region_held3 (fun W => W.cell? ⟨w.heap.size, 0, none⟩ = some (.string a_partner) ∧ W.cell? ⟨w.heap.size, 1, none⟩ = some (.int .i64 a_number) ∧ W.cell? ⟨w.heap.size + 1, 0, none⟩ = some (.string b_partner) ∧ W.cell? ⟨w.heap.size + 1, 1, none⟩ = some (.int .i64 b_number)) (go_keep) (first | (go_at_call 130; refine (compare_anyU _ _ _).mono ?_; rintro e w2 ⟨rfl, rfl⟩) | (go_at_call 131; refine (cmpI_anyU _ _ _).mono ?_; rintro e w2 ⟨rfl, rfl⟩) | (go_at_call 129; refine (or2_any _ _ _ _ (HN.out _ _).1 (HN.out _ _).2).mono ?_; rintro e w3 ⟨rfl, rfl⟩))
  rename_i hHeld
  clear hHeld
  go_wp2
  go_ret
  obtain ⟨o1, o2, e⟩ := HW.out
  exact ⟨rfl, o1, o2, _, by rw [e]⟩
theorem ocmp_any (a b : OutR) (w : World) : Calls Tryz.prog 107 #[.agg #[.string a.partner, .int .i64 a.number, .string a.text, .int .i64 a.tries, .int .i64 a.due], .agg #[.string b.partner, .int .i64 b.number, .string b.text, .int .i64 b.tries, .int .i64 b.due]] w fun e w' => e = .returned (.int .i64 (ocmp a b)) ∧ Below w.heap.size w w' :=
  (ocmp_grows a b w).mono fun _ _ ⟨he, o1, o2, o3, hw⟩ => ⟨he, by rw [hw]; exact ((((Below.refl _ _).alloc (Nat.le_refl _) _).alloc (by simp) _).alloc (by simp; omega) _).drew⟩
end Go.Proofs.YtamlhbjcokkmeaaGreatDoor
namespace Go.Proofs.YtamlhbjcokkmeaaGreatDoor
open Go.ChangeShapes Go.WideShapes Go.ChangeAt Go.RowKit
set_option maxHeartbeats 4000000 in
theorem outboxRight_impl (v : Value) (rs : List OutR) (w : World) (h : RowOu w v rs) : Calls Tryz.prog 68 #[v] w fun e w' => e = .returned (.bool (ousB rs)) ∧ Below w.heap.size w w' := by
  have hlen := h.len
  obtain ⟨A, Cp, rfl⟩ := h.val
  have H0 : Hid (RowOu w (.slice A rs.length Cp) rs) := h
  clear h
  go_enter Tryz.func68, Tryz.ntmps68
  by_cases hl : 60 < rs.length
  · have hl' : (60 : Int) < (rs.length : Int) := by omega
    have HN : Hid (ousB rs = false) := ousB_no fun h => by have := h.len; omega
    go_wp2
    go_ret
    exact ⟨by rw [HN.out]; rfl, Below.refl _ _⟩
  have hl' : ¬ (60 : Int) < (rs.length : Int) := by omega
  have hb0 : Below w.heap.size w (w.alloc (.cells #[.string zeroO.partner, .int .i64 zeroO.number, .string zeroO.text, .int .i64 zeroO.tries, .int .i64 zeroO.due] 111)) := (Below.refl _ _).alloc (Nat.le_refl _) _
  have hx0 : (w.alloc (.cells #[.string zeroO.partner, .int .i64 zeroO.number, .string zeroO.text, .int .i64 zeroO.tries, .int .i64 zeroO.due] 111)).heap[w.heap.size]? = some (.cells #[.string zeroO.partner, .int .i64 zeroO.number, .string zeroO.text, .int .i64 zeroO.tries, .int .i64 zeroO.due] 111) := World.alloc_heap_new _ _
  simp only [zeroO] at hb0 hx0
  have HZ : Hid _ := And.intro hb0 hx0
  clear hb0 hx0
  go_wp2_with fail
  go_loopw [12] (fun i wr => ∃ (k : Nat) (l : OutR), i = .int .i64 (k : Int) ∧ k ≤ rs.length ∧ Below w.heap.size w wr ∧ wr.heap[w.heap.size]? = some (.cells #[.string l.partner, .int .i64 l.number, .string l.text, .int .i64 l.tries, .int .i64 l.due] 111) ∧ (k = 0 → l = zeroO) ∧ (0 < k → rs[k - 1]? = some l) ∧ ∀ i c, i < k → rs[i]? = some c → OkO rs i c) (fun i _ => rs.length - (intOf i).toNat)
  case atStart => exact ⟨0, zeroO, rfl, by omega, HZ.out.1, HZ.out.2, fun _ => rfl, fun h => by omega, fun i c hi => by omega⟩
  case round =>
    obtain ⟨k, l, rfl, hk, hb, hbx, hl0, hl1, hok⟩ := hrel
    have HI : Hid (Below w.heap.size w wr ∧ wr.heap[w.heap.size]? = some (.cells #[.string l.partner, .int .i64 l.number, .string l.text, .int .i64 l.tries, .int .i64 l.due] 111) ∧ (k = 0 → l = zeroO) ∧ (0 < k → rs[k - 1]? = some l) ∧ ∀ i c, i < k → rs[i]? = some c → OkO rs i c) := ⟨hb, hbx, hl0, hl1, hok⟩
    have hsz : w.heap.size < wr.heap.size := (Array.getElem?_eq_some_iff.1 hbx).1
    clear hok hb hbx hl0 hl1
    by_cases hlt : k < rs.length
    · have hlt' : (k : Int) < (rs.length : Int) := by omega
      obtain ⟨b, o, cap', c, e, hs, ⟨q0, q1, q2, q3, q4⟩, hz⟩ := (H0.out.below HI.out.1).at hlt
      simp only [Value.slice.injEq, true_and] at e
      obtain ⟨rfl, rfl⟩ := e
      have HS : Hid (rs[k]? = some c) := hs
      clear hs
      obtain ⟨W1, hW1⟩ : ∃ W1, wr.alloc (.cells #[.string c.partner, .int .i64 c.number, .string c.text, .int .i64 c.tries, .int .i64 c.due] 111) = W1 := ⟨_, rfl⟩
      have ha : Below wr.heap.size wr W1 := by rw [← hW1]; exact (Below.refl _ _).alloc (Nat.le_refl _) _
      have hc1 : W1.heap[wr.heap.size]? = some (.cells #[.string c.partner, .int .i64 c.number, .string c.text, .int .i64 c.tries, .int .i64 c.due] 111) := by rw [← hW1]; exact World.alloc_heap_new _ _
      obtain ⟨C, hC⟩ : ∃ C, C = wr.heap.size := ⟨_, rfl⟩
      rw [← hC] at hc1
      have H1 : Hid (Below w.heap.size w W1 ∧ W1.heap[w.heap.size]? = some (.cells #[.string l.partner, .int .i64 l.number, .string l.text, .int .i64 l.tries, .int .i64 l.due] 111) ∧ W1.heap[C]? = some (.cells #[.string c.partner, .int .i64 c.number, .string c.text, .int .i64 c.tries, .int .i64 c.due] 111)) := ⟨HI.out.1.trans (ha.mono HI.out.1.size), (ha.block _ hsz).trans HI.out.2.1, hc1⟩
      have hCw : w.heap.size < C := by omega
      go_upto_region 7 with fail
      try rw [hW1]
      try rw [← hC]
      clear hW1 hc1 ha q0 q1 q2 q3 q4 hC hsz
      obtain ⟨c0, c1, c2, c3, c4⟩ := box5 H1.out.2.2
      obtain ⟨x, hx⟩ : ∃ x, x = ouB c := ⟨_, rfl⟩
      have Q1 := fun w => right_any c w hz.2
      clear hz
      rw [← hx] at Q1
      have HX : Hid (x = ouB c) := hx
      clear hx
      go_wp2_with fail
      refine (Q1 _).mono ?_
      rintro e w2 ⟨rfl, hb2⟩
      have H2 : Hid (Below w.heap.size w w2 ∧ w2.heap[w.heap.size]? = some (.cells #[.string l.partner, .int .i64 l.number, .string l.text, .int .i64 l.tries, .int .i64 l.due] 111) ∧ w2.heap[C]? = some (.cells #[.string c.partner, .int .i64 c.number, .string c.text, .int .i64 c.tries, .int .i64 c.due] 111)) := ⟨H1.out.1.trans (hb2.mono H1.out.1.size), (hb2.block _ (Array.getElem?_eq_some_iff.1 H1.out.2.1).1).trans H1.out.2.1, (hb2.block _ (Array.getElem?_eq_some_iff.1 H1.out.2.2).1).trans H1.out.2.2⟩
      clear hb2 c0 c1 c2 c3 c4 H1 Q1
      cases x with
      | false =>
        have HN : Hid (ousB rs = false) := ousB_no fun h => by
          have h1 := h.at_ k c HS.out
          have h2 := HX.out
          rw [ouB_yes h1.ok] at h2
          cases h2
        go_wp2
        go_ret
        exact ⟨by rw [HN.out]; rfl, H2.out.1⟩
      | true =>
        have Q2 := ocmp_any c l
        obtain ⟨z, hz⟩ : ∃ z, z = ocmp c l := ⟨_, rfl⟩
        rw [← hz] at Q2
        have HZ2 : Hid (z = ocmp c l) := hz
        clear hz
        obtain ⟨c0, c1, c2, c3, c4⟩ := box5 H2.out.2.2
        obtain ⟨d0, d1, d2, d3, d4⟩ := box5 H2.out.2.1
        go_wp2_with fail
        refine (Q2 _).mono ?_
        rintro e w3 ⟨rfl, hb3⟩
        have H3 : Hid (Below w.heap.size w w3 ∧ w3.heap[w.heap.size]? = some (.cells #[.string l.partner, .int .i64 l.number, .string l.text, .int .i64 l.tries, .int .i64 l.due] 111) ∧ w3.heap[C]? = some (.cells #[.string c.partner, .int .i64 c.number, .string c.text, .int .i64 c.tries, .int .i64 c.due] 111)) := ⟨H2.out.1.trans (hb3.mono H2.out.1.size), (hb3.block _ (Array.getElem?_eq_some_iff.1 H2.out.2.1).1).trans H2.out.2.1, (hb3.block _ (Array.getElem?_eq_some_iff.1 H2.out.2.2).1).trans H2.out.2.2⟩
        clear hb3 c0 c1 c2 c3 c4 d0 d1 d2 d3 d4 H2 Q2
        by_cases hz : z ≤ 0
        · have HN : Hid (ousB rs = false) := ousB_no fun h => by
            have h1 := h.at_ k c HS.out
            have h2 : 0 < ocmp c l := by
              rcases Nat.eq_zero_or_pos k with k0 | k0
              · rw [HI.out.2.2.1 k0]
                exact ocmp_first h1.ok.p
              · rw [ocmp_pos]
                exact h1.rise l k0 (HI.out.2.2.2.1 k0)
            have h3 := HZ2.out
            omega
          go_wp2
          go_ret
          exact ⟨by rw [HN.out]; rfl, H3.out.1⟩
        · have HN : Hid (OkO rs k c) := by
            refine ⟨ouB_iff.1 HX.out.symm, fun d k0 hd => ?_⟩
            have h4 := HI.out.2.2.2.1 k0
            rw [h4] at hd
            cases hd
            rw [← ocmp_pos, ← HZ2.out]
            omega
          obtain ⟨c0, c1, c2, c3, c4⟩ := box5 H3.out.2.2
          obtain ⟨d0, d1, d2, d3, d4⟩ := box5 H3.out.2.1
          have hfr : ∀ o, w3.frozen? ⟨w.heap.size, o, none⟩ = false := fun o => by simp [World.frozen?, H3.out.2.1]
          go_wp2
          go_roundw
          case rel =>
            refine ⟨k + 1, c, by go_num, by omega, ?_, set5 H3.out.2.1, fun h => by omega, fun _ => by simpa using HS.out, fun i y hi hy => ?_⟩
            · exact (((((H3.out.1.setCell (Nat.le_refl _) _).setCell (Nat.le_refl _) _).setCell (Nat.le_refl _) _).setCell (Nat.le_refl _) _).setCell (Nat.le_refl _) _)
            rcases Nat.lt_or_ge i k with g | g
            · exact HI.out.2.2.2.2 i y g hy
            · obtain rfl : i = k := by omega
              rw [HS.out] at hy
              cases hy
              exact HN.out
          case measure => simp [intOf]; omega
    · obtain rfl : k = rs.length := by omega
      have HN : Hid (ousB rs = true) := ousB_yes ⟨by omega, fun i c hc => HI.out.2.2.2.2 i c (List.getElem?_eq_some_iff.1 hc).1 hc⟩
      go_wp2
      go_ret
      exact ⟨by rw [HN.out]; rfl, HI.out.1⟩
end Go.Proofs.YtamlhbjcokkmeaaGreatDoor
