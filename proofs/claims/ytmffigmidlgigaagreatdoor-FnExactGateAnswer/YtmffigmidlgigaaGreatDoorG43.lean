/- Texts of ours put together: LnC, LnR. -/
import Derived.Test.YtmffigmidlgigaaGreatDoorG42
import Derived.Shelf.RegionOpen
import Derived.Deep.QuietTactic
import Derived.BigQuiet
import Derived.BigRegion
import Derived.Deep.RegionHeld3
namespace Go.Proofs.YtmffigmidlgigaaGreatDoor
open Go.ChangeShapes Go.WideShapes Go.ChangeAt Go.RowKit
open Go.Lib (compareBytes)
theorem fl_two (w : World) (a b : Obj) : ((w.alloc a).alloc b).heap[w.heap.size]? = some a ∧ ((w.alloc a).alloc b).heap[w.heap.size + 1]? = some b := by
  have e : ((w.alloc a).alloc b).heap = (w.heap.push a).push b := rfl
  rw [e]
  simp only [Array.getElem?_push, Array.size_push]
  refine ⟨?_, ?_⟩
  · rw [if_neg (by omega), if_pos trivial]
  · rw [if_pos trivial]
theorem cell_new (W : World) (c : Array Value) (t i : Nat) (x : Value) (h : c[i]? = some x) : (W.alloc (.cells c t)).cell? ⟨W.heap.size, i, none⟩ = some x := by
  have e := World.alloc_heap_new W (.cells c t)
  unfold World.cell?
  rw [e]
  exact h
set_option maxRecDepth 100000 in
theorem compareString_any (a b : ByteArray) (w : World) : Calls Tryz.prog 124 #[.string a, .string b] w fun e w' => e = .returned (.int .i64 (compareBytes a.data.toList b.data.toList)) ∧ w' = w := by
  go_enter Tryz.func124, Tryz.ntmps124
  go_wp2
  rw [run_callFunc_extern Tryz.func132 (by kernel_rfl) (by kernel_rfl) (by kernel_rfl) (e := Extern.BytealgCompare.compare) (by kernel_rfl), Lib.run_compareString]
  simp only [Result.andThen]
  rw [Oper.upon_value]
  go_wp2
  go_ret
  exact ⟨rfl, rfl⟩
theorem compare_any (a b : ByteArray) (w : World) : Calls Tryz.prog 114 #[.string a, .string b] w fun e w' => e = .returned (.int .i64 (compareBytes a.data.toList b.data.toList)) ∧ w' = w := by
  go_enter Tryz.func114, Tryz.ntmps114
  go_wp2_with (go_at_call 124; refine (compareString_any _ _ _).mono ?_; rintro e w' ⟨rfl, rfl⟩)
  go_ret
  exact ⟨rfl, rfl⟩
theorem isNaN_any (x : Int) (w : World) : Calls Tryz.prog 125 #[.int .i64 x] w fun e w' => e = .returned (.bool false) ∧ w' = w := by
  go_enter Tryz.func125, Tryz.ntmps125
  go_wp2
  go_ret
  exact ⟨by first | rfl | simp, rfl⟩
theorem cmpI_any (x y : Int) (w : World) : Calls Tryz.prog 115 #[.int .i64 x, .int .i64 y] w fun e w' => e = .returned (.int .i64 (cmpZ x y)) ∧ w' = w := by
  rcases Int.lt_trichotomy x y with h | h | h
  · have HE : Hid (cmpZ x y = -1) := by show cmpZ x y = -1; unfold cmpZ; rw [if_pos h]
    go_enter Tryz.func115, Tryz.ntmps115
    go_wp2_with (go_at_call 125; refine (isNaN_any _ _).mono ?_; rintro e w' ⟨rfl, rfl⟩)
    go_ret
    exact ⟨by rw [HE.out]; rfl, rfl⟩
  · subst h
    have HE : Hid (cmpZ x x = 0) := by show cmpZ x x = 0; unfold cmpZ; rw [if_neg (by omega), if_neg (by omega)]
    go_enter Tryz.func115, Tryz.ntmps115
    go_wp2_with (go_at_call 125; refine (isNaN_any _ _).mono ?_; rintro e w' ⟨rfl, rfl⟩)
    go_ret
    exact ⟨by rw [HE.out]; rfl, rfl⟩
  · have HE : Hid (cmpZ x y = 1) := by show cmpZ x y = 1; unfold cmpZ; rw [if_neg (by omega), if_pos h]
    go_enter Tryz.func115, Tryz.ntmps115
    go_wp2_with (go_at_call 125; refine (isNaN_any _ _).mono ?_; rintro e w' ⟨rfl, rfl⟩)
    go_ret
    exact ⟨by rw [HE.out]; rfl, rfl⟩
set_option maxHeartbeats 1000000 in
/-- cmp.Or of three numbers. -/
theorem or3_any (x y z : Int) (B : Nat) (w : World) (h0 : w.cell? ⟨B, 0, none⟩ = some (.int .i64 x)) (h1 : w.cell? ⟨B, 1, none⟩ = some (.int .i64 y)) (h2 : w.cell? ⟨B, 2, none⟩ = some (.int .i64 z)) :
    Calls Tryz.prog 113 #[.slice (some ⟨B, 0, none⟩) 3 3] w fun e w' => e = .returned (.int .i64 (orZ x (orZ y z))) ∧ w' = w := by
  unfold orZ
  go_enter Tryz.func113, Tryz.ntmps113
  go_wp2
  by_cases hx : x = 0
  · subst hx
    by_cases hy : y = 0
    · subst hy
      by_cases hz : z = 0
      · subst hz
        go_loopw [8] (fun i wr => ∃ k : Nat, i = .int .i64 (k : Int) ∧ k ≤ 3 ∧ wr = w) (fun i _ => 3 - (intOf i).toNat)
        case atStart => exact ⟨0, rfl, by omega, rfl⟩
        case round =>
          obtain ⟨k, rfl, hk, rfl⟩ := hrel
          obtain rfl | rfl | rfl | rfl : k = 0 ∨ k = 1 ∨ k = 2 ∨ k = 3 := by omega
          · go_wp2
            go_roundw
            case rel => exact ⟨1, by go_num, by omega, trivial⟩
            case measure => simp [intOf]
          · go_wp2
            go_roundw
            case rel => exact ⟨2, by go_num, by omega, trivial⟩
            case measure => simp [intOf]
          · go_wp2
            go_roundw
            case rel => exact ⟨3, by go_num, by omega, trivial⟩
            case measure => simp [intOf]
          · go_wp2
            go_ret
            exact ⟨by first | rfl | simp, rfl⟩
      · go_loopw [8] (fun i wr => ∃ k : Nat, i = .int .i64 (k : Int) ∧ k ≤ 2 ∧ wr = w) (fun i _ => 3 - (intOf i).toNat)
        case atStart => exact ⟨0, rfl, by omega, rfl⟩
        case round =>
          obtain ⟨k, rfl, hk, rfl⟩ := hrel
          obtain rfl | rfl | rfl : k = 0 ∨ k = 1 ∨ k = 2 := by omega
          · go_wp2
            go_roundw
            case rel => exact ⟨1, by go_num, by omega, trivial⟩
            case measure => simp [intOf]
          · go_wp2
            go_roundw
            case rel => exact ⟨2, by go_num, by omega, trivial⟩
            case measure => simp [intOf]
          · go_wp2
            go_ret
            exact ⟨by first | rfl | simp, rfl⟩
    · go_loopw [8] (fun i wr => ∃ k : Nat, i = .int .i64 (k : Int) ∧ k ≤ 1 ∧ wr = w) (fun i _ => 3 - (intOf i).toNat)
      case atStart => exact ⟨0, rfl, by omega, rfl⟩
      case round =>
        obtain ⟨k, rfl, hk, rfl⟩ := hrel
        obtain rfl | rfl : k = 0 ∨ k = 1 := by omega
        · go_wp2
          go_roundw
          case rel => exact ⟨1, by go_num, by omega, trivial⟩
          case measure => simp [intOf]
        · go_wp2
          go_ret
          exact ⟨by first | rfl | simp, rfl⟩
  · go_loopw [8] (fun i wr => i = .int .i64 0 ∧ wr = w) (fun i _ => 3 - (intOf i).toNat)
    case atStart => exact ⟨rfl, rfl⟩
    case round =>
      obtain ⟨rfl, rfl⟩ := hrel
      go_wp2
      go_ret
      exact ⟨rfl, rfl⟩
set_option maxHeartbeats 4000000 in
/-- compare. -/
theorem lcmp_grows (a b : OLn) (w : World) : Calls Tryz.prog 112 #[.agg #[.string a.partner, .string a.ref, .int .i64 a.no, .string a.item, .int .i64 a.ordered, .int .i64 a.sent, .int .i64 a.got, .int .i64 a.cut], .agg #[.string b.partner, .string b.ref, .int .i64 b.no, .string b.item, .int .i64 b.ordered, .int .i64 b.sent, .int .i64 b.got, .int .i64 b.cut]] w fun e w' => e = .returned (.int .i64 (lcmp a b)) ∧ ∃ o1 o2 o3, w' = (((w.alloc o1).alloc o2).alloc o3).drew := by
  unfold lcmp
  obtain ⟨a_partner, a_ref, a_no, a_item, a_ordered, a_sent, a_got, a_cut⟩ := a
  obtain ⟨b_partner, b_ref, b_no, b_item, b_ordered, b_sent, b_got, b_cut⟩ := b
  dsimp only
  obtain ⟨W0, hW0⟩ : ∃ W0, ((w.alloc (.cells #[.string a_partner, .string a_ref, .int .i64 a_no, .string a_item, .int .i64 a_ordered, .int .i64 a_sent, .int .i64 a_got, .int .i64 a_cut] 143)).alloc (.cells #[.string b_partner, .string b_ref, .int .i64 b_no, .string b_item, .int .i64 b_ordered, .int .i64 b_sent, .int .i64 b_got, .int .i64 b_cut] 143)) = W0 := ⟨_, rfl⟩
  have HW : Hid (∃ o1 o2, W0 = (w.alloc o1).alloc o2) := ⟨_, _, hW0.symm⟩
  have hB : W0.heap.size = w.heap.size + 2 := by rw [← hW0]; simp
  go_enter Tryz.func112, Tryz.ntmps112
  go_upto_region 1 with fail
  try rw [hW0]
  obtain ⟨k0, k1⟩ := fl_two w (.cells #[.string a_partner, .string a_ref, .int .i64 a_no, .string a_item, .int .i64 a_ordered, .int .i64 a_sent, .int .i64 a_got, .int .i64 a_cut] 143) (.cells #[.string b_partner, .string b_ref, .int .i64 b_no, .string b_item, .int .i64 b_ordered, .int .i64 b_sent, .int .i64 b_got, .int .i64 b_cut] 143)
  rw [hW0] at k0 k1
  obtain ⟨z0, z1, z2, _⟩ := box8 k0
  obtain ⟨y0, y1, y2, _⟩ := box8 k1
  clear k0 k1 hW0
  have HN : Hid (∀ x y z : Int, (W0.alloc (.cells #[.int .i64 x, .int .i64 y, .int .i64 z] 3)).drew.cell? ⟨w.heap.size + 2, 0, none⟩ = some (.int .i64 x) ∧ (W0.alloc (.cells #[.int .i64 x, .int .i64 y, .int .i64 z] 3)).drew.cell? ⟨w.heap.size + 2, 1, none⟩ = some (.int .i64 y) ∧ (W0.alloc (.cells #[.int .i64 x, .int .i64 y, .int .i64 z] 3)).drew.cell? ⟨w.heap.size + 2, 2, none⟩ = some (.int .i64 z)) := fun x y z => by
    rw [← hB]
    exact ⟨cell_new W0 _ _ 0 _ rfl, cell_new W0 _ _ 1 _ rfl, cell_new W0 _ _ 2 _ rfl⟩
  go_region_held3 (fun W => W.cell? ⟨w.heap.size, 0, none⟩ = some (.string a_partner) ∧ W.cell? ⟨w.heap.size, 1, none⟩ = some (.string a_ref) ∧ W.cell? ⟨w.heap.size, 2, none⟩ = some (.int .i64 a_no) ∧ W.cell? ⟨w.heap.size + 1, 0, none⟩ = some (.string b_partner) ∧ W.cell? ⟨w.heap.size + 1, 1, none⟩ = some (.string b_ref) ∧ W.cell? ⟨w.heap.size + 1, 2, none⟩ = some (.int .i64 b_no)) (go_keep) (first | (go_at_call 114; refine (compare_any _ _ _).mono ?_; rintro e w2 ⟨rfl, rfl⟩) | (go_at_call 115; refine (cmpI_any _ _ _).mono ?_; rintro e w2 ⟨rfl, rfl⟩) | (go_at_call 113; refine (or3_any _ _ _ _ _ (HN.out _ _ _).1 (HN.out _ _ _).2.1 (HN.out _ _ _).2.2).mono ?_; rintro e w3 ⟨rfl, rfl⟩))
  rename_i hHeld
  clear hHeld
  go_wp2
  go_ret
  obtain ⟨o1, o2, e⟩ := HW.out
  exact ⟨rfl, o1, o2, _, by rw [e]⟩
theorem lcmp_any (a b : OLn) (w : World) : Calls Tryz.prog 112 #[.agg #[.string a.partner, .string a.ref, .int .i64 a.no, .string a.item, .int .i64 a.ordered, .int .i64 a.sent, .int .i64 a.got, .int .i64 a.cut], .agg #[.string b.partner, .string b.ref, .int .i64 b.no, .string b.item, .int .i64 b.ordered, .int .i64 b.sent, .int .i64 b.got, .int .i64 b.cut]] w fun e w' => e = .returned (.int .i64 (lcmp a b)) ∧ Below w.heap.size w w' :=
  (lcmp_grows a b w).mono fun _ _ ⟨he, o1, o2, o3, hw⟩ => ⟨he, by rw [hw]; exact ((((Below.refl _ _).alloc (Nat.le_refl _) _).alloc (by simp) _).alloc (by simp; omega) _).drew⟩
end Go.Proofs.YtmffigmidlgigaaGreatDoor
namespace Go.Proofs.YtmffigmidlgigaaGreatDoor
open Go.ChangeShapes Go.WideShapes Go.ChangeAt Go.RowKit
theorem set8 {W : World} {b t : Nat} {x0 x1 x2 x3 x4 x5 x6 x7 y0 y1 y2 y3 y4 y5 y6 y7 : Value} (h : W.heap[b]? = some (.cells #[x0, x1, x2, x3, x4, x5, x6, x7] t)) :
    ((((((((W.setCell ⟨b, 0, none⟩ y0).setCell ⟨b, 1, none⟩ y1).setCell ⟨b, 2, none⟩ y2).setCell ⟨b, 3, none⟩ y3).setCell ⟨b, 4, none⟩ y4).setCell ⟨b, 5, none⟩ y5).setCell ⟨b, 6, none⟩ y6).setCell ⟨b, 7, none⟩ y7).heap[b]? = some (.cells #[y0, y1, y2, y3, y4, y5, y6, y7] t) := by
  simp [World.setCell, Array.getElem?_modify, h]
set_option maxHeartbeats 4000000 in
theorem linesRight_impl (v : Value) (rs : List OLn) (w : World) (h : RowOl w v rs) : Calls Tryz.prog 95 #[v] w fun e w' => e = .returned (.bool (lnsB rs)) ∧ Below w.heap.size w w' := by
  have hlen := h.len
  obtain ⟨A, Cp, rfl⟩ := h.val
  have H0 : Hid (RowOl w (.slice A rs.length Cp) rs) := h
  clear h
  go_enter Tryz.func95, Tryz.ntmps95
  by_cases hl : 200 < rs.length
  · have hl' : (200 : Int) < (rs.length : Int) := by omega
    have HN : Hid (lnsB rs = false) := lnsB_no fun h => by have := h.len; omega
    go_wp2
    go_ret
    exact ⟨by rw [HN.out]; rfl, Below.refl _ _⟩
  have hl' : ¬ (200 : Int) < (rs.length : Int) := by omega
  have hb0 : Below w.heap.size w (w.alloc (.cells #[.string zeroL.partner, .string zeroL.ref, .int .i64 zeroL.no, .string zeroL.item, .int .i64 zeroL.ordered, .int .i64 zeroL.sent, .int .i64 zeroL.got, .int .i64 zeroL.cut] 143)) := (Below.refl _ _).alloc (Nat.le_refl _) _
  have hx0 : (w.alloc (.cells #[.string zeroL.partner, .string zeroL.ref, .int .i64 zeroL.no, .string zeroL.item, .int .i64 zeroL.ordered, .int .i64 zeroL.sent, .int .i64 zeroL.got, .int .i64 zeroL.cut] 143)).heap[w.heap.size]? = some (.cells #[.string zeroL.partner, .string zeroL.ref, .int .i64 zeroL.no, .string zeroL.item, .int .i64 zeroL.ordered, .int .i64 zeroL.sent, .int .i64 zeroL.got, .int .i64 zeroL.cut] 143) := World.alloc_heap_new _ _
  simp only [zeroL] at hb0 hx0
  have HZ : Hid _ := And.intro hb0 hx0
  clear hb0 hx0
  go_wp2_with fail
  go_loopw [12] (fun i wr => ∃ (k : Nat) (l : OLn), i = .int .i64 (k : Int) ∧ k ≤ rs.length ∧ Below w.heap.size w wr ∧ wr.heap[w.heap.size]? = some (.cells #[.string l.partner, .string l.ref, .int .i64 l.no, .string l.item, .int .i64 l.ordered, .int .i64 l.sent, .int .i64 l.got, .int .i64 l.cut] 143) ∧ (k = 0 → l = zeroL) ∧ (0 < k → rs[k - 1]? = some l) ∧ ∀ i c, i < k → rs[i]? = some c → OkL rs i c) (fun i _ => rs.length - (intOf i).toNat)
  case atStart => exact ⟨0, zeroL, rfl, by omega, HZ.out.1, HZ.out.2, fun _ => rfl, fun h => by omega, fun i c hi => by omega⟩
  case round =>
    obtain ⟨k, l, rfl, hk, hb, hbx, hl0, hl1, hok⟩ := hrel
    have HI : Hid (Below w.heap.size w wr ∧ wr.heap[w.heap.size]? = some (.cells #[.string l.partner, .string l.ref, .int .i64 l.no, .string l.item, .int .i64 l.ordered, .int .i64 l.sent, .int .i64 l.got, .int .i64 l.cut] 143) ∧ (k = 0 → l = zeroL) ∧ (0 < k → rs[k - 1]? = some l) ∧ ∀ i c, i < k → rs[i]? = some c → OkL rs i c) := ⟨hb, hbx, hl0, hl1, hok⟩
    have hsz : w.heap.size < wr.heap.size := (Array.getElem?_eq_some_iff.1 hbx).1
    clear hok hb hbx hl0 hl1
    by_cases hlt : k < rs.length
    · have hlt' : (k : Int) < (rs.length : Int) := by omega
      obtain ⟨b, o, cap', c, e, hs, ⟨q0, q1, q2, q3, q4, q5, q6, q7⟩, hz⟩ := (H0.out.below HI.out.1).at hlt
      simp only [Value.slice.injEq, true_and] at e
      obtain ⟨rfl, rfl⟩ := e
      have HS : Hid (rs[k]? = some c) := hs
      clear hs hz
      obtain ⟨W1, hW1⟩ : ∃ W1, wr.alloc (.cells #[.string c.partner, .string c.ref, .int .i64 c.no, .string c.item, .int .i64 c.ordered, .int .i64 c.sent, .int .i64 c.got, .int .i64 c.cut] 143) = W1 := ⟨_, rfl⟩
      have ha : Below wr.heap.size wr W1 := by rw [← hW1]; exact (Below.refl _ _).alloc (Nat.le_refl _) _
      have hc1 : W1.heap[wr.heap.size]? = some (.cells #[.string c.partner, .string c.ref, .int .i64 c.no, .string c.item, .int .i64 c.ordered, .int .i64 c.sent, .int .i64 c.got, .int .i64 c.cut] 143) := by rw [← hW1]; exact World.alloc_heap_new _ _
      obtain ⟨C, hC⟩ : ∃ C, C = wr.heap.size := ⟨_, rfl⟩
      rw [← hC] at hc1
      have H1 : Hid (Below w.heap.size w W1 ∧ W1.heap[w.heap.size]? = some (.cells #[.string l.partner, .string l.ref, .int .i64 l.no, .string l.item, .int .i64 l.ordered, .int .i64 l.sent, .int .i64 l.got, .int .i64 l.cut] 143) ∧ W1.heap[C]? = some (.cells #[.string c.partner, .string c.ref, .int .i64 c.no, .string c.item, .int .i64 c.ordered, .int .i64 c.sent, .int .i64 c.got, .int .i64 c.cut] 143)) := ⟨HI.out.1.trans (ha.mono HI.out.1.size), (ha.block _ hsz).trans HI.out.2.1, hc1⟩
      have hCw : w.heap.size < C := by omega
      go_upto_region 7 with fail
      try rw [hW1]
      try rw [← hC]
      clear hW1 hc1 ha q0 q1 q2 q3 q4 q5 q6 q7 hC hsz
      obtain ⟨c0, c1, c2, c3, c4, c5, c6, c7⟩ := box8 H1.out.2.2
      obtain ⟨x, hx⟩ : ∃ x, x = lnB c := ⟨_, rfl⟩
      have Q1 := lineRight_impl c
      rw [← hx] at Q1
      have HX : Hid (x = lnB c) := hx
      clear hx
      go_wp2_with fail
      refine (Q1 _).mono ?_
      rintro e w2 ⟨rfl, hb2⟩
      have H2 : Hid (Below w.heap.size w w2 ∧ w2.heap[w.heap.size]? = some (.cells #[.string l.partner, .string l.ref, .int .i64 l.no, .string l.item, .int .i64 l.ordered, .int .i64 l.sent, .int .i64 l.got, .int .i64 l.cut] 143) ∧ w2.heap[C]? = some (.cells #[.string c.partner, .string c.ref, .int .i64 c.no, .string c.item, .int .i64 c.ordered, .int .i64 c.sent, .int .i64 c.got, .int .i64 c.cut] 143)) := ⟨H1.out.1.trans (hb2.mono H1.out.1.size), (hb2.block _ (Array.getElem?_eq_some_iff.1 H1.out.2.1).1).trans H1.out.2.1, (hb2.block _ (Array.getElem?_eq_some_iff.1 H1.out.2.2).1).trans H1.out.2.2⟩
      clear hb2 c0 c1 c2 c3 c4 c5 c6 c7 H1 Q1
      cases x with
      | false =>
        have HN : Hid (lnsB rs = false) := lnsB_no fun h => by
          have h1 := h.at_ k c HS.out
          have h2 := HX.out
          rw [lnB_yes h1.ok] at h2
          cases h2
        go_wp2
        go_ret
        exact ⟨by rw [HN.out]; rfl, H2.out.1⟩
      | true =>
        have Q2 := lcmp_any c l
        obtain ⟨z, hz⟩ : ∃ z, z = lcmp c l := ⟨_, rfl⟩
        rw [← hz] at Q2
        have HZ2 : Hid (z = lcmp c l) := hz
        clear hz
        obtain ⟨c0, c1, c2, c3, c4, c5, c6, c7⟩ := box8 H2.out.2.2
        obtain ⟨d0, d1, d2, d3, d4, d5, d6, d7⟩ := box8 H2.out.2.1
        go_wp2_with fail
        refine (Q2 _).mono ?_
        rintro e w3 ⟨rfl, hb3⟩
        have H3 : Hid (Below w.heap.size w w3 ∧ w3.heap[w.heap.size]? = some (.cells #[.string l.partner, .string l.ref, .int .i64 l.no, .string l.item, .int .i64 l.ordered, .int .i64 l.sent, .int .i64 l.got, .int .i64 l.cut] 143) ∧ w3.heap[C]? = some (.cells #[.string c.partner, .string c.ref, .int .i64 c.no, .string c.item, .int .i64 c.ordered, .int .i64 c.sent, .int .i64 c.got, .int .i64 c.cut] 143)) := ⟨H2.out.1.trans (hb3.mono H2.out.1.size), (hb3.block _ (Array.getElem?_eq_some_iff.1 H2.out.2.1).1).trans H2.out.2.1, (hb3.block _ (Array.getElem?_eq_some_iff.1 H2.out.2.2).1).trans H2.out.2.2⟩
        clear hb3 c0 c1 c2 c3 c4 c5 c6 c7 d0 d1 d2 d3 d4 d5 d6 d7 H2 Q2
        by_cases hz : z ≤ 0
        · have HN : Hid (lnsB rs = false) := lnsB_no fun h => by
            have h1 := h.at_ k c HS.out
            have h2 : 0 < lcmp c l := by
              rcases Nat.eq_zero_or_pos k with k0 | k0
              · rw [HI.out.2.2.1 k0]
                exact lcmp_first h1.ok.p
              · rw [lcmp_pos]
                exact h1.rise l k0 (HI.out.2.2.2.1 k0)
            have h3 := HZ2.out
            omega
          go_wp2
          go_ret
          exact ⟨by rw [HN.out]; rfl, H3.out.1⟩
        · have HN : Hid (OkL rs k c) := by
            refine ⟨lnB_iff.1 HX.out.symm, fun d k0 hd => ?_⟩
            have h4 := HI.out.2.2.2.1 k0
            rw [h4] at hd
            cases hd
            rw [← lcmp_pos, ← HZ2.out]
            omega
          obtain ⟨c0, c1, c2, c3, c4, c5, c6, c7⟩ := box8 H3.out.2.2
          obtain ⟨d0, d1, d2, d3, d4, d5, d6, d7⟩ := box8 H3.out.2.1
          have hfr : ∀ o, w3.frozen? ⟨w.heap.size, o, none⟩ = false := fun o => by simp [World.frozen?, H3.out.2.1]
          go_wp2
          go_roundw
          case rel =>
            refine ⟨k + 1, c, by go_num, by omega, ?_, set8 H3.out.2.1, fun h => by omega, fun _ => by simpa using HS.out, fun i y hi hy => ?_⟩
            · exact ((((((((H3.out.1.setCell (Nat.le_refl _) _).setCell (Nat.le_refl _) _).setCell (Nat.le_refl _) _).setCell (Nat.le_refl _) _).setCell (Nat.le_refl _) _).setCell (Nat.le_refl _) _).setCell (Nat.le_refl _) _).setCell (Nat.le_refl _) _)
            rcases Nat.lt_or_ge i k with g | g
            · exact HI.out.2.2.2.2 i y g hy
            · obtain rfl : i = k := by omega
              rw [HS.out] at hy
              cases hy
              exact HN.out
          case measure => simp [intOf]; omega
    · obtain rfl : k = rs.length := by omega
      have HN : Hid (lnsB rs = true) := lnsB_yes ⟨by omega, fun i c hc => HI.out.2.2.2.2 i c (List.getElem?_eq_some_iff.1 hc).1 hc⟩
      go_wp2
      go_ret
      exact ⟨by rw [HN.out]; rfl, HI.out.1⟩
end Go.Proofs.YtmffigmidlgigaaGreatDoor
