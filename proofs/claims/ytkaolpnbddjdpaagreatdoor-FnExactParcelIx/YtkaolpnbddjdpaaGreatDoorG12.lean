/- Texts of ours put together: PiJ. -/
import Derived.Test.YtkaolpnbddjdpaaGreatDoorG08
import Derived.Deep.RegionHeld3
namespace Go.Proofs.YtkaolpnbddjdpaaGreatDoor
open Go.ChangeShapes Go.WideShapes Go.ChangeAt Go.RowKit
theorem bx4 {W : World} {B t : Nat} {a0 a1 a2 a3 : Value} (h : W.heap[B]? = some (.cells #[a0, a1, a2, a3] t)) : W.cell? ⟨B, 0, none⟩ = some a0 ∧ W.cell? ⟨B, 1, none⟩ = some a1 ∧ W.cell? ⟨B, 2, none⟩ = some a2 ∧ W.cell? ⟨B, 3, none⟩ = some a3 := by
  simp [World.cell?, h]
theorem frz5 {W : World} {B t : Nat} {cs : Array Value} (h : W.heap[B]? = some (.cells cs t)) : ∀ o, W.frozen? ⟨B, o, none⟩ = false := fun o => by simp [World.frozen?, h]
theorem thr_new (w : World) (a b c : Obj) : (((w.alloc a).alloc b).alloc c).heap[w.heap.size]? = some a ∧ (((w.alloc a).alloc b).alloc c).heap[w.heap.size + 1]? = some b ∧ (((w.alloc a).alloc b).alloc c).heap[w.heap.size + 2]? = some c := by
  have e : (((w.alloc a).alloc b).alloc c).heap = ((w.heap.push a).push b).push c := rfl
  rw [e]
  simp only [Array.getElem?_push, Array.size_push]
  refine ⟨?_, ?_, ?_⟩
  · rw [if_neg (by omega), if_neg (by omega), if_pos trivial]
  · rw [if_neg (by omega), if_pos trivial]
  · rw [if_pos trivial]
/-- A text that tells a number, or a missing one. -/
def NumW (t : ByteArray) (n : Int) : Prop := (numT t.data.toList = some n ∧ i64B n) ∨ (t = eT ∧ n = 0)
theorem ErrsAt.drewP {w : World} (h : ErrsAt w) : ErrsAt w.drew := h.below (Below.refl _ _).drew
set_option maxRecDepth 20000 in
set_option maxHeartbeats 8000000 in
theorem line_order (a0 a1 a2 a3 : ByteArray) (n0 n2 n3 : Int) (w : World) (hz0 : a0.size ≤ 281474976710656) (hn0 : NumW a0 n0) (hz2 : a2.size ≤ 281474976710656) (hn2 : NumW a2 n2) (hz3 : a3.size ≤ 281474976710656) (hn3 : NumW a3 n3) (hE : ErrsAt w) : Calls Tryz.prog 268 #[.agg #[], .agg #[.string a0, .string a1, .string a2, .string a3]] w fun e w' => e = .returned (.agg #[.int .i64 n0, .string a1, .int .i64 n2, .int .i64 n3, .string ⟨#[]⟩]) ∧ Below w.heap.size w w' := by
  obtain ⟨W0, hW0⟩ : ∃ W0, ((w.alloc (.cells #[] 198)).alloc (.cells #[.string a0, .string a1, .string a2, .string a3] 217)).alloc (.cells #[.int .i64 0, .string ⟨#[]⟩, .int .i64 0, .int .i64 0, .string ⟨#[]⟩] 121) = W0 := ⟨_, rfl⟩
  have hb0 : Below w.heap.size w W0 := by rw [← hW0]; exact (((Below.refl _ _).alloc (Nat.le_refl _) _).alloc (by simp) _).alloc (by simp; omega) _
  obtain ⟨_, x1, x2⟩ := thr_new w (.cells #[] 198) (.cells #[.string a0, .string a1, .string a2, .string a3] 217) (.cells #[.int .i64 0, .string ⟨#[]⟩, .int .i64 0, .int .i64 0, .string ⟨#[]⟩] 121)
  rw [hW0] at x1 x2
  obtain ⟨B, hB⟩ : ∃ B, B = w.heap.size + 1 := ⟨_, rfl⟩
  have hB1 : w.heap.size + 2 = B + 1 := by omega
  rw [← hB] at x1
  rw [hB1] at x2
  have HC : Hid (Below w.heap.size w W0 ∧ ErrsAt W0 ∧ ∀ W, Below W0.heap.size W0 W → (W.cell? ⟨B, 0, none⟩ = some (.string a0) ∧ W.cell? ⟨B, 1, none⟩ = some (.string a1) ∧ W.cell? ⟨B, 2, none⟩ = some (.string a2) ∧ W.cell? ⟨B, 3, none⟩ = some (.string a3)) ∧ W.cell? ⟨B + 1, 0, none⟩ = some (.int .i64 0) ∧ W.cell? ⟨B + 1, 1, none⟩ = some (.string ⟨#[]⟩) ∧ W.cell? ⟨B + 1, 2, none⟩ = some (.int .i64 0) ∧ W.cell? ⟨B + 1, 3, none⟩ = some (.int .i64 0) ∧ W.cell? ⟨B + 1, 4, none⟩ = some (.string ⟨#[]⟩) ∧ ∀ o, W.frozen? ⟨B + 1, o, none⟩ = false) := ⟨hb0, hE.below hb0, fun W hW => by
    have y1 := (hW.block _ (Array.getElem?_eq_some_iff.1 x1).1).trans x1
    have y2 := (hW.block _ (Array.getElem?_eq_some_iff.1 x2).1).trans x2
    obtain ⟨k0, k1, k2, k3, k4⟩ := box5 y2
    exact ⟨bx4 y1, k0, k1, k2, k3, k4, frz5 y2⟩⟩
  have HBw : Hid (w.heap.size ≤ B + 1) := by show _ ≤ _; omega
  obtain ⟨⟨c0, c1, c2, c3⟩, d0, d1, d2, d3, d4, d5⟩ := HC.out.2.2 W0 (Below.refl _ _)
  go_enter Tryz.func268, Tryz.ntmps268
  go_upto_region 1 with fail
  try rw [hW0]
  have e1 : w.heap.size + 1 + 1 = B + 1 := by omega
  try rw [e1]
  try rw [hB1]
  try rw [← hB]
  clear hW0 x1 x2 hb0 hE hB hB1 e1
  go_region_held3 (fun W => W.cell? ⟨B, 0, none⟩ = some (.string a0) ∧ W.cell? ⟨B, 1, none⟩ = some (.string a1) ∧ W.cell? ⟨B, 2, none⟩ = some (.string a2) ∧ W.cell? ⟨B, 3, none⟩ = some (.string a3)) (go_keep) (first | (go_at_call_of 192 (Value.string a0); refine (numberOf_any a0 n0 _ hz0 (by first | exact HC.out.2.1 | exact HC.out.2.1.drewP) hn0).mono ?_; rintro e wx ⟨rfl, hbx⟩; have bx : Below W0.heap.size W0 wx := (by first | exact hbx | exact undrewP hbx); have Ex := HC.out.2.1.below bx; obtain ⟨⟨x0, x1, x2, x3⟩, x4, x5, x6, x7, x8, x9⟩ := HC.out.2.2 wx bx; clear hbx; try dsimp only) | (go_at_call_of 192 (Value.string a2); refine (numberOf_any a2 n2 _ hz2 (by first | exact Ex | exact Ex.drewP) hn2).mono ?_; rintro e wu ⟨rfl, hbu⟩; have bu : Below W0.heap.size W0 wu := bx.trans ((by first | exact hbu | exact undrewP hbu : Below wx.heap.size wx wu).mono bx.size); have Eu := HC.out.2.1.below bu; obtain ⟨⟨u0, u1, u2, u3⟩, u4, u5, u6, u7, u8, u9⟩ := HC.out.2.2 wu bu; clear hbu; try dsimp only) | (go_at_call_of 192 (Value.string a3); refine (numberOf_any a3 n3 _ hz3 (by first | exact Eu | exact Eu.drewP) hn3).mono ?_; rintro e wv ⟨rfl, hbv⟩; have bv : Below W0.heap.size W0 wv := bu.trans ((by first | exact hbv | exact undrewP hbv : Below wu.heap.size wu wv).mono bu.size); have Ev := HC.out.2.1.below bv; obtain ⟨⟨v0, v1, v2, v3⟩, v4, v5, v6, v7, v8, v9⟩ := HC.out.2.2 wv bv; clear hbv; try dsimp only) | fail)
  rename_i hHeld
  clear hHeld
  have HB : Hid (Below w.heap.size w wv) := HC.out.1.trans (bv.mono HC.out.1.size)
  go_wp2
  exact bodyPost_ret (v := .agg #[.int .i64 n0, .string a1, .int .i64 n2, .int .i64 n3, .string ⟨#[]⟩]) (by simp [results, Tryz.results268, go_sem, v4, v5, v6, v7, v8]) rfl ⟨rfl, ((((HB.out.setCell HBw.out _).setCell HBw.out _).setCell HBw.out _).setCell HBw.out _).setCell HBw.out _⟩
set_option maxRecDepth 20000 in
set_option maxHeartbeats 8000000 in
theorem line_answer (a0 a1 a2 a3 : ByteArray) (n0 n1 : Int) (w : World) (hz0 : a0.size ≤ 281474976710656) (hn0 : NumW a0 n0) (hz1 : a1.size ≤ 281474976710656) (hn1 : NumW a1 n1) (hE : ErrsAt w) : Calls Tryz.prog 271 #[.agg #[], .agg #[.string a0, .string a1, .string a2, .string a3]] w fun e w' => e = .returned (.agg #[.int .i64 n0, .string ⟨#[]⟩, .int .i64 n1, .int .i64 0, .string a2]) ∧ Below w.heap.size w w' := by
  obtain ⟨W0, hW0⟩ : ∃ W0, ((w.alloc (.cells #[] 199)).alloc (.cells #[.string a0, .string a1, .string a2, .string a3] 217)).alloc (.cells #[.int .i64 0, .string ⟨#[]⟩, .int .i64 0, .int .i64 0, .string ⟨#[]⟩] 121) = W0 := ⟨_, rfl⟩
  have hb0 : Below w.heap.size w W0 := by rw [← hW0]; exact (((Below.refl _ _).alloc (Nat.le_refl _) _).alloc (by simp) _).alloc (by simp; omega) _
  obtain ⟨_, x1, x2⟩ := thr_new w (.cells #[] 199) (.cells #[.string a0, .string a1, .string a2, .string a3] 217) (.cells #[.int .i64 0, .string ⟨#[]⟩, .int .i64 0, .int .i64 0, .string ⟨#[]⟩] 121)
  rw [hW0] at x1 x2
  obtain ⟨B, hB⟩ : ∃ B, B = w.heap.size + 1 := ⟨_, rfl⟩
  have hB1 : w.heap.size + 2 = B + 1 := by omega
  rw [← hB] at x1
  rw [hB1] at x2
  have HC : Hid (Below w.heap.size w W0 ∧ ErrsAt W0 ∧ ∀ W, Below W0.heap.size W0 W → (W.cell? ⟨B, 0, none⟩ = some (.string a0) ∧ W.cell? ⟨B, 1, none⟩ = some (.string a1) ∧ W.cell? ⟨B, 2, none⟩ = some (.string a2) ∧ W.cell? ⟨B, 3, none⟩ = some (.string a3)) ∧ W.cell? ⟨B + 1, 0, none⟩ = some (.int .i64 0) ∧ W.cell? ⟨B + 1, 1, none⟩ = some (.string ⟨#[]⟩) ∧ W.cell? ⟨B + 1, 2, none⟩ = some (.int .i64 0) ∧ W.cell? ⟨B + 1, 3, none⟩ = some (.int .i64 0) ∧ W.cell? ⟨B + 1, 4, none⟩ = some (.string ⟨#[]⟩) ∧ ∀ o, W.frozen? ⟨B + 1, o, none⟩ = false) := ⟨hb0, hE.below hb0, fun W hW => by
    have y1 := (hW.block _ (Array.getElem?_eq_some_iff.1 x1).1).trans x1
    have y2 := (hW.block _ (Array.getElem?_eq_some_iff.1 x2).1).trans x2
    obtain ⟨k0, k1, k2, k3, k4⟩ := box5 y2
    exact ⟨bx4 y1, k0, k1, k2, k3, k4, frz5 y2⟩⟩
  have HBw : Hid (w.heap.size ≤ B + 1) := by show _ ≤ _; omega
  obtain ⟨⟨c0, c1, c2, c3⟩, d0, d1, d2, d3, d4, d5⟩ := HC.out.2.2 W0 (Below.refl _ _)
  go_enter Tryz.func271, Tryz.ntmps271
  go_upto_region 1 with fail
  try rw [hW0]
  have e1 : w.heap.size + 1 + 1 = B + 1 := by omega
  try rw [e1]
  try rw [hB1]
  try rw [← hB]
  clear hW0 x1 x2 hb0 hE hB hB1 e1
  go_region_held3 (fun W => W.cell? ⟨B, 0, none⟩ = some (.string a0) ∧ W.cell? ⟨B, 1, none⟩ = some (.string a1) ∧ W.cell? ⟨B, 2, none⟩ = some (.string a2) ∧ W.cell? ⟨B, 3, none⟩ = some (.string a3)) (go_keep) (first | (go_at_call_of 192 (Value.string a0); refine (numberOf_any a0 n0 _ hz0 (by first | exact HC.out.2.1 | exact HC.out.2.1.drewP) hn0).mono ?_; rintro e wx ⟨rfl, hbx⟩; have bx : Below W0.heap.size W0 wx := (by first | exact hbx | exact undrewP hbx); have Ex := HC.out.2.1.below bx; obtain ⟨⟨x0, x1, x2, x3⟩, x4, x5, x6, x7, x8, x9⟩ := HC.out.2.2 wx bx; clear hbx; try dsimp only) | (go_at_call_of 192 (Value.string a1); refine (numberOf_any a1 n1 _ hz1 (by first | exact Ex | exact Ex.drewP) hn1).mono ?_; rintro e wu ⟨rfl, hbu⟩; have bu : Below W0.heap.size W0 wu := bx.trans ((by first | exact hbu | exact undrewP hbu : Below wx.heap.size wx wu).mono bx.size); have Eu := HC.out.2.1.below bu; obtain ⟨⟨u0, u1, u2, u3⟩, u4, u5, u6, u7, u8, u9⟩ := HC.out.2.2 wu bu; clear hbu; try dsimp only) | fail)
  rename_i hHeld
  clear hHeld
  have HB : Hid (Below w.heap.size w wu) := HC.out.1.trans (bu.mono HC.out.1.size)
  go_wp2
  exact bodyPost_ret (v := .agg #[.int .i64 n0, .string ⟨#[]⟩, .int .i64 n1, .int .i64 0, .string a2]) (by simp [results, Tryz.results271, go_sem, u4, u5, u6, u7, u8]) rfl ⟨rfl, ((((HB.out.setCell HBw.out _).setCell HBw.out _).setCell HBw.out _).setCell HBw.out _).setCell HBw.out _⟩
set_option maxRecDepth 20000 in
set_option maxHeartbeats 8000000 in
theorem line_sent (a0 a1 a2 a3 : ByteArray) (n0 n1 : Int) (w : World) (hz0 : a0.size ≤ 281474976710656) (hn0 : NumW a0 n0) (hz1 : a1.size ≤ 281474976710656) (hn1 : NumW a1 n1) (hE : ErrsAt w) : Calls Tryz.prog 273 #[.agg #[], .agg #[.string a0, .string a1, .string a2, .string a3]] w fun e w' => e = .returned (.agg #[.int .i64 n0, .string ⟨#[]⟩, .int .i64 n1, .int .i64 0, .string ⟨#[]⟩]) ∧ Below w.heap.size w w' := by
  obtain ⟨W0, hW0⟩ : ∃ W0, ((w.alloc (.cells #[] 200)).alloc (.cells #[.string a0, .string a1, .string a2, .string a3] 217)).alloc (.cells #[.int .i64 0, .string ⟨#[]⟩, .int .i64 0, .int .i64 0, .string ⟨#[]⟩] 121) = W0 := ⟨_, rfl⟩
  have hb0 : Below w.heap.size w W0 := by rw [← hW0]; exact (((Below.refl _ _).alloc (Nat.le_refl _) _).alloc (by simp) _).alloc (by simp; omega) _
  obtain ⟨_, x1, x2⟩ := thr_new w (.cells #[] 200) (.cells #[.string a0, .string a1, .string a2, .string a3] 217) (.cells #[.int .i64 0, .string ⟨#[]⟩, .int .i64 0, .int .i64 0, .string ⟨#[]⟩] 121)
  rw [hW0] at x1 x2
  obtain ⟨B, hB⟩ : ∃ B, B = w.heap.size + 1 := ⟨_, rfl⟩
  have hB1 : w.heap.size + 2 = B + 1 := by omega
  rw [← hB] at x1
  rw [hB1] at x2
  have HC : Hid (Below w.heap.size w W0 ∧ ErrsAt W0 ∧ ∀ W, Below W0.heap.size W0 W → (W.cell? ⟨B, 0, none⟩ = some (.string a0) ∧ W.cell? ⟨B, 1, none⟩ = some (.string a1) ∧ W.cell? ⟨B, 2, none⟩ = some (.string a2) ∧ W.cell? ⟨B, 3, none⟩ = some (.string a3)) ∧ W.cell? ⟨B + 1, 0, none⟩ = some (.int .i64 0) ∧ W.cell? ⟨B + 1, 1, none⟩ = some (.string ⟨#[]⟩) ∧ W.cell? ⟨B + 1, 2, none⟩ = some (.int .i64 0) ∧ W.cell? ⟨B + 1, 3, none⟩ = some (.int .i64 0) ∧ W.cell? ⟨B + 1, 4, none⟩ = some (.string ⟨#[]⟩) ∧ ∀ o, W.frozen? ⟨B + 1, o, none⟩ = false) := ⟨hb0, hE.below hb0, fun W hW => by
    have y1 := (hW.block _ (Array.getElem?_eq_some_iff.1 x1).1).trans x1
    have y2 := (hW.block _ (Array.getElem?_eq_some_iff.1 x2).1).trans x2
    obtain ⟨k0, k1, k2, k3, k4⟩ := box5 y2
    exact ⟨bx4 y1, k0, k1, k2, k3, k4, frz5 y2⟩⟩
  have HBw : Hid (w.heap.size ≤ B + 1) := by show _ ≤ _; omega
  obtain ⟨⟨c0, c1, c2, c3⟩, d0, d1, d2, d3, d4, d5⟩ := HC.out.2.2 W0 (Below.refl _ _)
  go_enter Tryz.func273, Tryz.ntmps273
  go_upto_region 1 with fail
  try rw [hW0]
  have e1 : w.heap.size + 1 + 1 = B + 1 := by omega
  try rw [e1]
  try rw [hB1]
  try rw [← hB]
  clear hW0 x1 x2 hb0 hE hB hB1 e1
  go_region_held3 (fun W => W.cell? ⟨B, 0, none⟩ = some (.string a0) ∧ W.cell? ⟨B, 1, none⟩ = some (.string a1) ∧ W.cell? ⟨B, 2, none⟩ = some (.string a2) ∧ W.cell? ⟨B, 3, none⟩ = some (.string a3)) (go_keep) (first | (go_at_call_of 192 (Value.string a0); refine (numberOf_any a0 n0 _ hz0 (by first | exact HC.out.2.1 | exact HC.out.2.1.drewP) hn0).mono ?_; rintro e wx ⟨rfl, hbx⟩; have bx : Below W0.heap.size W0 wx := (by first | exact hbx | exact undrewP hbx); have Ex := HC.out.2.1.below bx; obtain ⟨⟨x0, x1, x2, x3⟩, x4, x5, x6, x7, x8, x9⟩ := HC.out.2.2 wx bx; clear hbx; try dsimp only) | (go_at_call_of 192 (Value.string a1); refine (numberOf_any a1 n1 _ hz1 (by first | exact Ex | exact Ex.drewP) hn1).mono ?_; rintro e wu ⟨rfl, hbu⟩; have bu : Below W0.heap.size W0 wu := bx.trans ((by first | exact hbu | exact undrewP hbu : Below wx.heap.size wx wu).mono bx.size); have Eu := HC.out.2.1.below bu; obtain ⟨⟨u0, u1, u2, u3⟩, u4, u5, u6, u7, u8, u9⟩ := HC.out.2.2 wu bu; clear hbu; try dsimp only) | fail)
  rename_i hHeld
  clear hHeld
  have HB : Hid (Below w.heap.size w wu) := HC.out.1.trans (bu.mono HC.out.1.size)
  go_wp2
  exact bodyPost_ret (v := .agg #[.int .i64 n0, .string ⟨#[]⟩, .int .i64 n1, .int .i64 0, .string ⟨#[]⟩]) (by simp [results, Tryz.results273, go_sem, u4, u5, u6, u7, u8]) rfl ⟨rfl, ((((HB.out.setCell HBw.out _).setCell HBw.out _).setCell HBw.out _).setCell HBw.out _).setCell HBw.out _⟩
set_option maxRecDepth 20000 in
set_option maxHeartbeats 8000000 in
theorem line_stock (a0 a1 a2 a3 : ByteArray) (n1 : Int) (w : World) (hz1 : a1.size ≤ 281474976710656) (hn1 : NumW a1 n1) (hE : ErrsAt w) : Calls Tryz.prog 275 #[.agg #[], .agg #[.string a0, .string a1, .string a2, .string a3]] w fun e w' => e = .returned (.agg #[.int .i64 0, .string a0, .int .i64 n1, .int .i64 0, .string ⟨#[]⟩]) ∧ Below w.heap.size w w' := by
  obtain ⟨W0, hW0⟩ : ∃ W0, ((w.alloc (.cells #[] 203)).alloc (.cells #[.string a0, .string a1, .string a2, .string a3] 217)).alloc (.cells #[.int .i64 0, .string ⟨#[]⟩, .int .i64 0, .int .i64 0, .string ⟨#[]⟩] 121) = W0 := ⟨_, rfl⟩
  have hb0 : Below w.heap.size w W0 := by rw [← hW0]; exact (((Below.refl _ _).alloc (Nat.le_refl _) _).alloc (by simp) _).alloc (by simp; omega) _
  obtain ⟨_, x1, x2⟩ := thr_new w (.cells #[] 203) (.cells #[.string a0, .string a1, .string a2, .string a3] 217) (.cells #[.int .i64 0, .string ⟨#[]⟩, .int .i64 0, .int .i64 0, .string ⟨#[]⟩] 121)
  rw [hW0] at x1 x2
  obtain ⟨B, hB⟩ : ∃ B, B = w.heap.size + 1 := ⟨_, rfl⟩
  have hB1 : w.heap.size + 2 = B + 1 := by omega
  rw [← hB] at x1
  rw [hB1] at x2
  have HC : Hid (Below w.heap.size w W0 ∧ ErrsAt W0 ∧ ∀ W, Below W0.heap.size W0 W → (W.cell? ⟨B, 0, none⟩ = some (.string a0) ∧ W.cell? ⟨B, 1, none⟩ = some (.string a1) ∧ W.cell? ⟨B, 2, none⟩ = some (.string a2) ∧ W.cell? ⟨B, 3, none⟩ = some (.string a3)) ∧ W.cell? ⟨B + 1, 0, none⟩ = some (.int .i64 0) ∧ W.cell? ⟨B + 1, 1, none⟩ = some (.string ⟨#[]⟩) ∧ W.cell? ⟨B + 1, 2, none⟩ = some (.int .i64 0) ∧ W.cell? ⟨B + 1, 3, none⟩ = some (.int .i64 0) ∧ W.cell? ⟨B + 1, 4, none⟩ = some (.string ⟨#[]⟩) ∧ ∀ o, W.frozen? ⟨B + 1, o, none⟩ = false) := ⟨hb0, hE.below hb0, fun W hW => by
    have y1 := (hW.block _ (Array.getElem?_eq_some_iff.1 x1).1).trans x1
    have y2 := (hW.block _ (Array.getElem?_eq_some_iff.1 x2).1).trans x2
    obtain ⟨k0, k1, k2, k3, k4⟩ := box5 y2
    exact ⟨bx4 y1, k0, k1, k2, k3, k4, frz5 y2⟩⟩
  have HBw : Hid (w.heap.size ≤ B + 1) := by show _ ≤ _; omega
  obtain ⟨⟨c0, c1, c2, c3⟩, d0, d1, d2, d3, d4, d5⟩ := HC.out.2.2 W0 (Below.refl _ _)
  go_enter Tryz.func275, Tryz.ntmps275
  go_upto_region 1 with fail
  try rw [hW0]
  have e1 : w.heap.size + 1 + 1 = B + 1 := by omega
  try rw [e1]
  try rw [hB1]
  try rw [← hB]
  clear hW0 x1 x2 hb0 hE hB hB1 e1
  go_region_held3 (fun W => W.cell? ⟨B, 0, none⟩ = some (.string a0) ∧ W.cell? ⟨B, 1, none⟩ = some (.string a1) ∧ W.cell? ⟨B, 2, none⟩ = some (.string a2) ∧ W.cell? ⟨B, 3, none⟩ = some (.string a3)) (go_keep) (first | (go_at_call_of 192 (Value.string a1); refine (numberOf_any a1 n1 _ hz1 (by first | exact HC.out.2.1 | exact HC.out.2.1.drewP) hn1).mono ?_; rintro e wx ⟨rfl, hbx⟩; have bx : Below W0.heap.size W0 wx := (by first | exact hbx | exact undrewP hbx); have Ex := HC.out.2.1.below bx; obtain ⟨⟨x0, x1, x2, x3⟩, x4, x5, x6, x7, x8, x9⟩ := HC.out.2.2 wx bx; clear hbx; try dsimp only) | fail)
  rename_i hHeld
  clear hHeld
  have HB : Hid (Below w.heap.size w wx) := HC.out.1.trans (bx.mono HC.out.1.size)
  go_wp2
  exact bodyPost_ret (v := .agg #[.int .i64 0, .string a0, .int .i64 n1, .int .i64 0, .string ⟨#[]⟩]) (by simp [results, Tryz.results275, go_sem, x4, x5, x6, x7, x8]) rfl ⟨rfl, ((((HB.out.setCell HBw.out _).setCell HBw.out _).setCell HBw.out _).setCell HBw.out _).setCell HBw.out _⟩
set_option maxRecDepth 20000 in
set_option maxHeartbeats 8000000 in
theorem line_adjust (a0 a1 a2 a3 : ByteArray) (n1 : Int) (w : World) (hz1 : a1.size ≤ 281474976710656) (hn1 : NumW a1 n1) (hE : ErrsAt w) : Calls Tryz.prog 277 #[.agg #[], .agg #[.string a0, .string a1, .string a2, .string a3]] w fun e w' => e = .returned (.agg #[.int .i64 0, .string a0, .int .i64 n1, .int .i64 0, .string a2]) ∧ Below w.heap.size w w' := by
  obtain ⟨W0, hW0⟩ : ∃ W0, ((w.alloc (.cells #[] 204)).alloc (.cells #[.string a0, .string a1, .string a2, .string a3] 217)).alloc (.cells #[.int .i64 0, .string ⟨#[]⟩, .int .i64 0, .int .i64 0, .string ⟨#[]⟩] 121) = W0 := ⟨_, rfl⟩
  have hb0 : Below w.heap.size w W0 := by rw [← hW0]; exact (((Below.refl _ _).alloc (Nat.le_refl _) _).alloc (by simp) _).alloc (by simp; omega) _
  obtain ⟨_, x1, x2⟩ := thr_new w (.cells #[] 204) (.cells #[.string a0, .string a1, .string a2, .string a3] 217) (.cells #[.int .i64 0, .string ⟨#[]⟩, .int .i64 0, .int .i64 0, .string ⟨#[]⟩] 121)
  rw [hW0] at x1 x2
  obtain ⟨B, hB⟩ : ∃ B, B = w.heap.size + 1 := ⟨_, rfl⟩
  have hB1 : w.heap.size + 2 = B + 1 := by omega
  rw [← hB] at x1
  rw [hB1] at x2
  have HC : Hid (Below w.heap.size w W0 ∧ ErrsAt W0 ∧ ∀ W, Below W0.heap.size W0 W → (W.cell? ⟨B, 0, none⟩ = some (.string a0) ∧ W.cell? ⟨B, 1, none⟩ = some (.string a1) ∧ W.cell? ⟨B, 2, none⟩ = some (.string a2) ∧ W.cell? ⟨B, 3, none⟩ = some (.string a3)) ∧ W.cell? ⟨B + 1, 0, none⟩ = some (.int .i64 0) ∧ W.cell? ⟨B + 1, 1, none⟩ = some (.string ⟨#[]⟩) ∧ W.cell? ⟨B + 1, 2, none⟩ = some (.int .i64 0) ∧ W.cell? ⟨B + 1, 3, none⟩ = some (.int .i64 0) ∧ W.cell? ⟨B + 1, 4, none⟩ = some (.string ⟨#[]⟩) ∧ ∀ o, W.frozen? ⟨B + 1, o, none⟩ = false) := ⟨hb0, hE.below hb0, fun W hW => by
    have y1 := (hW.block _ (Array.getElem?_eq_some_iff.1 x1).1).trans x1
    have y2 := (hW.block _ (Array.getElem?_eq_some_iff.1 x2).1).trans x2
    obtain ⟨k0, k1, k2, k3, k4⟩ := box5 y2
    exact ⟨bx4 y1, k0, k1, k2, k3, k4, frz5 y2⟩⟩
  have HBw : Hid (w.heap.size ≤ B + 1) := by show _ ≤ _; omega
  obtain ⟨⟨c0, c1, c2, c3⟩, d0, d1, d2, d3, d4, d5⟩ := HC.out.2.2 W0 (Below.refl _ _)
  go_enter Tryz.func277, Tryz.ntmps277
  go_upto_region 1 with fail
  try rw [hW0]
  have e1 : w.heap.size + 1 + 1 = B + 1 := by omega
  try rw [e1]
  try rw [hB1]
  try rw [← hB]
  clear hW0 x1 x2 hb0 hE hB hB1 e1
  go_region_held3 (fun W => W.cell? ⟨B, 0, none⟩ = some (.string a0) ∧ W.cell? ⟨B, 1, none⟩ = some (.string a1) ∧ W.cell? ⟨B, 2, none⟩ = some (.string a2) ∧ W.cell? ⟨B, 3, none⟩ = some (.string a3)) (go_keep) (first | (go_at_call_of 192 (Value.string a1); refine (numberOf_any a1 n1 _ hz1 (by first | exact HC.out.2.1 | exact HC.out.2.1.drewP) hn1).mono ?_; rintro e wx ⟨rfl, hbx⟩; have bx : Below W0.heap.size W0 wx := (by first | exact hbx | exact undrewP hbx); have Ex := HC.out.2.1.below bx; obtain ⟨⟨x0, x1, x2, x3⟩, x4, x5, x6, x7, x8, x9⟩ := HC.out.2.2 wx bx; clear hbx; try dsimp only) | fail)
  rename_i hHeld
  clear hHeld
  have HB : Hid (Below w.heap.size w wx) := HC.out.1.trans (bx.mono HC.out.1.size)
  go_wp2
  exact bodyPost_ret (v := .agg #[.int .i64 0, .string a0, .int .i64 n1, .int .i64 0, .string a2]) (by simp [results, Tryz.results277, go_sem, x4, x5, x6, x7, x8]) rfl ⟨rfl, ((((HB.out.setCell HBw.out _).setCell HBw.out _).setCell HBw.out _).setCell HBw.out _).setCell HBw.out _⟩
set_option maxRecDepth 20000 in
set_option maxHeartbeats 8000000 in
theorem line_heard (a0 a1 a2 a3 : ByteArray) (n0 n1 n2 : Int) (w : World) (hz0 : a0.size ≤ 281474976710656) (hn0 : NumW a0 n0) (hz1 : a1.size ≤ 281474976710656) (hn1 : NumW a1 n1) (hz2 : a2.size ≤ 281474976710656) (hn2 : NumW a2 n2) (hE : ErrsAt w) : Calls Tryz.prog 279 #[.agg #[], .agg #[.string a0, .string a1, .string a2, .string a3]] w fun e w' => e = .returned (.agg #[.int .i64 n0, .string ⟨#[]⟩, .int .i64 n1, .int .i64 n2, .string ⟨#[]⟩]) ∧ Below w.heap.size w w' := by
  obtain ⟨W0, hW0⟩ : ∃ W0, ((w.alloc (.cells #[] 205)).alloc (.cells #[.string a0, .string a1, .string a2, .string a3] 217)).alloc (.cells #[.int .i64 0, .string ⟨#[]⟩, .int .i64 0, .int .i64 0, .string ⟨#[]⟩] 121) = W0 := ⟨_, rfl⟩
  have hb0 : Below w.heap.size w W0 := by rw [← hW0]; exact (((Below.refl _ _).alloc (Nat.le_refl _) _).alloc (by simp) _).alloc (by simp; omega) _
  obtain ⟨_, x1, x2⟩ := thr_new w (.cells #[] 205) (.cells #[.string a0, .string a1, .string a2, .string a3] 217) (.cells #[.int .i64 0, .string ⟨#[]⟩, .int .i64 0, .int .i64 0, .string ⟨#[]⟩] 121)
  rw [hW0] at x1 x2
  obtain ⟨B, hB⟩ : ∃ B, B = w.heap.size + 1 := ⟨_, rfl⟩
  have hB1 : w.heap.size + 2 = B + 1 := by omega
  rw [← hB] at x1
  rw [hB1] at x2
  have HC : Hid (Below w.heap.size w W0 ∧ ErrsAt W0 ∧ ∀ W, Below W0.heap.size W0 W → (W.cell? ⟨B, 0, none⟩ = some (.string a0) ∧ W.cell? ⟨B, 1, none⟩ = some (.string a1) ∧ W.cell? ⟨B, 2, none⟩ = some (.string a2) ∧ W.cell? ⟨B, 3, none⟩ = some (.string a3)) ∧ W.cell? ⟨B + 1, 0, none⟩ = some (.int .i64 0) ∧ W.cell? ⟨B + 1, 1, none⟩ = some (.string ⟨#[]⟩) ∧ W.cell? ⟨B + 1, 2, none⟩ = some (.int .i64 0) ∧ W.cell? ⟨B + 1, 3, none⟩ = some (.int .i64 0) ∧ W.cell? ⟨B + 1, 4, none⟩ = some (.string ⟨#[]⟩) ∧ ∀ o, W.frozen? ⟨B + 1, o, none⟩ = false) := ⟨hb0, hE.below hb0, fun W hW => by
    have y1 := (hW.block _ (Array.getElem?_eq_some_iff.1 x1).1).trans x1
    have y2 := (hW.block _ (Array.getElem?_eq_some_iff.1 x2).1).trans x2
    obtain ⟨k0, k1, k2, k3, k4⟩ := box5 y2
    exact ⟨bx4 y1, k0, k1, k2, k3, k4, frz5 y2⟩⟩
  have HBw : Hid (w.heap.size ≤ B + 1) := by show _ ≤ _; omega
  obtain ⟨⟨c0, c1, c2, c3⟩, d0, d1, d2, d3, d4, d5⟩ := HC.out.2.2 W0 (Below.refl _ _)
  go_enter Tryz.func279, Tryz.ntmps279
  go_upto_region 1 with fail
  try rw [hW0]
  have e1 : w.heap.size + 1 + 1 = B + 1 := by omega
  try rw [e1]
  try rw [hB1]
  try rw [← hB]
  clear hW0 x1 x2 hb0 hE hB hB1 e1
  go_region_held3 (fun W => W.cell? ⟨B, 0, none⟩ = some (.string a0) ∧ W.cell? ⟨B, 1, none⟩ = some (.string a1) ∧ W.cell? ⟨B, 2, none⟩ = some (.string a2) ∧ W.cell? ⟨B, 3, none⟩ = some (.string a3)) (go_keep) (first | (go_at_call_of 192 (Value.string a0); refine (numberOf_any a0 n0 _ hz0 (by first | exact HC.out.2.1 | exact HC.out.2.1.drewP) hn0).mono ?_; rintro e wx ⟨rfl, hbx⟩; have bx : Below W0.heap.size W0 wx := (by first | exact hbx | exact undrewP hbx); have Ex := HC.out.2.1.below bx; obtain ⟨⟨x0, x1, x2, x3⟩, x4, x5, x6, x7, x8, x9⟩ := HC.out.2.2 wx bx; clear hbx; try dsimp only) | (go_at_call_of 192 (Value.string a1); refine (numberOf_any a1 n1 _ hz1 (by first | exact Ex | exact Ex.drewP) hn1).mono ?_; rintro e wu ⟨rfl, hbu⟩; have bu : Below W0.heap.size W0 wu := bx.trans ((by first | exact hbu | exact undrewP hbu : Below wx.heap.size wx wu).mono bx.size); have Eu := HC.out.2.1.below bu; obtain ⟨⟨u0, u1, u2, u3⟩, u4, u5, u6, u7, u8, u9⟩ := HC.out.2.2 wu bu; clear hbu; try dsimp only) | (go_at_call_of 192 (Value.string a2); refine (numberOf_any a2 n2 _ hz2 (by first | exact Eu | exact Eu.drewP) hn2).mono ?_; rintro e wv ⟨rfl, hbv⟩; have bv : Below W0.heap.size W0 wv := bu.trans ((by first | exact hbv | exact undrewP hbv : Below wu.heap.size wu wv).mono bu.size); have Ev := HC.out.2.1.below bv; obtain ⟨⟨v0, v1, v2, v3⟩, v4, v5, v6, v7, v8, v9⟩ := HC.out.2.2 wv bv; clear hbv; try dsimp only) | fail)
  rename_i hHeld
  clear hHeld
  have HB : Hid (Below w.heap.size w wv) := HC.out.1.trans (bv.mono HC.out.1.size)
  go_wp2
  exact bodyPost_ret (v := .agg #[.int .i64 n0, .string ⟨#[]⟩, .int .i64 n1, .int .i64 n2, .string ⟨#[]⟩]) (by simp [results, Tryz.results279, go_sem, v4, v5, v6, v7, v8]) rfl ⟨rfl, ((((HB.out.setCell HBw.out _).setCell HBw.out _).setCell HBw.out _).setCell HBw.out _).setCell HBw.out _⟩
end Go.Proofs.YtkaolpnbddjdpaaGreatDoor
