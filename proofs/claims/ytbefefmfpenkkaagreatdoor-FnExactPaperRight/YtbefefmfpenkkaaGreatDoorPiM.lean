/- Contracts of the program's lines by kind and of setDoc. -/
import Derived.Test.YtbefefmfpenkkaaGreatDoorPiB
import Derived.Deep.RegionHeld3
import Derived.Test.YtbefefmfpenkkaaGreatDoorSegBy
import Derived.Test.YtbefefmfpenkkaaGreatDoorPiF
import Derived.Deep.RegionLaw
namespace Go.Proofs.YtbefefmfpenkkaaGreatDoor
open Go.ChangeShapes Go.WideShapes Go.ChangeAt Go.RowKit
theorem bx4 {W : World} {B t : Nat} {a0 a1 a2 a3 : Value} (h : W.heap[B]? = some (.cells #[a0, a1, a2, a3] t)) : W.cell? ⟨B, 0, none⟩ = some a0 ∧ W.cell? ⟨B, 1, none⟩ = some a1 ∧ W.cell? ⟨B, 2, none⟩ = some a2 ∧ W.cell? ⟨B, 3, none⟩ = some a3 := by
  simp [World.cell?, h]
theorem frz5 {W : World} {B t : Nat} {cs : Array Value} (h : W.heap[B]? = some (.cells cs t)) : ∀ o, W.frozen? ⟨B, o, none⟩ = false := fun o => by simp [World.frozen?, h]
theorem thr_new (w : World) (a b c : Obj) : (((w.alloc a).alloc b).alloc c).heap[w.heap.size]? = some a ∧ (((w.alloc a).alloc b).alloc c).heap[w.heap.size + 1]? = some b ∧ (((w.alloc a).alloc b).alloc c).heap[w.heap.size + 2]? = some c := by
  have e : (((w.alloc a).alloc b).alloc c).heap = ((w.heap.push a).push b).push c := rfl
  rw [e]
  simp only [Array.getElem?_push, Array.size_push]
  refine ⟨?_, ?_, ?_⟩
  · rw [if_neg (by omega), if_neg (by omega), if_pos trivial]
  · rw [if_neg (by omega), if_pos trivial]
  · rw [if_pos trivial]
/-- A text that tells a number, or a missing one. -/
def NumW (t : ByteArray) (n : Int) : Prop := (numT t.data.toList = some n ∧ i64B n) ∨ (t = eT ∧ n = 0)
theorem ErrsAt.drewP {w : World} (h : ErrsAt w) : ErrsAt w.drew := h.below (Below.refl _ _).drew
set_option maxRecDepth 20000 in
set_option maxHeartbeats 8000000 in
theorem line_order (a0 a1 a2 a3 : ByteArray) (n0 n2 n3 : Int) (w : World) (hz0 : a0.size ≤ 281474976710656) (hn0 : NumW a0 n0) (hz2 : a2.size ≤ 281474976710656) (hn2 : NumW a2 n2) (hz3 : a3.size ≤ 281474976710656) (hn3 : NumW a3 n3) (hE : ErrsAt w) : Calls Tryz.prog 172 #[.agg #[], .agg #[.string a0, .string a1, .string a2, .string a3]] w fun e w' => e = .returned (.agg #[.int .i64 n0, .string a1, .int .i64 n2, .int .i64 n3, .string ⟨#[]⟩]) ∧ Below w.heap.size w w' := by
  obtain ⟨W0, hW0⟩ : ∃ W0, ((w.alloc (.cells #[] 110)).alloc (.cells #[.string a0, .string a1, .string a2, .string a3] 100)).alloc (.cells #[.int .i64 0, .string ⟨#[]⟩, .int .i64 0, .int .i64 0, .string ⟨#[]⟩] 59) = W0 := ⟨_, rfl⟩
  have hb0 : Below w.heap.size w W0 := by rw [← hW0]; exact (((Below.refl _ _).alloc (Nat.le_refl _) _).alloc (by simp) _).alloc (by simp; omega) _
  obtain ⟨_, x1, x2⟩ := thr_new w (.cells #[] 110) (.cells #[.string a0, .string a1, .string a2, .string a3] 100) (.cells #[.int .i64 0, .string ⟨#[]⟩, .int .i64 0, .int .i64 0, .string ⟨#[]⟩] 59)
  rw [hW0] at x1 x2
  obtain ⟨B, hB⟩ : ∃ B, B = w.heap.size + 1 := ⟨_, rfl⟩
  have hB1 : w.heap.size + 2 = B + 1 := by omega
  rw [← hB] at x1
  rw [hB1] at x2
  have HC : Hid (Below w.heap.size w W0 ∧ ErrsAt W0 ∧ ∀ W, Below W0.heap.size W0 W → (W.cell? ⟨B, 0, none⟩ = some (.string a0) ∧ W.cell? ⟨B, 1, none⟩ = some (.string a1) ∧ W.cell? ⟨B, 2, none⟩ = some (.string a2) ∧ W.cell? ⟨B, 3, none⟩ = some (.string a3)) ∧ W.cell? ⟨B + 1, 0, none⟩ = some (.int .i64 0) ∧ W.cell? ⟨B + 1, 1, none⟩ = some (.string ⟨#[]⟩) ∧ W.cell? ⟨B + 1, 2, none⟩ = some (.int .i64 0) ∧ W.cell? ⟨B + 1, 3, none⟩ = some (.int .i64 0) ∧ W.cell? ⟨B + 1, 4, none⟩ = some (.string ⟨#[]⟩) ∧ ∀ o, W.frozen? ⟨B + 1, o, none⟩ = false) := ⟨hb0, hE.below hb0, fun W hW => by
    have y1 := (hW.block _ (Array.getElem?_eq_some_iff.1 x1).1).trans x1
    have y2 := (hW.block _ (Array.getElem?_eq_some_iff.1 x2).1).trans x2
    obtain ⟨k0, k1, k2, k3, k4⟩ := box5 y2
    exact ⟨bx4 y1, k0, k1, k2, k3, k4, frz5 y2⟩⟩
  have HBw : Hid (w.heap.size ≤ B + 1) := by show _ ≤ _; omega
  obtain ⟨⟨c0, c1, c2, c3⟩, d0, d1, d2, d3, d4, d5⟩ := HC.out.2.2 W0 (Below.refl _ _)
  go_enter Tryz.func172, Tryz.ntmps172
  go_upto_region 1 with fail
  try rw [hW0]
  have e1 : w.heap.size + 1 + 1 = B + 1 := by omega
  try rw [e1]
  try rw [hB1]
  try rw [← hB]
  clear hW0 x1 x2 hb0 hE hB hB1 e1
  go_region_held3 (fun W => W.cell? ⟨B, 0, none⟩ = some (.string a0) ∧ W.cell? ⟨B, 1, none⟩ = some (.string a1) ∧ W.cell? ⟨B, 2, none⟩ = some (.string a2) ∧ W.cell? ⟨B, 3, none⟩ = some (.string a3)) (go_keep) (first | (go_at_call_of 84 (Value.string a0); refine (numberOf_any a0 n0 _ hz0 (by first | exact HC.out.2.1 | exact HC.out.2.1.drewP) hn0).mono ?_; rintro e wx ⟨rfl, hbx⟩; have bx : Below W0.heap.size W0 wx := (by first | exact hbx | exact undrewP hbx); have Ex := HC.out.2.1.below bx; obtain ⟨⟨x0, x1, x2, x3⟩, x4, x5, x6, x7, x8, x9⟩ := HC.out.2.2 wx bx; clear hbx; try dsimp only) | (go_at_call_of 84 (Value.string a2); refine (numberOf_any a2 n2 _ hz2 (by first | exact Ex | exact Ex.drewP) hn2).mono ?_; rintro e wu ⟨rfl, hbu⟩; have bu : Below W0.heap.size W0 wu := bx.trans ((by first | exact hbu | exact undrewP hbu : Below wx.heap.size wx wu).mono bx.size); have Eu := HC.out.2.1.below bu; obtain ⟨⟨u0, u1, u2, u3⟩, u4, u5, u6, u7, u8, u9⟩ := HC.out.2.2 wu bu; clear hbu; try dsimp only) | (go_at_call_of 84 (Value.string a3); refine (numberOf_any a3 n3 _ hz3 (by first | exact Eu | exact Eu.drewP) hn3).mono ?_; rintro e wv ⟨rfl, hbv⟩; have bv : Below W0.heap.size W0 wv := bu.trans ((by first | exact hbv | exact undrewP hbv : Below wu.heap.size wu wv).mono bu.size); have Ev := HC.out.2.1.below bv; obtain ⟨⟨v0, v1, v2, v3⟩, v4, v5, v6, v7, v8, v9⟩ := HC.out.2.2 wv bv; clear hbv; try dsimp only) | fail)
  rename_i hHeld
  clear hHeld
  have HB : Hid (Below w.heap.size w wv) := HC.out.1.trans (bv.mono HC.out.1.size)
  go_wp2
  exact bodyPost_ret (v := .agg #[.int .i64 n0, .string a1, .int .i64 n2, .int .i64 n3, .string ⟨#[]⟩]) (by simp [results, Tryz.results172, go_sem, v4, v5, v6, v7, v8]) rfl ⟨rfl, ((((HB.out.setCell HBw.out _).setCell HBw.out _).setCell HBw.out _).setCell HBw.out _).setCell HBw.out _⟩
set_option maxRecDepth 20000 in
set_option maxHeartbeats 8000000 in
theorem line_answer (a0 a1 a2 a3 : ByteArray) (n0 n1 : Int) (w : World) (hz0 : a0.size ≤ 281474976710656) (hn0 : NumW a0 n0) (hz1 : a1.size ≤ 281474976710656) (hn1 : NumW a1 n1) (hE : ErrsAt w) : Calls Tryz.prog 175 #[.agg #[], .agg #[.string a0, .string a1, .string a2, .string a3]] w fun e w' => e = .returned (.agg #[.int .i64 n0, .string ⟨#[]⟩, .int .i64 n1, .int .i64 0, .string a2]) ∧ Below w.heap.size w w' := by
  obtain ⟨W0, hW0⟩ : ∃ W0, ((w.alloc (.cells #[] 111)).alloc (.cells #[.string a0, .string a1, .string a2, .string a3] 100)).alloc (.cells #[.int .i64 0, .string ⟨#[]⟩, .int .i64 0, .int .i64 0, .string ⟨#[]⟩] 59) = W0 := ⟨_, rfl⟩
  have hb0 : Below w.heap.size w W0 := by rw [← hW0]; exact (((Below.refl _ _).alloc (Nat.le_refl _) _).alloc (by simp) _).alloc (by simp; omega) _
  obtain ⟨_, x1, x2⟩ := thr_new w (.cells #[] 111) (.cells #[.string a0, .string a1, .string a2, .string a3] 100) (.cells #[.int .i64 0, .string ⟨#[]⟩, .int .i64 0, .int .i64 0, .string ⟨#[]⟩] 59)
  rw [hW0] at x1 x2
  obtain ⟨B, hB⟩ : ∃ B, B = w.heap.size + 1 := ⟨_, rfl⟩
  have hB1 : w.heap.size + 2 = B + 1 := by omega
  rw [← hB] at x1
  rw [hB1] at x2
  have HC : Hid (Below w.heap.size w W0 ∧ ErrsAt W0 ∧ ∀ W, Below W0.heap.size W0 W → (W.cell? ⟨B, 0, none⟩ = some (.string a0) ∧ W.cell? ⟨B, 1, none⟩ = some (.string a1) ∧ W.cell? ⟨B, 2, none⟩ = some (.string a2) ∧ W.cell? ⟨B, 3, none⟩ = some (.string a3)) ∧ W.cell? ⟨B + 1, 0, none⟩ = some (.int .i64 0) ∧ W.cell? ⟨B + 1, 1, none⟩ = some (.string ⟨#[]⟩) ∧ W.cell? ⟨B + 1, 2, none⟩ = some (.int .i64 0) ∧ W.cell? ⟨B + 1, 3, none⟩ = some (.int .i64 0) ∧ W.cell? ⟨B + 1, 4, none⟩ = some (.string ⟨#[]⟩) ∧ ∀ o, W.frozen? ⟨B + 1, o, none⟩ = false) := ⟨hb0, hE.below hb0, fun W hW => by
    have y1 := (hW.block _ (Array.getElem?_eq_some_iff.1 x1).1).trans x1
    have y2 := (hW.block _ (Array.getElem?_eq_some_iff.1 x2).1).trans x2
    obtain ⟨k0, k1, k2, k3, k4⟩ := box5 y2
    exact ⟨bx4 y1, k0, k1, k2, k3, k4, frz5 y2⟩⟩
  have HBw : Hid (w.heap.size ≤ B + 1) := by show _ ≤ _; omega
  obtain ⟨⟨c0, c1, c2, c3⟩, d0, d1, d2, d3, d4, d5⟩ := HC.out.2.2 W0 (Below.refl _ _)
  go_enter Tryz.func175, Tryz.ntmps175
  go_upto_region 1 with fail
  try rw [hW0]
  have e1 : w.heap.size + 1 + 1 = B + 1 := by omega
  try rw [e1]
  try rw [hB1]
  try rw [← hB]
  clear hW0 x1 x2 hb0 hE hB hB1 e1
  go_region_held3 (fun W => W.cell? ⟨B, 0, none⟩ = some (.string a0) ∧ W.cell? ⟨B, 1, none⟩ = some (.string a1) ∧ W.cell? ⟨B, 2, none⟩ = some (.string a2) ∧ W.cell? ⟨B, 3, none⟩ = some (.string a3)) (go_keep) (first | (go_at_call_of 84 (Value.string a0); refine (numberOf_any a0 n0 _ hz0 (by first | exact HC.out.2.1 | exact HC.out.2.1.drewP) hn0).mono ?_; rintro e wx ⟨rfl, hbx⟩; have bx : Below W0.heap.size W0 wx := (by first | exact hbx | exact undrewP hbx); have Ex := HC.out.2.1.below bx; obtain ⟨⟨x0, x1, x2, x3⟩, x4, x5, x6, x7, x8, x9⟩ := HC.out.2.2 wx bx; clear hbx; try dsimp only) | (go_at_call_of 84 (Value.string a1); refine (numberOf_any a1 n1 _ hz1 (by first | exact Ex | exact Ex.drewP) hn1).mono ?_; rintro e wu ⟨rfl, hbu⟩; have bu : Below W0.heap.size W0 wu := bx.trans ((by first | exact hbu | exact undrewP hbu : Below wx.heap.size wx wu).mono bx.size); have Eu := HC.out.2.1.below bu; obtain ⟨⟨u0, u1, u2, u3⟩, u4, u5, u6, u7, u8, u9⟩ := HC.out.2.2 wu bu; clear hbu; try dsimp only) | fail)
  rename_i hHeld
  clear hHeld
  have HB : Hid (Below w.heap.size w wu) := HC.out.1.trans (bu.mono HC.out.1.size)
  go_wp2
  exact bodyPost_ret (v := .agg #[.int .i64 n0, .string ⟨#[]⟩, .int .i64 n1, .int .i64 0, .string a2]) (by simp [results, Tryz.results175, go_sem, u4, u5, u6, u7, u8]) rfl ⟨rfl, ((((HB.out.setCell HBw.out _).setCell HBw.out _).setCell HBw.out _).setCell HBw.out _).setCell HBw.out _⟩
set_option maxRecDepth 20000 in
set_option maxHeartbeats 8000000 in
theorem line_sent (a0 a1 a2 a3 : ByteArray) (n0 n1 : Int) (w : World) (hz0 : a0.size ≤ 281474976710656) (hn0 : NumW a0 n0) (hz1 : a1.size ≤ 281474976710656) (hn1 : NumW a1 n1) (hE : ErrsAt w) : Calls Tryz.prog 177 #[.agg #[], .agg #[.string a0, .string a1, .string a2, .string a3]] w fun e w' => e = .returned (.agg #[.int .i64 n0, .string ⟨#[]⟩, .int .i64 n1, .int .i64 0, .string ⟨#[]⟩]) ∧ Below w.heap.size w w' := by
  obtain ⟨W0, hW0⟩ : ∃ W0, ((w.alloc (.cells #[] 112)).alloc (.cells #[.string a0, .string a1, .string a2, .string a3] 100)).alloc (.cells #[.int .i64 0, .string ⟨#[]⟩, .int .i64 0, .int .i64 0, .string ⟨#[]⟩] 59) = W0 := ⟨_, rfl⟩
  have hb0 : Below w.heap.size w W0 := by rw [← hW0]; exact (((Below.refl _ _).alloc (Nat.le_refl _) _).alloc (by simp) _).alloc (by simp; omega) _
  obtain ⟨_, x1, x2⟩ := thr_new w (.cells #[] 112) (.cells #[.string a0, .string a1, .string a2, .string a3] 100) (.cells #[.int .i64 0, .string ⟨#[]⟩, .int .i64 0, .int .i64 0, .string ⟨#[]⟩] 59)
  rw [hW0] at x1 x2
  obtain ⟨B, hB⟩ : ∃ B, B = w.heap.size + 1 := ⟨_, rfl⟩
  have hB1 : w.heap.size + 2 = B + 1 := by omega
  rw [← hB] at x1
  rw [hB1] at x2
  have HC : Hid (Below w.heap.size w W0 ∧ ErrsAt W0 ∧ ∀ W, Below W0.heap.size W0 W → (W.cell? ⟨B, 0, none⟩ = some (.string a0) ∧ W.cell? ⟨B, 1, none⟩ = some (.string a1) ∧ W.cell? ⟨B, 2, none⟩ = some (.string a2) ∧ W.cell? ⟨B, 3, none⟩ = some (.string a3)) ∧ W.cell? ⟨B + 1, 0, none⟩ = some (.int .i64 0) ∧ W.cell? ⟨B + 1, 1, none⟩ = some (.string ⟨#[]⟩) ∧ W.cell? ⟨B + 1, 2, none⟩ = some (.int .i64 0) ∧ W.cell? ⟨B + 1, 3, none⟩ = some (.int .i64 0) ∧ W.cell? ⟨B + 1, 4, none⟩ = some (.string ⟨#[]⟩) ∧ ∀ o, W.frozen? ⟨B + 1, o, none⟩ = false) := ⟨hb0, hE.below hb0, fun W hW => by
    have y1 := (hW.block _ (Array.getElem?_eq_some_iff.1 x1).1).trans x1
    have y2 := (hW.block _ (Array.getElem?_eq_some_iff.1 x2).1).trans x2
    obtain ⟨k0, k1, k2, k3, k4⟩ := box5 y2
    exact ⟨bx4 y1, k0, k1, k2, k3, k4, frz5 y2⟩⟩
  have HBw : Hid (w.heap.size ≤ B + 1) := by show _ ≤ _; omega
  obtain ⟨⟨c0, c1, c2, c3⟩, d0, d1, d2, d3, d4, d5⟩ := HC.out.2.2 W0 (Below.refl _ _)
  go_enter Tryz.func177, Tryz.ntmps177
  go_upto_region 1 with fail
  try rw [hW0]
  have e1 : w.heap.size + 1 + 1 = B + 1 := by omega
  try rw [e1]
  try rw [hB1]
  try rw [← hB]
  clear hW0 x1 x2 hb0 hE hB hB1 e1
  go_region_held3 (fun W => W.cell? ⟨B, 0, none⟩ = some (.string a0) ∧ W.cell? ⟨B, 1, none⟩ = some (.string a1) ∧ W.cell? ⟨B, 2, none⟩ = some (.string a2) ∧ W.cell? ⟨B, 3, none⟩ = some (.string a3)) (go_keep) (first | (go_at_call_of 84 (Value.string a0); refine (numberOf_any a0 n0 _ hz0 (by first | exact HC.out.2.1 | exact HC.out.2.1.drewP) hn0).mono ?_; rintro e wx ⟨rfl, hbx⟩; have bx : Below W0.heap.size W0 wx := (by first | exact hbx | exact undrewP hbx); have Ex := HC.out.2.1.below bx; obtain ⟨⟨x0, x1, x2, x3⟩, x4, x5, x6, x7, x8, x9⟩ := HC.out.2.2 wx bx; clear hbx; try dsimp only) | (go_at_call_of 84 (Value.string a1); refine (numberOf_any a1 n1 _ hz1 (by first | exact Ex | exact Ex.drewP) hn1).mono ?_; rintro e wu ⟨rfl, hbu⟩; have bu : Below W0.heap.size W0 wu := bx.trans ((by first | exact hbu | exact undrewP hbu : Below wx.heap.size wx wu).mono bx.size); have Eu := HC.out.2.1.below bu; obtain ⟨⟨u0, u1, u2, u3⟩, u4, u5, u6, u7, u8, u9⟩ := HC.out.2.2 wu bu; clear hbu; try dsimp only) | fail)
  rename_i hHeld
  clear hHeld
  have HB : Hid (Below w.heap.size w wu) := HC.out.1.trans (bu.mono HC.out.1.size)
  go_wp2
  exact bodyPost_ret (v := .agg #[.int .i64 n0, .string ⟨#[]⟩, .int .i64 n1, .int .i64 0, .string ⟨#[]⟩]) (by simp [results, Tryz.results177, go_sem, u4, u5, u6, u7, u8]) rfl ⟨rfl, ((((HB.out.setCell HBw.out _).setCell HBw.out _).setCell HBw.out _).setCell HBw.out _).setCell HBw.out _⟩
set_option maxRecDepth 20000 in
set_option maxHeartbeats 8000000 in
theorem line_stock (a0 a1 a2 a3 : ByteArray) (n1 : Int) (w : World) (hz1 : a1.size ≤ 281474976710656) (hn1 : NumW a1 n1) (hE : ErrsAt w) : Calls Tryz.prog 179 #[.agg #[], .agg #[.string a0, .string a1, .string a2, .string a3]] w fun e w' => e = .returned (.agg #[.int .i64 0, .string a0, .int .i64 n1, .int .i64 0, .string ⟨#[]⟩]) ∧ Below w.heap.size w w' := by
  obtain ⟨W0, hW0⟩ : ∃ W0, ((w.alloc (.cells #[] 115)).alloc (.cells #[.string a0, .string a1, .string a2, .string a3] 100)).alloc (.cells #[.int .i64 0, .string ⟨#[]⟩, .int .i64 0, .int .i64 0, .string ⟨#[]⟩] 59) = W0 := ⟨_, rfl⟩
  have hb0 : Below w.heap.size w W0 := by rw [← hW0]; exact (((Below.refl _ _).alloc (Nat.le_refl _) _).alloc (by simp) _).alloc (by simp; omega) _
  obtain ⟨_, x1, x2⟩ := thr_new w (.cells #[] 115) (.cells #[.string a0, .string a1, .string a2, .string a3] 100) (.cells #[.int .i64 0, .string ⟨#[]⟩, .int .i64 0, .int .i64 0, .string ⟨#[]⟩] 59)
  rw [hW0] at x1 x2
  obtain ⟨B, hB⟩ : ∃ B, B = w.heap.size + 1 := ⟨_, rfl⟩
  have hB1 : w.heap.size + 2 = B + 1 := by omega
  rw [← hB] at x1
  rw [hB1] at x2
  have HC : Hid (Below w.heap.size w W0 ∧ ErrsAt W0 ∧ ∀ W, Below W0.heap.size W0 W → (W.cell? ⟨B, 0, none⟩ = some (.string a0) ∧ W.cell? ⟨B, 1, none⟩ = some (.string a1) ∧ W.cell? ⟨B, 2, none⟩ = some (.string a2) ∧ W.cell? ⟨B, 3, none⟩ = some (.string a3)) ∧ W.cell? ⟨B + 1, 0, none⟩ = some (.int .i64 0) ∧ W.cell? ⟨B + 1, 1, none⟩ = some (.string ⟨#[]⟩) ∧ W.cell? ⟨B + 1, 2, none⟩ = some (.int .i64 0) ∧ W.cell? ⟨B + 1, 3, none⟩ = some (.int .i64 0) ∧ W.cell? ⟨B + 1, 4, none⟩ = some (.string ⟨#[]⟩) ∧ ∀ o, W.frozen? ⟨B + 1, o, none⟩ = false) := ⟨hb0, hE.below hb0, fun W hW => by
    have y1 := (hW.block _ (Array.getElem?_eq_some_iff.1 x1).1).trans x1
    have y2 := (hW.block _ (Array.getElem?_eq_some_iff.1 x2).1).trans x2
    obtain ⟨k0, k1, k2, k3, k4⟩ := box5 y2
    exact ⟨bx4 y1, k0, k1, k2, k3, k4, frz5 y2⟩⟩
  have HBw : Hid (w.heap.size ≤ B + 1) := by show _ ≤ _; omega
  obtain ⟨⟨c0, c1, c2, c3⟩, d0, d1, d2, d3, d4, d5⟩ := HC.out.2.2 W0 (Below.refl _ _)
  go_enter Tryz.func179, Tryz.ntmps179
  go_upto_region 1 with fail
  try rw [hW0]
  have e1 : w.heap.size + 1 + 1 = B + 1 := by omega
  try rw [e1]
  try rw [hB1]
  try rw [← hB]
  clear hW0 x1 x2 hb0 hE hB hB1 e1
  go_region_held3 (fun W => W.cell? ⟨B, 0, none⟩ = some (.string a0) ∧ W.cell? ⟨B, 1, none⟩ = some (.string a1) ∧ W.cell? ⟨B, 2, none⟩ = some (.string a2) ∧ W.cell? ⟨B, 3, none⟩ = some (.string a3)) (go_keep) (first | (go_at_call_of 84 (Value.string a1); refine (numberOf_any a1 n1 _ hz1 (by first | exact HC.out.2.1 | exact HC.out.2.1.drewP) hn1).mono ?_; rintro e wx ⟨rfl, hbx⟩; have bx : Below W0.heap.size W0 wx := (by first | exact hbx | exact undrewP hbx); have Ex := HC.out.2.1.below bx; obtain ⟨⟨x0, x1, x2, x3⟩, x4, x5, x6, x7, x8, x9⟩ := HC.out.2.2 wx bx; clear hbx; try dsimp only) | fail)
  rename_i hHeld
  clear hHeld
  have HB : Hid (Below w.heap.size w wx) := HC.out.1.trans (bx.mono HC.out.1.size)
  go_wp2
  exact bodyPost_ret (v := .agg #[.int .i64 0, .string a0, .int .i64 n1, .int .i64 0, .string ⟨#[]⟩]) (by simp [results, Tryz.results179, go_sem, x4, x5, x6, x7, x8]) rfl ⟨rfl, ((((HB.out.setCell HBw.out _).setCell HBw.out _).setCell HBw.out _).setCell HBw.out _).setCell HBw.out _⟩
set_option maxRecDepth 20000 in
set_option maxHeartbeats 8000000 in
theorem line_adjust (a0 a1 a2 a3 : ByteArray) (n1 : Int) (w : World) (hz1 : a1.size ≤ 281474976710656) (hn1 : NumW a1 n1) (hE : ErrsAt w) : Calls Tryz.prog 181 #[.agg #[], .agg #[.string a0, .string a1, .string a2, .string a3]] w fun e w' => e = .returned (.agg #[.int .i64 0, .string a0, .int .i64 n1, .int .i64 0, .string a2]) ∧ Below w.heap.size w w' := by
  obtain ⟨W0, hW0⟩ : ∃ W0, ((w.alloc (.cells #[] 116)).alloc (.cells #[.string a0, .string a1, .string a2, .string a3] 100)).alloc (.cells #[.int .i64 0, .string ⟨#[]⟩, .int .i64 0, .int .i64 0, .string ⟨#[]⟩] 59) = W0 := ⟨_, rfl⟩
  have hb0 : Below w.heap.size w W0 := by rw [← hW0]; exact (((Below.refl _ _).alloc (Nat.le_refl _) _).alloc (by simp) _).alloc (by simp; omega) _
  obtain ⟨_, x1, x2⟩ := thr_new w (.cells #[] 116) (.cells #[.string a0, .string a1, .string a2, .string a3] 100) (.cells #[.int .i64 0, .string ⟨#[]⟩, .int .i64 0, .int .i64 0, .string ⟨#[]⟩] 59)
  rw [hW0] at x1 x2
  obtain ⟨B, hB⟩ : ∃ B, B = w.heap.size + 1 := ⟨_, rfl⟩
  have hB1 : w.heap.size + 2 = B + 1 := by omega
  rw [← hB] at x1
  rw [hB1] at x2
  have HC : Hid (Below w.heap.size w W0 ∧ ErrsAt W0 ∧ ∀ W, Below W0.heap.size W0 W → (W.cell? ⟨B, 0, none⟩ = some (.string a0) ∧ W.cell? ⟨B, 1, none⟩ = some (.string a1) ∧ W.cell? ⟨B, 2, none⟩ = some (.string a2) ∧ W.cell? ⟨B, 3, none⟩ = some (.string a3)) ∧ W.cell? ⟨B + 1, 0, none⟩ = some (.int .i64 0) ∧ W.cell? ⟨B + 1, 1, none⟩ = some (.string ⟨#[]⟩) ∧ W.cell? ⟨B + 1, 2, none⟩ = some (.int .i64 0) ∧ W.cell? ⟨B + 1, 3, none⟩ = some (.int .i64 0) ∧ W.cell? ⟨B + 1, 4, none⟩ = some (.string ⟨#[]⟩) ∧ ∀ o, W.frozen? ⟨B + 1, o, none⟩ = false) := ⟨hb0, hE.below hb0, fun W hW => by
    have y1 := (hW.block _ (Array.getElem?_eq_some_iff.1 x1).1).trans x1
    have y2 := (hW.block _ (Array.getElem?_eq_some_iff.1 x2).1).trans x2
    obtain ⟨k0, k1, k2, k3, k4⟩ := box5 y2
    exact ⟨bx4 y1, k0, k1, k2, k3, k4, frz5 y2⟩⟩
  have HBw : Hid (w.heap.size ≤ B + 1) := by show _ ≤ _; omega
  obtain ⟨⟨c0, c1, c2, c3⟩, d0, d1, d2, d3, d4, d5⟩ := HC.out.2.2 W0 (Below.refl _ _)
  go_enter Tryz.func181, Tryz.ntmps181
  go_upto_region 1 with fail
  try rw [hW0]
  have e1 : w.heap.size + 1 + 1 = B + 1 := by omega
  try rw [e1]
  try rw [hB1]
  try rw [← hB]
  clear hW0 x1 x2 hb0 hE hB hB1 e1
  go_region_held3 (fun W => W.cell? ⟨B, 0, none⟩ = some (.string a0) ∧ W.cell? ⟨B, 1, none⟩ = some (.string a1) ∧ W.cell? ⟨B, 2, none⟩ = some (.string a2) ∧ W.cell? ⟨B, 3, none⟩ = some (.string a3)) (go_keep) (first | (go_at_call_of 84 (Value.string a1); refine (numberOf_any a1 n1 _ hz1 (by first | exact HC.out.2.1 | exact HC.out.2.1.drewP) hn1).mono ?_; rintro e wx ⟨rfl, hbx⟩; have bx : Below W0.heap.size W0 wx := (by first | exact hbx | exact undrewP hbx); have Ex := HC.out.2.1.below bx; obtain ⟨⟨x0, x1, x2, x3⟩, x4, x5, x6, x7, x8, x9⟩ := HC.out.2.2 wx bx; clear hbx; try dsimp only) | fail)
  rename_i hHeld
  clear hHeld
  have HB : Hid (Below w.heap.size w wx) := HC.out.1.trans (bx.mono HC.out.1.size)
  go_wp2
  exact bodyPost_ret (v := .agg #[.int .i64 0, .string a0, .int .i64 n1, .int .i64 0, .string a2]) (by simp [results, Tryz.results181, go_sem, x4, x5, x6, x7, x8]) rfl ⟨rfl, ((((HB.out.setCell HBw.out _).setCell HBw.out _).setCell HBw.out _).setCell HBw.out _).setCell HBw.out _⟩
set_option maxRecDepth 20000 in
set_option maxHeartbeats 8000000 in
theorem line_heard (a0 a1 a2 a3 : ByteArray) (n0 n1 n2 : Int) (w : World) (hz0 : a0.size ≤ 281474976710656) (hn0 : NumW a0 n0) (hz1 : a1.size ≤ 281474976710656) (hn1 : NumW a1 n1) (hz2 : a2.size ≤ 281474976710656) (hn2 : NumW a2 n2) (hE : ErrsAt w) : Calls Tryz.prog 183 #[.agg #[], .agg #[.string a0, .string a1, .string a2, .string a3]] w fun e w' => e = .returned (.agg #[.int .i64 n0, .string ⟨#[]⟩, .int .i64 n1, .int .i64 n2, .string ⟨#[]⟩]) ∧ Below w.heap.size w w' := by
  obtain ⟨W0, hW0⟩ : ∃ W0, ((w.alloc (.cells #[] 117)).alloc (.cells #[.string a0, .string a1, .string a2, .string a3] 100)).alloc (.cells #[.int .i64 0, .string ⟨#[]⟩, .int .i64 0, .int .i64 0, .string ⟨#[]⟩] 59) = W0 := ⟨_, rfl⟩
  have hb0 : Below w.heap.size w W0 := by rw [← hW0]; exact (((Below.refl _ _).alloc (Nat.le_refl _) _).alloc (by simp) _).alloc (by simp; omega) _
  obtain ⟨_, x1, x2⟩ := thr_new w (.cells #[] 117) (.cells #[.string a0, .string a1, .string a2, .string a3] 100) (.cells #[.int .i64 0, .string ⟨#[]⟩, .int .i64 0, .int .i64 0, .string ⟨#[]⟩] 59)
  rw [hW0] at x1 x2
  obtain ⟨B, hB⟩ : ∃ B, B = w.heap.size + 1 := ⟨_, rfl⟩
  have hB1 : w.heap.size + 2 = B + 1 := by omega
  rw [← hB] at x1
  rw [hB1] at x2
  have HC : Hid (Below w.heap.size w W0 ∧ ErrsAt W0 ∧ ∀ W, Below W0.heap.size W0 W → (W.cell? ⟨B, 0, none⟩ = some (.string a0) ∧ W.cell? ⟨B, 1, none⟩ = some (.string a1) ∧ W.cell? ⟨B, 2, none⟩ = some (.string a2) ∧ W.cell? ⟨B, 3, none⟩ = some (.string a3)) ∧ W.cell? ⟨B + 1, 0, none⟩ = some (.int .i64 0) ∧ W.cell? ⟨B + 1, 1, none⟩ = some (.string ⟨#[]⟩) ∧ W.cell? ⟨B + 1, 2, none⟩ = some (.int .i64 0) ∧ W.cell? ⟨B + 1, 3, none⟩ = some (.int .i64 0) ∧ W.cell? ⟨B + 1, 4, none⟩ = some (.string ⟨#[]⟩) ∧ ∀ o, W.frozen? ⟨B + 1, o, none⟩ = false) := ⟨hb0, hE.below hb0, fun W hW => by
    have y1 := (hW.block _ (Array.getElem?_eq_some_iff.1 x1).1).trans x1
    have y2 := (hW.block _ (Array.getElem?_eq_some_iff.1 x2).1).trans x2
    obtain ⟨k0, k1, k2, k3, k4⟩ := box5 y2
    exact ⟨bx4 y1, k0, k1, k2, k3, k4, frz5 y2⟩⟩
  have HBw : Hid (w.heap.size ≤ B + 1) := by show _ ≤ _; omega
  obtain ⟨⟨c0, c1, c2, c3⟩, d0, d1, d2, d3, d4, d5⟩ := HC.out.2.2 W0 (Below.refl _ _)
  go_enter Tryz.func183, Tryz.ntmps183
  go_upto_region 1 with fail
  try rw [hW0]
  have e1 : w.heap.size + 1 + 1 = B + 1 := by omega
  try rw [e1]
  try rw [hB1]
  try rw [← hB]
  clear hW0 x1 x2 hb0 hE hB hB1 e1
  go_region_held3 (fun W => W.cell? ⟨B, 0, none⟩ = some (.string a0) ∧ W.cell? ⟨B, 1, none⟩ = some (.string a1) ∧ W.cell? ⟨B, 2, none⟩ = some (.string a2) ∧ W.cell? ⟨B, 3, none⟩ = some (.string a3)) (go_keep) (first | (go_at_call_of 84 (Value.string a0); refine (numberOf_any a0 n0 _ hz0 (by first | exact HC.out.2.1 | exact HC.out.2.1.drewP) hn0).mono ?_; rintro e wx ⟨rfl, hbx⟩; have bx : Below W0.heap.size W0 wx := (by first | exact hbx | exact undrewP hbx); have Ex := HC.out.2.1.below bx; obtain ⟨⟨x0, x1, x2, x3⟩, x4, x5, x6, x7, x8, x9⟩ := HC.out.2.2 wx bx; clear hbx; try dsimp only) | (go_at_call_of 84 (Value.string a1); refine (numberOf_any a1 n1 _ hz1 (by first | exact Ex | exact Ex.drewP) hn1).mono ?_; rintro e wu ⟨rfl, hbu⟩; have bu : Below W0.heap.size W0 wu := bx.trans ((by first | exact hbu | exact undrewP hbu : Below wx.heap.size wx wu).mono bx.size); have Eu := HC.out.2.1.below bu; obtain ⟨⟨u0, u1, u2, u3⟩, u4, u5, u6, u7, u8, u9⟩ := HC.out.2.2 wu bu; clear hbu; try dsimp only) | (go_at_call_of 84 (Value.string a2); refine (numberOf_any a2 n2 _ hz2 (by first | exact Eu | exact Eu.drewP) hn2).mono ?_; rintro e wv ⟨rfl, hbv⟩; have bv : Below W0.heap.size W0 wv := bu.trans ((by first | exact hbv | exact undrewP hbv : Below wu.heap.size wu wv).mono bu.size); have Ev := HC.out.2.1.below bv; obtain ⟨⟨v0, v1, v2, v3⟩, v4, v5, v6, v7, v8, v9⟩ := HC.out.2.2 wv bv; clear hbv; try dsimp only) | fail)
  rename_i hHeld
  clear hHeld
  have HB : Hid (Below w.heap.size w wv) := HC.out.1.trans (bv.mono HC.out.1.size)
  go_wp2
  exact bodyPost_ret (v := .agg #[.int .i64 n0, .string ⟨#[]⟩, .int .i64 n1, .int .i64 n2, .string ⟨#[]⟩]) (by simp [results, Tryz.results183, go_sem, v4, v5, v6, v7, v8]) rfl ⟨rfl, ((((HB.out.setCell HBw.out _).setCell HBw.out _).setCell HBw.out _).setCell HBw.out _).setCell HBw.out _⟩
end Go.Proofs.YtbefefmfpenkkaaGreatDoor
namespace Go.Proofs.YtbefefmfpenkkaaGreatDoor
open Go.ChangeShapes Go.WideShapes Go.ChangeAt Go.RowKit
/-- A word, as far as there is one among the first k. -/
def wdA (ws : List ByteArray) (k i : Nat) : ByteArray := if i < k then (ws[i]?).getD eT else eT
def wd4 (ws : List ByteArray) (k : Nat) : Array Value := #[.string (wdA ws k 0), .string (wdA ws k 1), .string (wdA ws k 2), .string (wdA ws k 3)]
/-- The first four words, missing ones empty. -/
def w4 (ws : List ByteArray) : Value := .agg #[.string ((ws[0]?).getD eT), .string ((ws[1]?).getD eT), .string ((ws[2]?).getD eT), .string ((ws[3]?).getD eT)]
theorem wdA_all {ws : List ByteArray} (i : Nat) : wdA ws ws.length i = (ws[i]?).getD eT := by
  unfold wdA
  split
  · rfl
  · rename_i h
    rw [List.getElem?_eq_none (by omega)]
    rfl
theorem wdA_next {ws : List ByteArray} {k i : Nat} (h : i ≠ k) : wdA ws (k + 1) i = wdA ws k i := by
  unfold wdA
  by_cases q : i < k
  · rw [if_pos q, if_pos (by omega)]
  · rw [if_neg q, if_neg (by omega)]
theorem wdA_at {ws : List ByteArray} {k : Nat} {t : ByteArray} (h : ws[k]? = some t) : wdA ws (k + 1) k = t := by
  unfold wdA
  rw [if_pos (by omega), h]
  rfl
theorem wd4_set {ws : List ByteArray} {k : Nat} {t : ByteArray} (h : ws[k]? = some t) (hk : k < 4) : (wd4 ws k).setIfInBounds k (.string t) = wd4 ws (k + 1) := by
  unfold wd4
  match k, hk with
  | 0, _ => rw [wdA_at h, wdA_next (ws := ws) (k := 0) (i := 1) (by omega), wdA_next (ws := ws) (k := 0) (i := 2) (by omega), wdA_next (ws := ws) (k := 0) (i := 3) (by omega)]; rfl
  | 1, _ => rw [wdA_at h, wdA_next (ws := ws) (k := 1) (i := 0) (by omega), wdA_next (ws := ws) (k := 1) (i := 2) (by omega), wdA_next (ws := ws) (k := 1) (i := 3) (by omega)]; rfl
  | 2, _ => rw [wdA_at h, wdA_next (ws := ws) (k := 2) (i := 0) (by omega), wdA_next (ws := ws) (k := 2) (i := 1) (by omega), wdA_next (ws := ws) (k := 2) (i := 3) (by omega)]; rfl
  | 3, _ => rw [wdA_at h, wdA_next (ws := ws) (k := 3) (i := 0) (by omega), wdA_next (ws := ws) (k := 3) (i := 1) (by omega), wdA_next (ws := ws) (k := 3) (i := 2) (by omega)]; rfl
/-- The boxes of lineWords. -/
structure LW (w W : World) (O : Obj) (cs : Array Value) : Prop where
  seg : W.heap[w.heap.size]? = some O
  res : W.heap[w.heap.size + 1]? = some (.cells #[.string ⟨#[]⟩, .string ⟨#[]⟩, .string ⟨#[]⟩, .string ⟨#[]⟩] 100)
  box : W.heap[w.heap.size + 2]? = some (.cells cs 100)
  bel : Below w.heap.size w W
theorem LW.below {w W W' : World} {O : Obj} {cs : Array Value} (h : LW w W O cs) (hb : Below W.heap.size W W') : LW w W' O cs :=
  ⟨(hb.block _ (Array.getElem?_eq_some_iff.1 h.seg).1).trans h.seg, (hb.block _ (Array.getElem?_eq_some_iff.1 h.res).1).trans h.res, (hb.block _ (Array.getElem?_eq_some_iff.1 h.box).1).trans h.box, h.bel.trans (hb.mono h.bel.size)⟩
theorem LW.put {w W : World} {O : Obj} {cs cs' : Array Value} (h : LW w W O cs) (k : Nat) (x : Value) (hc : cs.setIfInBounds k x = cs') : LW w (W.setCell ⟨w.heap.size + 2, k, none⟩ x) O cs' := by
  have hne : ∀ j, j ≠ w.heap.size + 2 → (W.setCell ⟨w.heap.size + 2, k, none⟩ x).heap[j]? = W.heap[j]? := fun j hj => Below.heap_setCell W ⟨w.heap.size + 2, k, none⟩ x j (fun e => hj e)
  refine ⟨(hne _ (by omega)).trans h.seg, (hne _ (by omega)).trans h.res, ?_, h.bel.setCell (show w.heap.size ≤ w.heap.size + 2 by omega) _⟩
  rw [← hc]
  exact heap_setCell_same W (w.heap.size + 2) k _ _ x h.box
end Go.Proofs.YtbefefmfpenkkaaGreatDoor
namespace Go.Proofs.YtbefefmfpenkkaaGreatDoor
open Go.ChangeShapes Go.WideShapes Go.ChangeAt Go.RowKit
theorem sbox' {W : World} {B t : Nat} {a0 a1 : Value} (h : W.heap[B]? = some (.cells #[a0, a1] t)) : W.cell? ⟨B, 0, none⟩ = some a0 ∧ W.cell? ⟨B, 1, none⟩ = some a1 ∧ ∀ o, W.frozen? ⟨B, o, none⟩ = false := by
  exact ⟨by simp [World.cell?, h], by simp [World.cell?, h], fun o => by simp [World.frozen?, h]⟩
set_option maxRecDepth 20000 in
set_option maxHeartbeats 8000000 in
theorem lineWords_any (tag : ByteArray) (v : Value) (ws : List ByteArray) (w : World) (h : RowE w v (ws.map fun t => [t])) (hl : ws.length ≤ 4) (hz : ∀ t ∈ ws, t.size ≤ 1048576) :
    Calls Tryz.prog 73 #[.agg #[.string tag, v]] w fun e w' => e = .returned (w4 ws) ∧ Below w.heap.size w w' := by
  obtain ⟨A, C, hv⟩ := h.val
  rw [List.length_map] at hv
  subst hv
  obtain ⟨W0, hW0⟩ : ∃ W0, ((w.alloc (.cells #[.string tag, .slice A ws.length C] 45)).alloc (.cells #[.string ⟨#[]⟩, .string ⟨#[]⟩, .string ⟨#[]⟩, .string ⟨#[]⟩] 100)).alloc (.cells #[.string ⟨#[]⟩, .string ⟨#[]⟩, .string ⟨#[]⟩, .string ⟨#[]⟩] 100) = W0 := ⟨_, rfl⟩
  have hb0 : Below w.heap.size w W0 := by rw [← hW0]; exact (((Below.refl _ _).alloc (Nat.le_refl _) _).alloc (by simp) _).alloc (by simp; omega) _
  obtain ⟨x0, x1, x2⟩ := thr_new w (.cells #[.string tag, .slice A ws.length C] 45) (.cells #[.string ⟨#[]⟩, .string ⟨#[]⟩, .string ⟨#[]⟩, .string ⟨#[]⟩] 100) (.cells #[.string ⟨#[]⟩, .string ⟨#[]⟩, .string ⟨#[]⟩, .string ⟨#[]⟩] 100)
  rw [hW0] at x0 x1 x2
  obtain ⟨O, hO⟩ : ∃ O, O = Obj.cells #[.string tag, .slice A ws.length C] 45 := ⟨_, rfl⟩
  have HQ0 : Hid (LW w W0 O (wd4 ws 0)) := ⟨by rw [hO]; exact x0, x1, x2, hb0⟩
  have HR : Hid (RowE w (.slice A ws.length C) (ws.map fun t => [t]) ∧ ∀ t ∈ ws, t.size ≤ 1048576) := ⟨h, hz⟩
  obtain ⟨s0, s1, _⟩ := sbox' x0
  have hs3 : W0.heap.size = w.heap.size + 3 := by rw [← hW0]; simp
  go_enter Tryz.func73, Tryz.ntmps73
  go_upto_region 2 with fail
  try rw [hW0]
  clear hW0 x0 x1 x2 hb0 h hz hO
  go_wp2_with fail
  go_loopw [9] (fun i wr => ∃ k : Nat, i = .int .i64 (k : Int) ∧ k ≤ ws.length ∧ LW w wr O (wd4 ws k)) (fun i _ => ws.length - (intOf i).toNat)
  case atStart => exact ⟨0, rfl, by omega, HQ0.out⟩
  case round =>
    obtain ⟨k, rfl, hk, hQ⟩ := hrel
    by_cases hlt : k < ws.length
    · have hlt' : (k : Int) < (ws.length : Int) := by omega
      obtain ⟨b, o, cap', e, u, e1, hs, q0, hRS⟩ := (HR.out.1.below hQ.bel).at (k := k) (by rw [List.length_map]; exact hlt)
      rw [List.length_map] at e1
      simp only [Value.slice.injEq, true_and] at e1
      obtain ⟨rfl, rfl⟩ := e1
      obtain ⟨t, ht⟩ : ∃ t, ws[k]? = some t := ⟨_, List.getElem?_eq_getElem hlt⟩
      rw [List.getElem?_map, ht] at hs
      simp only [Option.map_some, Option.some.injEq] at hs
      subst hs
      obtain ⟨b2, o2, c2, t2, e2, hs2, q1, _⟩ := hRS.at (k := 0) (by simp)
      simp only [List.getElem?_cons_zero, Option.some.injEq] at hs2
      subst hs2
      subst e2
      have htz := HR.out.2 t (List.mem_of_getElem? ht)
      simp only [Nat.add_zero] at q1
      obtain ⟨We, hWe⟩ : ∃ We, wr.alloc (.cells #[.slice (some ⟨b2, o2, none⟩) 1 c2] 67) = We := ⟨_, rfl⟩
      have be : Below wr.heap.size wr We := by rw [← hWe]; exact (Below.refl _ _).alloc (Nat.le_refl _) _
      have f0 : We.cell? ⟨wr.heap.size, 0, none⟩ = some (.slice (some ⟨b2, o2, none⟩) 1 c2) := by rw [← hWe]; simp [go_sem]
      have q1' := (be.cell (cell_lt q1)).trans q1
      have HE : Hid (LW w We O (wd4 ws k) ∧ ws[k]? = some t) := ⟨hQ.below be, ht⟩
      clear hQ hRS ht be q1
      go_upto_region 5 with fail
      try rw [hWe]
      clear hWe q0
      go_wp2_with fail
      refine (clone_any t _ (by omega)).mono ?_
      rintro e w3 ⟨rfl, hb3⟩
      have HE3 : Hid (LW w w3 O (wd4 ws k)) := HE.out.1.below hb3
      have HP : Hid (LW w (w3.setCell ⟨w.heap.size + 2, k, none⟩ (.string t)) O (wd4 ws (k + 1))) := HE3.out.put k _ (wd4_set HE.out.2 (by omega))
      obtain ⟨g0, g1, g2, g3⟩ := bx4 HE3.out.box
      have gz := frz5 HE3.out.box
      have hk4 : (k : Int) < 4 := by omega
      have gk : ∃ x, w3.cell? ⟨w.heap.size + 2, k, none⟩ = some (.string x) := by
        match k, (show k < 4 by omega) with
        | 0, _ => exact ⟨_, g0⟩
        | 1, _ => exact ⟨_, g1⟩
        | 2, _ => exact ⟨_, g2⟩
        | 3, _ => exact ⟨_, g3⟩
      obtain ⟨xk, gk⟩ := gk
      clear hb3 f0 q1' g0 g1 g2 g3
      go_wp2
      go_roundw
      case rel => exact ⟨k + 1, by go_num, by omega, HP.out⟩
      case measure => simp [intOf]; omega
    · obtain rfl : k = ws.length := by omega
      obtain ⟨g0, g1, g2, g3⟩ := bx4 hQ.box
      obtain ⟨r0, r1, r2, r3⟩ := bx4 hQ.res
      have rz := frz5 hQ.res
      have HF : Hid (Below w.heap.size w wr) := hQ.bel
      simp only [wdA_all] at g0 g1 g2 g3
      clear hQ
      go_wp2
      exact bodyPost_ret (v := w4 ws) (by simp [results, Tryz.results73, go_sem, r0, r1, r2, r3, w4]) rfl ⟨rfl, (((HF.out.setCell (show w.heap.size ≤ w.heap.size + 1 by omega) _).setCell (show w.heap.size ≤ w.heap.size + 1 by omega) _).setCell (show w.heap.size ≤ w.heap.size + 1 by omega) _).setCell (show w.heap.size ≤ w.heap.size + 1 by omega) _⟩
end Go.Proofs.YtbefefmfpenkkaaGreatDoor
namespace Go.Proofs.YtbefefmfpenkkaaGreatDoor
open Go.ChangeShapes Go.WideShapes Go.ChangeAt Go.RowKit
/-- The method of a kind. -/
def fnL (k : Int) : Nat := if k = 1 then 172 else if k = 2 ∨ k = 4 then 175 else if k = 3 then 177 else if k = 5 then 179 else if k = 6 then 181 else 183
theorem method_line (k : Int) (hk : 1 ≤ k ∧ k ≤ 7) (w : World) : (method 304 (tyK k) (.agg #[]) "loop.example/g00096/impl.line").run Tryz.prog w = .ok (fnL k, .agg #[]) w := by
  obtain rfl | rfl | rfl | rfl | rfl | rfl | rfl : k = 1 ∨ k = 2 ∨ k = 3 ∨ k = 4 ∨ k = 5 ∨ k = 6 ∨ k = 7 := by omega
  all_goals kernel_rfl
theorem call_line (k : Int) (hk : 1 ≤ k ∧ k ≤ 7) (a b : Value) (w : World) : (callFunc (fnL k) #[a, b]).run Tryz.prog w = .ok (.enter (fnL k) #[a, b]) w := by
  obtain rfl | rfl | rfl | rfl | rfl | rfl | rfl : k = 1 ∨ k = 2 ∨ k = 3 ∨ k = 4 ∨ k = 5 ∨ k = 6 ∨ k = 7 := by omega
  all_goals kernel_rfl
def lnV (l : Ln) : Value := .agg #[.int .i64 l.no, .string l.item, .int .i64 l.qty, .int .i64 l.money, .string l.note]
theorem optN_num (n : Int) (h : i64B n) : NumW (((optN n)[0]?).getD eT) n ∧ (((optN n)[0]?).getD eT).size ≤ 20 := by
  unfold optN
  split
  · rename_i q; exact ⟨.inr ⟨rfl, q⟩, Nat.zero_le _⟩
  · exact ⟨.inl ⟨numT_all n, h⟩, (decS_long n h.1 h.2).2⟩
theorem optT_get (t : ByteArray) : ((optT t)[0]?).getD eT = t := by
  unfold optT
  split
  · rename_i q; exact (empty_eT q).symm
  · rfl
set_option maxRecDepth 100000 in
theorem optT_one (t : ByteArray) : ((optT t)[1]?).getD eT = eT := by
  unfold optT
  split <;> rfl
theorem optN_one (n : Int) : ((optN n)[1]?).getD eT = eT := by
  unfold optN
  split <;> rfl
theorem line_any (k : Int) (hk : 1 ≤ k ∧ k ≤ 7) (l : Ln) (w : World) (hI : LnI l) (hE : ErrsAt w) : Calls Tryz.prog (fnL k) #[.agg #[], w4 (wordsI k l)] w fun e w' => e = .returned (lnV (lnI k l)) ∧ Below w.heap.size w w' := by
  have z0 := (decS_long l.no hI.1.1 hI.1.2).2
  have z1 := (decS_long l.qty hI.2.1.1 hI.2.1.2).2
  have n0 : NumW (decS l.no) l.no := .inl ⟨numT_all _, hI.1⟩
  have n1 : NumW (decS l.qty) l.qty := .inl ⟨numT_all _, hI.2.1⟩
  obtain ⟨n2, z2⟩ := optN_num l.money hI.2.2
  obtain rfl | rfl | rfl | rfl | rfl | rfl | rfl : k = 1 ∨ k = 2 ∨ k = 3 ∨ k = 4 ∨ k = 5 ∨ k = 6 ∨ k = 7 := by omega
  · have e : w4 (wordsI 1 l) = .agg #[.string (decS l.no), .string l.item, .string (decS l.qty), .string (((optN l.money)[0]?).getD eT)] := rfl
    rw [e]
    exact line_order (decS l.no) l.item (decS l.qty) (((optN l.money)[0]?).getD eT) l.no l.qty l.money w (by omega) n0 (by omega) n1 (by omega) n2 hE
  · have := line_answer (decS l.no) (decS l.qty) (((optT l.note)[0]?).getD eT) eT l.no l.qty w (by omega) n0 (by omega) n1 hE
    rw [optT_get] at this
    have e : w4 (wordsI 2 l) = .agg #[.string (decS l.no), .string (decS l.qty), .string l.note, .string eT] := by
      show Value.agg #[.string (decS l.no), .string (decS l.qty), .string (((optT l.note)[0]?).getD eT), .string (((optT l.note)[1]?).getD eT)] = _
      rw [optT_get, optT_one]
    rw [e]
    exact this
  · exact line_sent (decS l.no) (decS l.qty) eT eT l.no l.qty w (by omega) n0 (by omega) n1 hE
  · have := line_answer (decS l.no) (decS l.qty) (((optT l.note)[0]?).getD eT) eT l.no l.qty w (by omega) n0 (by omega) n1 hE
    rw [optT_get] at this
    have e : w4 (wordsI 4 l) = .agg #[.string (decS l.no), .string (decS l.qty), .string l.note, .string eT] := by
      show Value.agg #[.string (decS l.no), .string (decS l.qty), .string (((optT l.note)[0]?).getD eT), .string (((optT l.note)[1]?).getD eT)] = _
      rw [optT_get, optT_one]
    rw [e]
    exact this
  · exact line_stock l.item (decS l.qty) eT eT l.qty w (by omega) n1 hE
  · have := line_adjust l.item (decS l.qty) (((optT l.note)[0]?).getD eT) eT l.qty w (by omega) n1 hE
    rw [optT_get] at this
    have e : w4 (wordsI 6 l) = .agg #[.string l.item, .string (decS l.qty), .string l.note, .string eT] := by
      show Value.agg #[.string l.item, .string (decS l.qty), .string (((optT l.note)[0]?).getD eT), .string (((optT l.note)[1]?).getD eT)] = _
      rw [optT_get, optT_one]
    rw [e]
    exact this
  · have e : w4 (wordsI 7 l) = .agg #[.string (decS l.no), .string (decS l.qty), .string (((optN l.money)[0]?).getD eT), .string eT] := by
      show Value.agg #[.string (decS l.no), .string (decS l.qty), .string (((optN l.money)[0]?).getD eT), .string (((optN l.money)[1]?).getD eT)] = _
      rw [optN_one]
    rw [e]
    exact line_heard (decS l.no) (decS l.qty) (((optN l.money)[0]?).getD eT) eT l.no l.qty l.money w (by omega) n0 (by omega) n1 (by omega) n2 hE
/-- The one or the other. -/
def selB (o : Bool) (a b : ByteArray) : ByteArray := if o = true then a else b
theorem pb_set {W : World} {P : Nat} {cs : Array Value} {t : Nat} (h : W.heap[P]? = some (.cells cs t)) (i : Nat) (x : Value) : (W.setCell ⟨P, i, none⟩ x).heap[P]? = some (.cells (cs.setIfInBounds i x) t) := heap_setCell_same W P i _ _ x h
set_option maxRecDepth 20000 in
set_option maxHeartbeats 8000000 in
theorem setDoc_any (P : Nat) (k : Int) (r0 o0 : ByteArray) (d0 : Int) (vn vl : Value) (a0 a1 a2 a3 : ByteArray) (n : Int) (Wb w : World) (hk : 1 ≤ k ∧ k ≤ 7) (hx : w.heap[P]? = some (.cells #[.int .i64 k, .string r0, .string o0, .int .i64 d0, vn, vl] 30)) (hV : VarsAt Wb) (hb : Below Wb.heap.size Wb w) (hP : Wb.heap.size ≤ P)
    (hz : a1.size ≤ 281474976710656 ∧ a2.size ≤ 281474976710656) (hn : NumW (selB (hasO k) a2 a1) n) :
    Calls Tryz.prog 74 #[.pointer (some ⟨P, 0, none⟩), .agg #[.string a0, .string a1, .string a2, .string a3]] w fun e w' => e = .returned (.tuple #[]) ∧ w'.heap[P]? = some (.cells #[.int .i64 k, .string a0, .string (selB (hasO k) a1 o0), .int .i64 n, vn, vl] 30) ∧ Keep P w w' := by
  obtain ⟨o, ho⟩ : ∃ o, o = hasO k := ⟨_, rfl⟩
  rw [← ho] at hn ⊢
  have HO : Hid (o = hasO k) := ho
  clear ho
  have hlt := (Array.getElem?_eq_some_iff.1 hx).1
  obtain ⟨W1, hW1⟩ : ∃ W1, w.alloc (.cells #[.string a0, .string a1, .string a2, .string a3] 100) = W1 := ⟨_, rfl⟩
  have b1 : Below w.heap.size w W1 := by rw [← hW1]; exact (Below.refl _ _).alloc (Nat.le_refl _) _
  have y1 : W1.heap[w.heap.size]? = some (.cells #[.string a0, .string a1, .string a2, .string a3] 100) := by rw [← hW1]; exact World.alloc_heap_new _ _
  have x1 : W1.heap[P]? = some (.cells #[.int .i64 k, .string r0, .string o0, .int .i64 d0, vn, vl] 30) := (b1.block _ hlt).trans hx
  obtain ⟨c0, c1, c2, c3, c4, c5⟩ := pbox x1
  have cz := frz5 x1
  obtain ⟨W2, hW2⟩ : ∃ W2, W1.setCell ⟨P, 1, none⟩ (.string a0) = W2 := ⟨_, rfl⟩
  have x2 : W2.heap[P]? = some (.cells #[.int .i64 k, .string a0, .string o0, .int .i64 d0, vn, vl] 30) := by rw [← hW2]; exact pb_set x1 1 _
  have k2 : Keep P w W2 := by rw [← hW2]; exact (Keep.of_below b1).setCell 1 _
  have y2 : W2.heap[w.heap.size]? = some (.cells #[.string a0, .string a1, .string a2, .string a3] 100) := by rw [← hW2, Below.heap_setCell _ _ _ _ (show w.heap.size ≠ P by omega)]; exact y1
  have v2 : VarsAt W2 := hV.below (hb.trans (k2.below hP hb.size))
  obtain ⟨s0, s1, s2, s3⟩ := bx4 y1
  go_enter Tryz.func74, Tryz.ntmps74
  go_upto_region 2 with fail
  try rw [hW1]
  try rw [hW2]
  clear hW2 hW1 b1 y1 x1 c0 c1 c2 c3 c4 c5 cz hx hV hb hlt s0 s1 s2 s3
  obtain ⟨c0, c1, c2, c3, c4, c5⟩ := pbox x2
  obtain ⟨s0, s1, s2, s3⟩ := bx4 y2
  have HK : Hid (Keep P w W2 ∧ W2.heap[P]? = some (.cells #[.int .i64 k, .string a0, .string o0, .int .i64 d0, vn, vl] 30) ∧ ErrsAt W2 ∧ W2.heap[w.heap.size]? = some (.cells #[.string a0, .string a1, .string a2, .string a3] 100)) := ⟨k2, x2, v2.errs, y2⟩
  have hv2 := v2.tabs
  clear k2 x2 v2 y2
  have Q1 := hasOther_any k W2 hk hv2
  rw [← HO.out] at Q1
  clear HO hv2
  go_wp2_with fail
  refine Q1.mono ?_
  rintro e W2 ⟨rfl, rfl⟩
  clear Q1
  have HX : Hid (∀ W, Below W2.heap.size W2 W → (W.cell? ⟨P, 0, none⟩ = some (.int .i64 k) ∧ W.cell? ⟨P, 1, none⟩ = some (.string a0) ∧ W.cell? ⟨P, 2, none⟩ = some (.string o0) ∧ W.cell? ⟨P, 3, none⟩ = some (.int .i64 d0) ∧ W.cell? ⟨P, 4, none⟩ = some (vn) ∧ W.cell? ⟨P, 5, none⟩ = some (vl)) ∧ (W.cell? ⟨w.heap.size, 0, none⟩ = some (.string a0) ∧ W.cell? ⟨w.heap.size, 1, none⟩ = some (.string a1) ∧ W.cell? ⟨w.heap.size, 2, none⟩ = some (.string a2) ∧ W.cell? ⟨w.heap.size, 3, none⟩ = some (.string a3)) ∧ (∀ o, W.frozen? ⟨P, o, none⟩ = false) ∧ W.heap[P]? = some (.cells #[.int .i64 k, .string a0, .string o0, .int .i64 d0, vn, vl] 30)) := fun W hW => by
    have q1 := (hW.block _ (Array.getElem?_eq_some_iff.1 HK.out.2.1).1).trans HK.out.2.1
    have q2 := (hW.block _ (Array.getElem?_eq_some_iff.1 HK.out.2.2.2).1).trans HK.out.2.2.2
    exact ⟨pbox q1, bx4 q2, frz5 q1, q1⟩
  cases o with
  | true =>
    clear c0 c1 c2 c3 c4 c5 s0 s1 s2 s3
    obtain ⟨⟨c0, c1, c2, c3, c4, c5⟩, ⟨s0, s1, s2, s3⟩, cz, _⟩ := HX.out W2 (Below.refl _ _)
    go_upto_region 3 with fail
    go_region_law (first | (go_simp; go_at_call 84; refine (numberOf_any a2 n _ hz.2 (by first | exact HK.out.2.2.1 | exact HK.out.2.2.1.drewP) hn).mono ?_; rintro e w5 ⟨rfl, hb5⟩; have b5 : Below W2.heap.size W2 w5 := (by first | exact hb5 | exact undrewP hb5); obtain ⟨⟨g0, g1, g2, g3, g4, g5⟩, ⟨h0, h1, h2, h3⟩, gz, hx5⟩ := HX.out w5 b5; clear hb5; try dsimp only) | fail)
    all_goals
      go_wp2
      exact bodyPost_ret (v := .tuple #[]) (by simp [results, Tryz.results74, go_sem]) rfl ⟨rfl, by first | exact pb_set (pb_set hx5 2 _) 3 _ | exact pb_set (pb_set hx5 3 _) 2 _, ((HK.out.1.trans (Keep.of_below b5)).setCell _ _).setCell _ _⟩
  | false =>
    clear c0 c1 c2 c3 c4 c5 s0 s1 s2 s3
    obtain ⟨⟨c0, c1, c2, c3, c4, c5⟩, ⟨s0, s1, s2, s3⟩, cz, _⟩ := HX.out W2 (Below.refl _ _)
    go_wp2_with fail
    refine (numberOf_any a1 n _ hz.1 HK.out.2.2.1 hn).mono ?_
    rintro e w5 ⟨rfl, b5⟩
    obtain ⟨⟨g0, g1, g2, g3, g4, g5⟩, ⟨h0, h1, h2, h3⟩, gz, hx5⟩ := HX.out w5 b5
    have HF : Hid (Keep P w (w5.setCell ⟨P, 3, none⟩ (.int .i64 n)) ∧ w5.heap[P]? = some (.cells #[.int .i64 k, .string a0, .string o0, .int .i64 d0, vn, vl] 30)) := ⟨(HK.out.1.trans (Keep.of_below b5)).setCell _ _, hx5⟩
    clear b5 hx5
    go_wp2
    go_end0
    exact ⟨rfl, pb_set HF.out.2 3 _, HF.out.1⟩
end Go.Proofs.YtbefefmfpenkkaaGreatDoor
