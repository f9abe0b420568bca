/- Texts of ours put together: PsD, PsE. -/
import Derived.Test.YtkaolpnbddjdpaaGreatDoorG15
import Derived.Test.YtkaolpnbddjdpaaGreatDoorG13
import Derived.Deep.RegionHeld3
import Derived.Test.YtkaolpnbddjdpaaGreatDoorG17
import Derived.Test.YtkaolpnbddjdpaaGreatDoorG23
namespace Go.Proofs.YtkaolpnbddjdpaaGreatDoor
open Go.ChangeShapes Go.WideShapes Go.ChangeAt Go.RowKit
set_option maxRecDepth 20000 in
set_option maxHeartbeats 16000000 in
theorem read_1 (tag : ByteArray) (v : Value) (es : List (List ByteArray)) (n0 n2 n3 : Int) (w : World) (h : RowE w v es) (hE : BdE 1048576 es) (hn0 : NumE es 0 n0) (hn2 : NumE es 2 n2) (hn3 : NumE es 3 n3) :
    Calls Tryz.prog 118 #[.int .i64 1, .agg #[.string tag, v]] w fun e w' => e = .returned (.agg #[.int .i64 n0, .string (partF es 1 0), .int .i64 n2, .int .i64 n3, .string ⟨#[]⟩]) ∧ Below w.heap.size w w' := by
  obtain ⟨A, C, rfl⟩ := h.val
  obtain ⟨W0, hW0⟩ : ∃ W0, (w.alloc (.cells #[.string tag, .slice A es.length C] 90)).alloc (.cells #[.int .i64 0, .string ⟨#[]⟩, .int .i64 0, .int .i64 0, .string ⟨#[]⟩] 121) = W0 := ⟨_, rfl⟩
  have hb0 : Below w.heap.size w W0 := by rw [← hW0]; exact ((Below.refl _ _).alloc (Nat.le_refl _) _).alloc (by simp) _
  have x0 : W0.heap[w.heap.size]? = some (.cells #[.string tag, .slice A es.length C] 90) := by rw [← hW0]; exact two_old _ _ _
  have x1 : W0.heap[w.heap.size + 1]? = some (.cells #[.int .i64 0, .string ⟨#[]⟩, .int .i64 0, .int .i64 0, .string ⟨#[]⟩] 121) := by rw [← hW0]; exact two_new _ _ _
  have HC : Hid (Below w.heap.size w W0 ∧ RowE W0 (.slice A es.length C) es ∧ BdE 1048576 es ∧ ∀ W, Below W0.heap.size W0 W → (W.cell? ⟨w.heap.size, 0, none⟩ = some (.string tag) ∧ W.cell? ⟨w.heap.size, 1, none⟩ = some (.slice A es.length C)) ∧ W.cell? ⟨w.heap.size + 1, 0, none⟩ = some (.int .i64 0) ∧ W.cell? ⟨w.heap.size + 1, 1, none⟩ = some (.string ⟨#[]⟩) ∧ W.cell? ⟨w.heap.size + 1, 2, none⟩ = some (.int .i64 0) ∧ W.cell? ⟨w.heap.size + 1, 3, none⟩ = some (.int .i64 0) ∧ W.cell? ⟨w.heap.size + 1, 4, none⟩ = some (.string ⟨#[]⟩) ∧ ∀ o, W.frozen? ⟨w.heap.size + 1, o, none⟩ = false) := ⟨hb0, h.below hb0, hE, fun W hW => by
    have y0 := (hW.block _ (Array.getElem?_eq_some_iff.1 x0).1).trans x0
    have y1 := (hW.block _ (Array.getElem?_eq_some_iff.1 x1).1).trans x1
    obtain ⟨k0, k1, k2, k3, k4⟩ := box5 y1
    exact ⟨⟨(sbox y0).1, (sbox y0).2.1⟩, k0, k1, k2, k3, k4, frz5 y1⟩⟩
  obtain ⟨⟨c0, c1⟩, d0, d1, d2, d3, d4, d5⟩ := HC.out.2.2.2 W0 (Below.refl _ _)
  go_enter Tryz.func118, Tryz.ntmps118
  go_upto_region 1 with fail
  try rw [hW0]
  clear hW0 x0 x1 hb0 h hE
  go_upto_region 3 with fail
  go_region_held3 (fun W => W.cell? ⟨w.heap.size, 0, none⟩ = some (.string tag) ∧ W.cell? ⟨w.heap.size, 1, none⟩ = some (.slice A es.length C)) (go_keep) (first | (go_at_call_of 117 (Value.int IntKind.i64 3); refine (l05Num_any tag _ es 3 n3 _ (by first | exact Ev | exact Ev.below (Below.refl _ _).drew) HC.out.2.2.1 hn3).mono ?_; rintro e wt ⟨rfl, hbt⟩; have bt : Below W0.heap.size W0 wt := bv.trans ((by first | exact hbt | exact undrewP hbt : Below wv.heap.size wv wt).mono bv.size); have Et := HC.out.2.1.below bt; obtain ⟨⟨t0, t1⟩, t4, t5, t6, t7, t8, t9⟩ := HC.out.2.2.2 wt bt; clear hbt; try dsimp only) | (go_at_call_of 117 (Value.int IntKind.i64 2); refine (l05Num_any tag _ es 2 n2 _ (by first | exact Eu | exact Eu.below (Below.refl _ _).drew) HC.out.2.2.1 hn2).mono ?_; rintro e wv ⟨rfl, hbv⟩; have bv : Below W0.heap.size W0 wv := bu.trans ((by first | exact hbv | exact undrewP hbv : Below wu.heap.size wu wv).mono bu.size); have Ev := HC.out.2.1.below bv; obtain ⟨⟨v0, v1⟩, v4, v5, v6, v7, v8, v9⟩ := HC.out.2.2.2 wv bv; clear hbv; try dsimp only) | (go_at_call_of 116 (Value.int IntKind.i64 1); refine (part_spec tag _ es 1 0 _ (by first | exact Ex | exact Ex.below (Below.refl _ _).drew) HC.out.2.2.1).mono ?_; rintro e wu ⟨rfl, hbu⟩; have bu : Below W0.heap.size W0 wu := bx.trans ((by first | exact hbu | exact undrewP hbu : Below wx.heap.size wx wu).mono bx.size); have Eu := HC.out.2.1.below bu; obtain ⟨⟨u0, u1⟩, u4, u5, u6, u7, u8, u9⟩ := HC.out.2.2.2 wu bu; clear hbu; try dsimp only) | (go_at_call_of 117 (Value.int IntKind.i64 0); refine (l05Num_any tag _ es 0 n0 _ (by first | exact HC.out.2.1 | exact HC.out.2.1.below (Below.refl _ _).drew) HC.out.2.2.1 hn0).mono ?_; rintro e wx ⟨rfl, hbx⟩; have bx : Below W0.heap.size W0 wx := (by first | exact hbx | exact undrewP hbx); have Ex := HC.out.2.1.below bx; obtain ⟨⟨x0, x1⟩, x4, x5, x6, x7, x8, x9⟩ := HC.out.2.2.2 wx bx; clear hbx; try dsimp only) | fail)
  rename_i hHeld
  clear hHeld
  have HB : Hid (Below w.heap.size w wt) := HC.out.1.trans (bt.mono HC.out.1.size)
  have HBw : Hid (w.heap.size ≤ w.heap.size + 1) := by show _ ≤ _; omega
  go_wp2
  exact bodyPost_ret (v := .agg #[.int .i64 n0, .string (partF es 1 0), .int .i64 n2, .int .i64 n3, .string ⟨#[]⟩]) (by simp [results, Tryz.results118, go_sem, t4, t5, t6, t7, t8]) rfl ⟨rfl, ((((HB.out.setCell HBw.out _).setCell HBw.out _).setCell HBw.out _).setCell HBw.out _).setCell HBw.out _⟩
set_option maxRecDepth 20000 in
set_option maxHeartbeats 16000000 in
theorem read_5 (tag : ByteArray) (v : Value) (es : List (List ByteArray)) (n1 : Int) (w : World) (h : RowE w v es) (hE : BdE 1048576 es) (hn1 : NumE es 1 n1) :
    Calls Tryz.prog 118 #[.int .i64 5, .agg #[.string tag, v]] w fun e w' => e = .returned (.agg #[.int .i64 0, .string (partF es 0 0), .int .i64 n1, .int .i64 0, .string ⟨#[]⟩]) ∧ Below w.heap.size w w' := by
  obtain ⟨A, C, rfl⟩ := h.val
  obtain ⟨W0, hW0⟩ : ∃ W0, (w.alloc (.cells #[.string tag, .slice A es.length C] 90)).alloc (.cells #[.int .i64 0, .string ⟨#[]⟩, .int .i64 0, .int .i64 0, .string ⟨#[]⟩] 121) = W0 := ⟨_, rfl⟩
  have hb0 : Below w.heap.size w W0 := by rw [← hW0]; exact ((Below.refl _ _).alloc (Nat.le_refl _) _).alloc (by simp) _
  have x0 : W0.heap[w.heap.size]? = some (.cells #[.string tag, .slice A es.length C] 90) := by rw [← hW0]; exact two_old _ _ _
  have x1 : W0.heap[w.heap.size + 1]? = some (.cells #[.int .i64 0, .string ⟨#[]⟩, .int .i64 0, .int .i64 0, .string ⟨#[]⟩] 121) := by rw [← hW0]; exact two_new _ _ _
  have HC : Hid (Below w.heap.size w W0 ∧ RowE W0 (.slice A es.length C) es ∧ BdE 1048576 es ∧ ∀ W, Below W0.heap.size W0 W → (W.cell? ⟨w.heap.size, 0, none⟩ = some (.string tag) ∧ W.cell? ⟨w.heap.size, 1, none⟩ = some (.slice A es.length C)) ∧ W.cell? ⟨w.heap.size + 1, 0, none⟩ = some (.int .i64 0) ∧ W.cell? ⟨w.heap.size + 1, 1, none⟩ = some (.string ⟨#[]⟩) ∧ W.cell? ⟨w.heap.size + 1, 2, none⟩ = some (.int .i64 0) ∧ W.cell? ⟨w.heap.size + 1, 3, none⟩ = some (.int .i64 0) ∧ W.cell? ⟨w.heap.size + 1, 4, none⟩ = some (.string ⟨#[]⟩) ∧ ∀ o, W.frozen? ⟨w.heap.size + 1, o, none⟩ = false) := ⟨hb0, h.below hb0, hE, fun W hW => by
    have y0 := (hW.block _ (Array.getElem?_eq_some_iff.1 x0).1).trans x0
    have y1 := (hW.block _ (Array.getElem?_eq_some_iff.1 x1).1).trans x1
    obtain ⟨k0, k1, k2, k3, k4⟩ := box5 y1
    exact ⟨⟨(sbox y0).1, (sbox y0).2.1⟩, k0, k1, k2, k3, k4, frz5 y1⟩⟩
  obtain ⟨⟨c0, c1⟩, d0, d1, d2, d3, d4, d5⟩ := HC.out.2.2.2 W0 (Below.refl _ _)
  go_enter Tryz.func118, Tryz.ntmps118
  go_upto_region 1 with fail
  try rw [hW0]
  clear hW0 x0 x1 hb0 h hE
  go_upto_region 5 with fail
  go_region_held3 (fun W => W.cell? ⟨w.heap.size, 0, none⟩ = some (.string tag) ∧ W.cell? ⟨w.heap.size, 1, none⟩ = some (.slice A es.length C)) (go_keep) (first | (go_at_call_of 117 (Value.int IntKind.i64 1); refine (l05Num_any tag _ es 1 n1 _ (by first | exact Ex | exact Ex.below (Below.refl _ _).drew) HC.out.2.2.1 hn1).mono ?_; rintro e wu ⟨rfl, hbu⟩; have bu : Below W0.heap.size W0 wu := bx.trans ((by first | exact hbu | exact undrewP hbu : Below wx.heap.size wx wu).mono bx.size); have Eu := HC.out.2.1.below bu; obtain ⟨⟨u0, u1⟩, u4, u5, u6, u7, u8, u9⟩ := HC.out.2.2.2 wu bu; clear hbu; try dsimp only) | (go_at_call_of 116 (Value.int IntKind.i64 0); refine (part_spec tag _ es 0 0 _ (by first | exact HC.out.2.1 | exact HC.out.2.1.below (Below.refl _ _).drew) HC.out.2.2.1).mono ?_; rintro e wx ⟨rfl, hbx⟩; have bx : Below W0.heap.size W0 wx := (by first | exact hbx | exact undrewP hbx); have Ex := HC.out.2.1.below bx; obtain ⟨⟨x0, x1⟩, x4, x5, x6, x7, x8, x9⟩ := HC.out.2.2.2 wx bx; clear hbx; try dsimp only) | fail)
  rename_i hHeld
  clear hHeld
  have HB : Hid (Below w.heap.size w wu) := HC.out.1.trans (bu.mono HC.out.1.size)
  have HBw : Hid (w.heap.size ≤ w.heap.size + 1) := by show _ ≤ _; omega
  go_wp2
  exact bodyPost_ret (v := .agg #[.int .i64 0, .string (partF es 0 0), .int .i64 n1, .int .i64 0, .string ⟨#[]⟩]) (by simp [results, Tryz.results118, go_sem, u4, u5, u6, u7, u8]) rfl ⟨rfl, ((((HB.out.setCell HBw.out _).setCell HBw.out _).setCell HBw.out _).setCell HBw.out _).setCell HBw.out _⟩
set_option maxRecDepth 20000 in
set_option maxHeartbeats 16000000 in
theorem read_6 (tag : ByteArray) (v : Value) (es : List (List ByteArray)) (n1 : Int) (w : World) (h : RowE w v es) (hE : BdE 1048576 es) (hn1 : NumE es 1 n1) :
    Calls Tryz.prog 118 #[.int .i64 6, .agg #[.string tag, v]] w fun e w' => e = .returned (.agg #[.int .i64 0, .string (partF es 0 0), .int .i64 n1, .int .i64 0, .string (partF es 2 0)]) ∧ Below w.heap.size w w' := by
  obtain ⟨A, C, rfl⟩ := h.val
  obtain ⟨W0, hW0⟩ : ∃ W0, (w.alloc (.cells #[.string tag, .slice A es.length C] 90)).alloc (.cells #[.int .i64 0, .string ⟨#[]⟩, .int .i64 0, .int .i64 0, .string ⟨#[]⟩] 121) = W0 := ⟨_, rfl⟩
  have hb0 : Below w.heap.size w W0 := by rw [← hW0]; exact ((Below.refl _ _).alloc (Nat.le_refl _) _).alloc (by simp) _
  have x0 : W0.heap[w.heap.size]? = some (.cells #[.string tag, .slice A es.length C] 90) := by rw [← hW0]; exact two_old _ _ _
  have x1 : W0.heap[w.heap.size + 1]? = some (.cells #[.int .i64 0, .string ⟨#[]⟩, .int .i64 0, .int .i64 0, .string ⟨#[]⟩] 121) := by rw [← hW0]; exact two_new _ _ _
  have HC : Hid (Below w.heap.size w W0 ∧ RowE W0 (.slice A es.length C) es ∧ BdE 1048576 es ∧ ∀ W, Below W0.heap.size W0 W → (W.cell? ⟨w.heap.size, 0, none⟩ = some (.string tag) ∧ W.cell? ⟨w.heap.size, 1, none⟩ = some (.slice A es.length C)) ∧ W.cell? ⟨w.heap.size + 1, 0, none⟩ = some (.int .i64 0) ∧ W.cell? ⟨w.heap.size + 1, 1, none⟩ = some (.string ⟨#[]⟩) ∧ W.cell? ⟨w.heap.size + 1, 2, none⟩ = some (.int .i64 0) ∧ W.cell? ⟨w.heap.size + 1, 3, none⟩ = some (.int .i64 0) ∧ W.cell? ⟨w.heap.size + 1, 4, none⟩ = some (.string ⟨#[]⟩) ∧ ∀ o, W.frozen? ⟨w.heap.size + 1, o, none⟩ = false) := ⟨hb0, h.below hb0, hE, fun W hW => by
    have y0 := (hW.block _ (Array.getElem?_eq_some_iff.1 x0).1).trans x0
    have y1 := (hW.block _ (Array.getElem?_eq_some_iff.1 x1).1).trans x1
    obtain ⟨k0, k1, k2, k3, k4⟩ := box5 y1
    exact ⟨⟨(sbox y0).1, (sbox y0).2.1⟩, k0, k1, k2, k3, k4, frz5 y1⟩⟩
  obtain ⟨⟨c0, c1⟩, d0, d1, d2, d3, d4, d5⟩ := HC.out.2.2.2 W0 (Below.refl _ _)
  go_enter Tryz.func118, Tryz.ntmps118
  go_upto_region 1 with fail
  try rw [hW0]
  clear hW0 x0 x1 hb0 h hE
  go_upto_region 7 with fail
  go_region_held3 (fun W => W.cell? ⟨w.heap.size, 0, none⟩ = some (.string tag) ∧ W.cell? ⟨w.heap.size, 1, none⟩ = some (.slice A es.length C)) (go_keep) (first | (go_at_call_of 116 (Value.int IntKind.i64 2); refine (part_spec tag _ es 2 0 _ (by first | exact Eu | exact Eu.below (Below.refl _ _).drew) HC.out.2.2.1).mono ?_; rintro e wv ⟨rfl, hbv⟩; have bv : Below W0.heap.size W0 wv := bu.trans ((by first | exact hbv | exact undrewP hbv : Below wu.heap.size wu wv).mono bu.size); have Ev := HC.out.2.1.below bv; obtain ⟨⟨v0, v1⟩, v4, v5, v6, v7, v8, v9⟩ := HC.out.2.2.2 wv bv; clear hbv; try dsimp only) | (go_at_call_of 117 (Value.int IntKind.i64 1); refine (l05Num_any tag _ es 1 n1 _ (by first | exact Ex | exact Ex.below (Below.refl _ _).drew) HC.out.2.2.1 hn1).mono ?_; rintro e wu ⟨rfl, hbu⟩; have bu : Below W0.heap.size W0 wu := bx.trans ((by first | exact hbu | exact undrewP hbu : Below wx.heap.size wx wu).mono bx.size); have Eu := HC.out.2.1.below bu; obtain ⟨⟨u0, u1⟩, u4, u5, u6, u7, u8, u9⟩ := HC.out.2.2.2 wu bu; clear hbu; try dsimp only) | (go_at_call_of 116 (Value.int IntKind.i64 0); refine (part_spec tag _ es 0 0 _ (by first | exact HC.out.2.1 | exact HC.out.2.1.below (Below.refl _ _).drew) HC.out.2.2.1).mono ?_; rintro e wx ⟨rfl, hbx⟩; have bx : Below W0.heap.size W0 wx := (by first | exact hbx | exact undrewP hbx); have Ex := HC.out.2.1.below bx; obtain ⟨⟨x0, x1⟩, x4, x5, x6, x7, x8, x9⟩ := HC.out.2.2.2 wx bx; clear hbx; try dsimp only) | fail)
  rename_i hHeld
  clear hHeld
  have HB : Hid (Below w.heap.size w wv) := HC.out.1.trans (bv.mono HC.out.1.size)
  have HBw : Hid (w.heap.size ≤ w.heap.size + 1) := by show _ ≤ _; omega
  go_wp2
  exact bodyPost_ret (v := .agg #[.int .i64 0, .string (partF es 0 0), .int .i64 n1, .int .i64 0, .string (partF es 2 0)]) (by simp [results, Tryz.results118, go_sem, v4, v5, v6, v7, v8]) rfl ⟨rfl, ((((HB.out.setCell HBw.out _).setCell HBw.out _).setCell HBw.out _).setCell HBw.out _).setCell HBw.out _⟩
set_option maxRecDepth 20000 in
set_option maxHeartbeats 16000000 in
theorem read_7 (tag : ByteArray) (v : Value) (es : List (List ByteArray)) (n0 n1 n2 : Int) (w : World) (h : RowE w v es) (hE : BdE 1048576 es) (hn0 : NumE es 0 n0) (hn1 : NumE es 1 n1) (hn2 : NumE es 2 n2) :
    Calls Tryz.prog 118 #[.int .i64 7, .agg #[.string tag, v]] w fun e w' => e = .returned (.agg #[.int .i64 n0, .string ⟨#[]⟩, .int .i64 n1, .int .i64 n2, .string ⟨#[]⟩]) ∧ Below w.heap.size w w' := by
  obtain ⟨A, C, rfl⟩ := h.val
  obtain ⟨W0, hW0⟩ : ∃ W0, (w.alloc (.cells #[.string tag, .slice A es.length C] 90)).alloc (.cells #[.int .i64 0, .string ⟨#[]⟩, .int .i64 0, .int .i64 0, .string ⟨#[]⟩] 121) = W0 := ⟨_, rfl⟩
  have hb0 : Below w.heap.size w W0 := by rw [← hW0]; exact ((Below.refl _ _).alloc (Nat.le_refl _) _).alloc (by simp) _
  have x0 : W0.heap[w.heap.size]? = some (.cells #[.string tag, .slice A es.length C] 90) := by rw [← hW0]; exact two_old _ _ _
  have x1 : W0.heap[w.heap.size + 1]? = some (.cells #[.int .i64 0, .string ⟨#[]⟩, .int .i64 0, .int .i64 0, .string ⟨#[]⟩] 121) := by rw [← hW0]; exact two_new _ _ _
  have HC : Hid (Below w.heap.size w W0 ∧ RowE W0 (.slice A es.length C) es ∧ BdE 1048576 es ∧ ∀ W, Below W0.heap.size W0 W → (W.cell? ⟨w.heap.size, 0, none⟩ = some (.string tag) ∧ W.cell? ⟨w.heap.size, 1, none⟩ = some (.slice A es.length C)) ∧ W.cell? ⟨w.heap.size + 1, 0, none⟩ = some (.int .i64 0) ∧ W.cell? ⟨w.heap.size + 1, 1, none⟩ = some (.string ⟨#[]⟩) ∧ W.cell? ⟨w.heap.size + 1, 2, none⟩ = some (.int .i64 0) ∧ W.cell? ⟨w.heap.size + 1, 3, none⟩ = some (.int .i64 0) ∧ W.cell? ⟨w.heap.size + 1, 4, none⟩ = some (.string ⟨#[]⟩) ∧ ∀ o, W.frozen? ⟨w.heap.size + 1, o, none⟩ = false) := ⟨hb0, h.below hb0, hE, fun W hW => by
    have y0 := (hW.block _ (Array.getElem?_eq_some_iff.1 x0).1).trans x0
    have y1 := (hW.block _ (Array.getElem?_eq_some_iff.1 x1).1).trans x1
    obtain ⟨k0, k1, k2, k3, k4⟩ := box5 y1
    exact ⟨⟨(sbox y0).1, (sbox y0).2.1⟩, k0, k1, k2, k3, k4, frz5 y1⟩⟩
  obtain ⟨⟨c0, c1⟩, d0, d1, d2, d3, d4, d5⟩ := HC.out.2.2.2 W0 (Below.refl _ _)
  go_enter Tryz.func118, Tryz.ntmps118
  go_upto_region 1 with fail
  try rw [hW0]
  clear hW0 x0 x1 hb0 h hE
  go_upto_region 9 with fail
  go_region_held3 (fun W => W.cell? ⟨w.heap.size, 0, none⟩ = some (.string tag) ∧ W.cell? ⟨w.heap.size, 1, none⟩ = some (.slice A es.length C)) (go_keep) (first | (go_at_call_of 117 (Value.int IntKind.i64 2); refine (l05Num_any tag _ es 2 n2 _ (by first | exact Eu | exact Eu.below (Below.refl _ _).drew) HC.out.2.2.1 hn2).mono ?_; rintro e wv ⟨rfl, hbv⟩; have bv : Below W0.heap.size W0 wv := bu.trans ((by first | exact hbv | exact undrewP hbv : Below wu.heap.size wu wv).mono bu.size); have Ev := HC.out.2.1.below bv; obtain ⟨⟨v0, v1⟩, v4, v5, v6, v7, v8, v9⟩ := HC.out.2.2.2 wv bv; clear hbv; try dsimp only) | (go_at_call_of 117 (Value.int IntKind.i64 1); refine (l05Num_any tag _ es 1 n1 _ (by first | exact Ex | exact Ex.below (Below.refl _ _).drew) HC.out.2.2.1 hn1).mono ?_; rintro e wu ⟨rfl, hbu⟩; have bu : Below W0.heap.size W0 wu := bx.trans ((by first | exact hbu | exact undrewP hbu : Below wx.heap.size wx wu).mono bx.size); have Eu := HC.out.2.1.below bu; obtain ⟨⟨u0, u1⟩, u4, u5, u6, u7, u8, u9⟩ := HC.out.2.2.2 wu bu; clear hbu; try dsimp only) | (go_at_call_of 117 (Value.int IntKind.i64 0); refine (l05Num_any tag _ es 0 n0 _ (by first | exact HC.out.2.1 | exact HC.out.2.1.below (Below.refl _ _).drew) HC.out.2.2.1 hn0).mono ?_; rintro e wx ⟨rfl, hbx⟩; have bx : Below W0.heap.size W0 wx := (by first | exact hbx | exact undrewP hbx); have Ex := HC.out.2.1.below bx; obtain ⟨⟨x0, x1⟩, x4, x5, x6, x7, x8, x9⟩ := HC.out.2.2.2 wx bx; clear hbx; try dsimp only) | fail)
  rename_i hHeld
  clear hHeld
  have HB : Hid (Below w.heap.size w wv) := HC.out.1.trans (bv.mono HC.out.1.size)
  have HBw : Hid (w.heap.size ≤ w.heap.size + 1) := by show _ ≤ _; omega
  go_wp2
  exact bodyPost_ret (v := .agg #[.int .i64 n0, .string ⟨#[]⟩, .int .i64 n1, .int .i64 n2, .string ⟨#[]⟩]) (by simp [results, Tryz.results118, go_sem, v4, v5, v6, v7, v8]) rfl ⟨rfl, ((((HB.out.setCell HBw.out _).setCell HBw.out _).setCell HBw.out _).setCell HBw.out _).setCell HBw.out _⟩
set_option maxRecDepth 20000 in
set_option maxHeartbeats 16000000 in
theorem read_e (k : Int) (q1 : (k == 1) = false) (q5 : (k == 5) = false) (q6 : (k == 6) = false) (q7 : (k == 7) = false) (tag : ByteArray) (v : Value) (es : List (List ByteArray)) (n0 n1 : Int) (w : World) (h : RowE w v es) (hE : BdE 1048576 es) (hn0 : NumE es 0 n0) (hn1 : NumE es 1 n1) :
    Calls Tryz.prog 118 #[.int .i64 k, .agg #[.string tag, v]] w fun e w' => e = .returned (.agg #[.int .i64 n0, .string ⟨#[]⟩, .int .i64 n1, .int .i64 0, .string (partF es 2 0)]) ∧ Below w.heap.size w w' := by
  obtain ⟨A, C, rfl⟩ := h.val
  obtain ⟨W0, hW0⟩ : ∃ W0, (w.alloc (.cells #[.string tag, .slice A es.length C] 90)).alloc (.cells #[.int .i64 0, .string ⟨#[]⟩, .int .i64 0, .int .i64 0, .string ⟨#[]⟩] 121) = W0 := ⟨_, rfl⟩
  have hb0 : Below w.heap.size w W0 := by rw [← hW0]; exact ((Below.refl _ _).alloc (Nat.le_refl _) _).alloc (by simp) _
  have x0 : W0.heap[w.heap.size]? = some (.cells #[.string tag, .slice A es.length C] 90) := by rw [← hW0]; exact two_old _ _ _
  have x1 : W0.heap[w.heap.size + 1]? = some (.cells #[.int .i64 0, .string ⟨#[]⟩, .int .i64 0, .int .i64 0, .string ⟨#[]⟩] 121) := by rw [← hW0]; exact two_new _ _ _
  have HC : Hid (Below w.heap.size w W0 ∧ RowE W0 (.slice A es.length C) es ∧ BdE 1048576 es ∧ ∀ W, Below W0.heap.size W0 W → (W.cell? ⟨w.heap.size, 0, none⟩ = some (.string tag) ∧ W.cell? ⟨w.heap.size, 1, none⟩ = some (.slice A es.length C)) ∧ W.cell? ⟨w.heap.size + 1, 0, none⟩ = some (.int .i64 0) ∧ W.cell? ⟨w.heap.size + 1, 1, none⟩ = some (.string ⟨#[]⟩) ∧ W.cell? ⟨w.heap.size + 1, 2, none⟩ = some (.int .i64 0) ∧ W.cell? ⟨w.heap.size + 1, 3, none⟩ = some (.int .i64 0) ∧ W.cell? ⟨w.heap.size + 1, 4, none⟩ = some (.string ⟨#[]⟩) ∧ ∀ o, W.frozen? ⟨w.heap.size + 1, o, none⟩ = false) := ⟨hb0, h.below hb0, hE, fun W hW => by
    have y0 := (hW.block _ (Array.getElem?_eq_some_iff.1 x0).1).trans x0
    have y1 := (hW.block _ (Array.getElem?_eq_some_iff.1 x1).1).trans x1
    obtain ⟨k0, k1, k2, k3, k4⟩ := box5 y1
    exact ⟨⟨(sbox y0).1, (sbox y0).2.1⟩, k0, k1, k2, k3, k4, frz5 y1⟩⟩
  obtain ⟨⟨c0, c1⟩, d0, d1, d2, d3, d4, d5⟩ := HC.out.2.2.2 W0 (Below.refl _ _)
  go_enter Tryz.func118, Tryz.ntmps118
  go_upto_region 1 with fail
  try rw [hW0]
  clear hW0 x0 x1 hb0 h hE
  go_upto_region 10 with fail
  go_region_held3 (fun W => W.cell? ⟨w.heap.size, 0, none⟩ = some (.string tag) ∧ W.cell? ⟨w.heap.size, 1, none⟩ = some (.slice A es.length C)) (go_keep) (first | (go_at_call_of 116 (Value.int IntKind.i64 2); refine (part_spec tag _ es 2 0 _ (by first | exact Eu | exact Eu.below (Below.refl _ _).drew) HC.out.2.2.1).mono ?_; rintro e wv ⟨rfl, hbv⟩; have bv : Below W0.heap.size W0 wv := bu.trans ((by first | exact hbv | exact undrewP hbv : Below wu.heap.size wu wv).mono bu.size); have Ev := HC.out.2.1.below bv; obtain ⟨⟨v0, v1⟩, v4, v5, v6, v7, v8, v9⟩ := HC.out.2.2.2 wv bv; clear hbv; try dsimp only) | (go_at_call_of 117 (Value.int IntKind.i64 1); refine (l05Num_any tag _ es 1 n1 _ (by first | exact Ex | exact Ex.below (Below.refl _ _).drew) HC.out.2.2.1 hn1).mono ?_; rintro e wu ⟨rfl, hbu⟩; have bu : Below W0.heap.size W0 wu := bx.trans ((by first | exact hbu | exact undrewP hbu : Below wx.heap.size wx wu).mono bx.size); have Eu := HC.out.2.1.below bu; obtain ⟨⟨u0, u1⟩, u4, u5, u6, u7, u8, u9⟩ := HC.out.2.2.2 wu bu; clear hbu; try dsimp only) | (go_at_call_of 117 (Value.int IntKind.i64 0); refine (l05Num_any tag _ es 0 n0 _ (by first | exact HC.out.2.1 | exact HC.out.2.1.below (Below.refl _ _).drew) HC.out.2.2.1 hn0).mono ?_; rintro e wx ⟨rfl, hbx⟩; have bx : Below W0.heap.size W0 wx := (by first | exact hbx | exact undrewP hbx); have Ex := HC.out.2.1.below bx; obtain ⟨⟨x0, x1⟩, x4, x5, x6, x7, x8, x9⟩ := HC.out.2.2.2 wx bx; clear hbx; try dsimp only) | fail)
  rename_i hHeld
  clear hHeld
  have HB : Hid (Below w.heap.size w wv) := HC.out.1.trans (bv.mono HC.out.1.size)
  have HBw : Hid (w.heap.size ≤ w.heap.size + 1) := by show _ ≤ _; omega
  go_wp2
  exact bodyPost_ret (v := .agg #[.int .i64 n0, .string ⟨#[]⟩, .int .i64 n1, .int .i64 0, .string (partF es 2 0)]) (by simp [results, Tryz.results118, go_sem, v4, v5, v6, v7, v8]) rfl ⟨rfl, ((((HB.out.setCell HBw.out _).setCell HBw.out _).setCell HBw.out _).setCell HBw.out _).setCell HBw.out _⟩
/-- Numbers of at most eleven digits. -/
def SmL (l : Ln) : Prop := (-1000000000000 < l.no ∧ l.no < 1000000000000) ∧ (-1000000000000 < l.qty ∧ l.qty < 1000000000000) ∧ (-1000000000000 < l.money ∧ l.money < 1000000000000)
theorem partF_w (ws : List ByteArray) (i : Nat) : partF (ws.map fun t => [t]) (i : Int) 0 = (ws[i]?).getD eT := by
  unfold partF
  rw [List.length_map, Int.toNat_natCast, List.getElem?_map]
  by_cases h : i < ws.length
  · rw [if_pos ⟨by omega, by omega⟩, List.getElem?_eq_getElem h]
    rfl
  · rw [if_neg (by omega), List.getElem?_eq_none (by omega)]
    rfl
theorem partF_0 (ws : List ByteArray) : partF (ws.map fun t => [t]) 0 0 = (ws[0]?).getD eT := partF_w ws 0
theorem partF_1 (ws : List ByteArray) : partF (ws.map fun t => [t]) 1 0 = (ws[1]?).getD eT := partF_w ws 1
theorem partF_2 (ws : List ByteArray) : partF (ws.map fun t => [t]) 2 0 = (ws[2]?).getD eT := partF_w ws 2
theorem partF_3 (ws : List ByteArray) : partF (ws.map fun t => [t]) 3 0 = (ws[3]?).getD eT := partF_w ws 3
theorem numM_dec (n : Int) : NumM (decS n) n := .inl (numT_all n)
theorem numM_opt (n : Int) : NumM (((optN n)[0]?).getD eT) n := by
  unfold optN
  split
  · rename_i h; exact .inr ⟨rfl, h⟩
  · exact numM_dec n
theorem optT_getS (t : ByteArray) : ((optT t)[0]?).getD eT = t := by
  unfold optT
  split
  · rename_i h; exact (empty_eT h).symm
  · rfl
set_option maxRecDepth 20000 in
set_option maxHeartbeats 16000000 in
theorem l05Read_any (k : Int) (l : Ln) (tag : ByteArray) (v : Value) (w : World) (hs : SmL l) (h : RowE w v ((wordsS k l).map fun t => [t])) (hE : BdE 1048576 ((wordsS k l).map fun t => [t])) :
    Calls Tryz.prog 118 #[.int .i64 k, .agg #[.string tag, v]] w fun e w' => e = .returned (lnV (lnS k l)) ∧ Below w.heap.size w w' := by
  obtain ⟨s0, s1, s2⟩ := hs
  by_cases h1 : k = 1
  · subst h1
    have hw : wordsS 1 l = [decS l.no, l.item, decS l.qty] ++ optN l.money := rfl
    rw [hw] at h hE
    refine (read_1 tag v _ l.no l.qty l.money w h hE ⟨by rw [partF_0]; exact numM_dec _, s0⟩ ⟨by rw [partF_2]; exact numM_dec _, s1⟩ ⟨by rw [partF_3]; exact numM_opt _, s2⟩).mono ?_
    rintro e w' ⟨rfl, hb⟩
    rw [partF_1]
    exact ⟨rfl, hb⟩
  by_cases h5 : k = 5
  · subst h5
    have hw : wordsS 5 l = [l.item, decS l.qty] := rfl
    rw [hw] at h hE
    refine (read_5 tag v _ l.qty w h hE ⟨by rw [partF_1]; exact numM_dec _, s1⟩).mono ?_
    rintro e w' ⟨rfl, hb⟩
    rw [partF_0]
    exact ⟨rfl, hb⟩
  by_cases h6 : k = 6
  · subst h6
    have hw : wordsS 6 l = [l.item, decS l.qty] ++ optT l.note := rfl
    rw [hw] at h hE
    refine (read_6 tag v _ l.qty w h hE ⟨by rw [partF_1]; exact numM_dec _, s1⟩).mono ?_
    rintro e w' ⟨rfl, hb⟩
    rw [partF_0, partF_2]
    have e2 : ((([l.item, decS l.qty] ++ optT l.note))[2]?).getD eT = l.note := optT_getS _
    rw [e2]
    exact ⟨rfl, hb⟩
  by_cases h7 : k = 7
  · subst h7
    have hw : wordsS 7 l = [decS l.no, decS l.qty] ++ optN l.money := rfl
    rw [hw] at h hE
    refine (read_7 tag v _ l.no l.qty l.money w h hE ⟨by rw [partF_0]; exact numM_dec _, s0⟩ ⟨by rw [partF_1]; exact numM_dec _, s1⟩ ⟨by rw [partF_2]; exact numM_opt _, s2⟩).mono ?_
    rintro e w' ⟨rfl, hb⟩
    exact ⟨rfl, hb⟩
  have hw : wordsS k l = [decS l.no, decS l.qty] ++ optT l.note := by
    unfold wordsS wordsI
    rw [if_neg h1, if_neg h5, if_neg h6, if_neg h7]
    by_cases h3 : k = 3
    · rw [if_pos h3]
    · rw [if_neg h3, if_neg h3]
  have hl : lnS k l = ⟨l.no, eT, l.qty, 0, l.note⟩ := by
    unfold lnS lnI
    rw [if_neg h1, if_neg h5, if_neg h6, if_neg h7]
    by_cases h3 : k = 3
    · rw [if_pos h3]
    · rw [if_neg h3, if_neg h3]
  rw [hw] at h hE
  refine (read_e k (by simpa using h1) (by simpa using h5) (by simpa using h6) (by simpa using h7) tag v _ l.no l.qty w h hE ⟨by rw [partF_0]; exact numM_dec _, s0⟩ ⟨by rw [partF_1]; exact numM_dec _, s1⟩).mono ?_
  rintro e w' ⟨rfl, hb⟩
  rw [partF_2, hl]
  have e2 : ((([decS l.no, decS l.qty] ++ optT l.note))[2]?).getD eT = l.note := optT_getS _
  rw [e2]
  exact ⟨rfl, hb⟩
end Go.Proofs.YtkaolpnbddjdpaaGreatDoor
namespace Go.Proofs.YtkaolpnbddjdpaaGreatDoor
open Go.ChangeShapes Go.WideShapes Go.ChangeAt Go.RowKit
theorem wordB_sm {c n : Int} (hc : c = 110 ∨ c = 113 ∨ c = 122 ∨ c = 100) (h : wordB c (decS n) = true) : -1000000000000 < n ∧ n < 1000000000000 := by
  unfold wordB at h
  rw [if_neg (by omega), if_neg (by omega)] at h
  split at h
  · have := inB_dec h; omega
  · split at h
    · have := zB_dec h; omega
    · split at h
      · have := inB_dec h; omega
      · have := inB_dec h; omega
theorem words_rdS (k : Int) (l : Ln) : wordsS k (lnS k l) = wordsS k l := by
  unfold wordsS lnS wordsI lnI
  repeat' split
  all_goals first | rfl | omega
theorem lnS_rd (k : Int) (l : Ln) : lnS k (lnS k l) = lnS k l := by
  unfold lnS lnI
  repeat' split
  all_goals first | rfl | omega
theorem opt_sm {ls : List UInt8} {ws : List ByteArray} {n : Int} {j : Nat} (hl : ls[j]? = some 110) (hw : (optN n)[0]? = ws[j]?) (h : ∀ (j : Nat) (c : UInt8) (t : ByteArray), ls[j]? = some c → ws[j]? = some t → wordB (c.toNat : Int) t = true) : -1000000000000 < n ∧ n < 1000000000000 := by
  unfold optN at hw
  split at hw
  · omega
  · exact wordB_sm (c := 110) (by omega) (h j 110 _ hl hw.symm)
/-- The numbers of a line that a form takes are small. -/
theorem sm_of {k : Int} (hk : 1 ≤ k ∧ k ≤ 7) {l : Ln} (h : frV (bs (formK k)) ((wordsS k l).map fun t => [t]) = -1) : SmL (lnS k l) := by
  have z12 : -1000000000000 < (0 : Int) ∧ (0 : Int) < 1000000000000 := by decide
  obtain ⟨ls, m, hf, _, hls⟩ := formF_K k
  obtain ⟨_, _, hW⟩ := form_words hf h
  subst hls
  clear hf h
  obtain rfl | rfl | rfl | rfl | rfl | rfl | rfl : k = 1 ∨ k = 2 ∨ k = 3 ∨ k = 4 ∨ k = 5 ∨ k = 6 ∨ k = 7 := by omega
  · exact ⟨wordB_sm (c := 110) (by omega) (hW 0 110 _ rfl rfl), wordB_sm (c := 113) (by omega) (hW 2 113 _ rfl rfl), opt_sm (j := 3) rfl rfl hW⟩
  · exact ⟨wordB_sm (c := 110) (by omega) (hW 0 110 _ rfl rfl), wordB_sm (c := 113) (by omega) (hW 1 113 _ rfl rfl), z12⟩
  · exact ⟨wordB_sm (c := 110) (by omega) (hW 0 110 _ rfl rfl), wordB_sm (c := 113) (by omega) (hW 1 113 _ rfl rfl), z12⟩
  · exact ⟨wordB_sm (c := 110) (by omega) (hW 0 110 _ rfl rfl), wordB_sm (c := 113) (by omega) (hW 1 113 _ rfl rfl), z12⟩
  · exact ⟨z12, wordB_sm (c := 110) (by omega) (hW 1 110 _ rfl rfl), z12⟩
  · exact ⟨z12, wordB_sm (c := 122) (by omega) (hW 1 122 _ rfl rfl), z12⟩
  · exact ⟨wordB_sm (c := 110) (by omega) (hW 0 110 _ rfl rfl), wordB_sm (c := 110) (by omega) (hW 1 110 _ rfl rfl), opt_sm (j := 2) rfl rfl hW⟩
theorem day_sm {p : Pap} (h : frV (bs (formD p.kind)) ((docW p).map fun t => [t]) = -1) : -1000000000000 < p.day ∧ p.day < 1000000000000 := by
  obtain ⟨ls, m, hf, _, hls⟩ := formF_D p.kind
  obtain ⟨_, _, hW⟩ := form_words hf h
  subst hls
  cases hO : hasO p.kind with
  | true =>
    rw [docW_yes hO, if_pos hO] at hW
    exact wordB_sm (c := 100) (by omega) (hW 2 100 _ rfl rfl)
  | false =>
    rw [docW_no hO, if_neg (by rw [hO]; simp)] at hW
    exact wordB_sm (c := 100) (by omega) (hW 1 100 _ rfl rfl)
theorem body_noteF {f : Int → Ln → List ByteArray} {p : Pap} {k : Nat} (h : k < p.notes.length) : ∃ t, p.notes[k]? = some t ∧ (bodyW f p)[k + 1]? = some (noteG t) := by
  refine ⟨_, List.getElem?_eq_getElem h, ?_⟩
  unfold bodyW
  rw [List.getElem?_cons_succ, List.getElem?_append_left (by rw [List.length_map]; exact h), List.getElem?_map, List.getElem?_eq_getElem h]
  rfl
theorem body_lineF {f : Int → Ln → List ByteArray} {p : Pap} {k : Nat} (h : k < p.lines.length) : ∃ l, p.lines[k]? = some l ∧ (bodyW f p)[p.notes.length + k + 1]? = some (lineG f p.kind l) := by
  refine ⟨_, List.getElem?_eq_getElem h, ?_⟩
  unfold bodyW
  rw [List.getElem?_cons_succ, List.getElem?_append_right (by rw [List.length_map]; omega), List.length_map, show p.notes.length + k - p.notes.length = k by omega, List.getElem?_map, List.getElem?_eq_getElem h]
  rfl
theorem lnS_bd {k : Int} {ls : List Ln} (h : BdL 1048576 ls) {l : Ln} (hl : l ∈ ls) : (lnS k l).item.size ≤ 1048576 ∧ (lnS k l).note.size ≤ 1048576 := by
  obtain ⟨i, hi⟩ := List.getElem?_of_mem hl
  have hz := h.2 i l hi
  have e0 : eT.size = 0 := rfl
  unfold lnS lnI
  repeat' split
  all_goals exact ⟨by simp only [e0]; omega, by simp only [e0]; omega⟩
theorem lnS_int {k : Int} {l : Ln} (h : LnI l) : LnI (lnS k l) := by
  obtain ⟨h0, h1, h2⟩ := h
  have z : i64B 0 := by unfold i64B; omega
  unfold lnS lnI
  repeat' split
  all_goals exact ⟨by first | exact h0 | exact z, h1, by first | exact h2 | exact z⟩
theorem wordsS_bd {k : Int} {l : Ln} (hI : LnI l) (hz : l.item.size ≤ 1048576 ∧ l.note.size ≤ 1048576) : (wordsS k l).length ≤ 4 ∧ ∀ t ∈ wordsS k l, t.size ≤ 1048576 := by
  unfold wordsS
  split
  · have h0 := (decS_long l.no hI.1.1 hI.1.2).2
    have h1 := (decS_long l.qty hI.2.1.1 hI.2.1.2).2
    unfold optT
    split
    all_goals
      refine ⟨by simp, fun t ht => ?_⟩
      simp only [List.mem_append, List.mem_cons, List.not_mem_nil, or_false] at ht
      rcases ht with (rfl | rfl) | rfl <;> omega
  · exact wordsI_bd hI hz
theorem body_bd1S {p : Pap} (hI : PapI p) (hB : BdP 1048576 p) : Bd1 (bodyW wordsS p) := by
  obtain ⟨h1, h2, h3, h4⟩ := hB
  intro g hg
  unfold bodyW at hg
  rcases List.mem_cons.1 hg with rfl | hg
  · exact hd_bd1 (by decide) (by have := docW_len p; omega) (docW_bd hI.1 ⟨h1, h2⟩)
  · rcases List.mem_append.1 hg with hg | hg
    · obtain ⟨t, ht, rfl⟩ := List.mem_map.1 hg
      obtain ⟨i, hi⟩ := List.getElem?_of_mem ht
      exact hd_bd1 (by decide) (by simp) (fun x hx => by rw [List.mem_singleton.1 hx]; exact h3.2 i t hi)
    · obtain ⟨l, hl, rfl⟩ := List.mem_map.1 hg
      obtain ⟨i, hi⟩ := List.getElem?_of_mem hl
      obtain ⟨q1, q2⟩ := wordsS_bd (k := p.kind) (hI.2 l hl) (h4.2 i l hi)
      exact hd_bd1 (sTag_size _) (by omega) q2
theorem bdE_w {ws : List ByteArray} (hl : ws.length ≤ 10) (hz : ∀ t ∈ ws, t.size ≤ 1048576) : BdE 1048576 (ws.map fun t => [t]) := by
  refine ⟨by rw [List.length_map]; omega, fun i e he => ?_⟩
  rw [List.getElem?_map] at he
  obtain ⟨t, ht, rfl⟩ := Option.map_eq_some_iff.1 he
  refine ⟨by simp, fun j x hx => ?_⟩
  have := List.mem_of_getElem? hx
  rw [List.mem_singleton] at this
  rw [this]
  exact hz t (List.mem_of_getElem? ht)
theorem l01Num_ex (t : ByteArray) (w : World) (hz : t.size ≤ 281474976710656) : Calls Tryz.prog 152 #[.string t] w fun e w' => (∃ n b, e = .returned (.tuple #[.int .i64 n, .bool b]) ∧ ∀ m, NumM t m → -1000000000000 < m → m < 1000000000000 → n = m) ∧ Below w.heap.size w w' := by
  by_cases h : t = eT
  · subst h
    refine (l01Num_eT w).mono ?_
    rintro e w' ⟨⟨b, rfl⟩, hb⟩
    refine ⟨⟨0, b, rfl, fun m hm _ _ => ?_⟩, hb⟩
    rcases hm with hm | hm
    · exfalso
      have : numT eT.data.toList = none := by rfl
      rw [this] at hm
      cases hm
    · exact hm.2.symm
  · refine (l01Num_any t w hz).mono ?_
    rintro e w' ⟨n, b, rfl, hL, hb⟩
    refine ⟨⟨n, b, rfl, fun m hm h0 h1 => ?_⟩, hb⟩
    rcases hm with hm | hm
    · rcases hL with ⟨_, q⟩ | ⟨_, q⟩
      · rw [hm] at q
        cases q
        rfl
      · have := q m hm
        omega
    · exact absurd hm.1 h
set_option maxRecDepth 20000 in
set_option maxHeartbeats 16000000 in
theorem l05Num_ex (tag : ByteArray) (v : Value) (es : List (List ByteArray)) (i : Int) (w : World) (h : RowE w v es) (hE : BdE 1048576 es) :
    Calls Tryz.prog 117 #[.agg #[.string tag, v], .int .i64 i] w fun e w' => (∃ n, e = .returned (.int .i64 n) ∧ ∀ m, NumE es i m → n = m) ∧ Below w.heap.size w w' := by
  obtain ⟨A, C, rfl⟩ := h.val
  have bA : Below w.heap.size w (w.alloc (.cells #[.string tag, .slice A es.length C] 90)) := (Below.refl _ _).alloc (Nat.le_refl _) _
  have H : Hid (RowE (w.alloc (.cells #[.string tag, .slice A es.length C] 90)) (.slice A es.length C) es ∧ Below w.heap.size w (w.alloc (.cells #[.string tag, .slice A es.length C] 90)) ∧ BdE 1048576 es) := ⟨h.below bA, bA, hE⟩
  clear h bA hE
  go_enter Tryz.func117, Tryz.ntmps117
  go_wp2_with fail
  refine (part_spec tag _ es i 0 _ H.out.1 H.out.2.2).mono ?_
  rintro e w1 ⟨rfl, hb1⟩
  have H1 : Hid (Below w.heap.size w w1) := H.out.2.1.trans (hb1.mono (by simp))
  clear hb1
  go_wp2_with fail
  refine (l01Num_ex _ _ (by have := partF_bd H.out.2.2 i 0; omega)).mono ?_
  rintro e w2 ⟨⟨n, b, rfl, hn⟩, hb2⟩
  have H2 : Hid (Below w.heap.size w w2 ∧ ∀ m, NumM (partF es i 0) m → -1000000000000 < m → m < 1000000000000 → n = m) := ⟨H1.out.trans (hb2.mono H1.out.size), hn⟩
  clear hb2 hn
  go_wp2
  go_ret
  exact ⟨⟨_, rfl, fun m hm => H2.out.2 m hm.1 hm.2.1 hm.2.2⟩, H2.out.1⟩
/-- The boxes of the model's PaperOf: the answer's, the paper's; its lists in rows of their own. -/
structure PS (w W : World) (P : Nat) (q : Pap) (vn vl : Value) : Prop where
  res : W.heap[w.heap.size]? = some (.cells #[.int .i64 0, .string ⟨#[]⟩, .string ⟨#[]⟩, .int .i64 0, .slice none 0 0, .slice none 0 0, .int .i64 0, .int .i64 0] 127)
  box : W.heap[P]? = some (.cells #[.int .i64 q.kind, .string q.ref, .string q.other, .int .i64 q.day, vn, vl] 66)
  hP : w.heap.size < P
  ns : W.ownsRow (P + 1) 9 1 vn q.notes.length (q.notes.map Value.string)
  ls : W.ownsRow (P + 1) 121 5 vl q.lines.length (clLs q.lines)
  bel : Below w.heap.size w W
theorem PS.below {w W W' : World} {P : Nat} {q : Pap} {vn vl : Value} (h : PS w W P q vn vl) (hb : Below W.heap.size W W') : PS w W' P q vn vl :=
  ⟨(hb.block _ (Array.getElem?_eq_some_iff.1 h.res).1).trans h.res, (hb.block _ (Array.getElem?_eq_some_iff.1 h.box).1).trans h.box, h.hP, own_below h.ns hb, own_below h.ls hb, h.bel.trans (hb.mono h.bel.size)⟩
theorem PS.lt {w W : World} {P : Nat} {q : Pap} {vn vl : Value} (h : PS w W P q vn vl) : P + 1 ≤ W.heap.size := (Array.getElem?_eq_some_iff.1 h.box).1
theorem PS.note {w W w' : World} {P : Nat} {q : Pap} {vn vl v' : Value} {t : ByteArray} (h : PS w W P q vn vl) (ho : w'.ownsRow (P + 1) 9 1 v' (q.notes.length + 1) ((q.notes ++ [t]).map Value.string)) (hg : W.grownBy w' vn.ownBlock) :
    w'.heap[P]? = some (.cells #[.int .i64 q.kind, .string q.ref, .string q.other, .int .i64 q.day, vn, vl] 66) ∧ PS w (w'.setCell ⟨P, 4, none⟩ v') P ⟨q.kind, q.ref, q.other, q.day, q.notes ++ [t], q.lines⟩ v' vl := by
  have hlt := h.lt
  have hP := h.hP
  have hne : ∀ j, j < P + 1 → some j ≠ vn.ownBlock := fun j hj e => by
    have := (h.ns.lt j e.symm).1
    omega
  have hbx : w'.heap[P]? = some (.cells #[.int .i64 q.kind, .string q.ref, .string q.other, .int .i64 q.day, vn, vl] 66) := (hg.block _ (by omega) (hne _ (by omega))).trans h.box
  have hls : w'.ownsRow (P + 1) 121 5 vl q.lines.length (clLs q.lines) := h.ls.kept hg (own_ne2 h.ls h.ns (by decide))
  refine ⟨hbx, (setNe _ (by omega)).trans ((hg.block _ (by omega) (hne _ (by omega))).trans h.res), heap_setCell_same w' _ 4 _ _ v' hbx, hP, by rw [List.length_append]; exact own_set ho hbx (by decide), own_set hls hbx (by decide), ?_⟩
  exact (h.bel.trans ⟨hg.os, hg.tape, hg.output, hg.size, fun j hj => hg.block j (by have := h.bel.size; omega) (hne j (by omega))⟩).setCell (show w.heap.size ≤ P by omega) _
theorem PS.line {w W w' : World} {P : Nat} {q : Pap} {vn vl v' : Value} {l : Ln} (h : PS w W P q vn vl) (ho : w'.ownsRow (P + 1) 121 5 v' (q.lines.length + 1) (clLs q.lines ++ clL l)) (hg : W.grownBy w' vl.ownBlock) :
    w'.heap[P]? = some (.cells #[.int .i64 q.kind, .string q.ref, .string q.other, .int .i64 q.day, vn, vl] 66) ∧ PS w (w'.setCell ⟨P, 5, none⟩ v') P ⟨q.kind, q.ref, q.other, q.day, q.notes, q.lines ++ [l]⟩ vn v' := by
  have hlt := h.lt
  have hP := h.hP
  have hne : ∀ j, j < P + 1 → some j ≠ vl.ownBlock := fun j hj e => by
    have := (h.ls.lt j e.symm).1
    omega
  have hbx : w'.heap[P]? = some (.cells #[.int .i64 q.kind, .string q.ref, .string q.other, .int .i64 q.day, vn, vl] 66) := (hg.block _ (by omega) (hne _ (by omega))).trans h.box
  have hns : w'.ownsRow (P + 1) 9 1 vn q.notes.length (q.notes.map Value.string) := h.ns.kept hg (own_ne2 h.ns h.ls (by decide))
  refine ⟨hbx, (setNe _ (by omega)).trans ((hg.block _ (by omega) (hne _ (by omega))).trans h.res), heap_setCell_same w' _ 5 _ _ v' hbx, hP, own_set hns hbx (by decide), by rw [List.length_append, clLs_app]; exact own_set ho hbx (by decide), ?_⟩
  exact (h.bel.trans ⟨hg.os, hg.tape, hg.output, hg.size, fun j hj => hg.block j (by have := h.bel.size; omega) (hne j (by omega))⟩).setCell (show w.heap.size ≤ P by omega) _
/-- What the model has read of the first j segments. -/
def prS (p : Pap) (j : Nat) : Pap := ⟨p.kind, p.ref, selB (hasO p.kind) p.other eT, p.day, p.notes.take (j - 1), (p.lines.map (lnS p.kind)).take (j - 1 - p.notes.length)⟩
theorem prS_all (p : Pap) : prS p (1 + (p.notes.length + p.lines.length)) = rdP lnS p := by
  unfold prS rdP
  rw [List.take_of_length_le (by omega), List.take_of_length_le (by rw [List.length_map]; omega)]
  rfl
theorem prS_note {p : Pap} {k : Nat} {t : ByteArray} (h : p.notes[k]? = some t) : prS p (k + 1 + 1) = ⟨(prS p (k + 1)).kind, (prS p (k + 1)).ref, (prS p (k + 1)).other, (prS p (k + 1)).day, (prS p (k + 1)).notes ++ [t], (prS p (k + 1)).lines⟩ := by
  have hk := (List.getElem?_eq_some_iff.1 h).1
  unfold prS
  simp only [Nat.add_sub_cancel]
  rw [List.take_add_one, h, show k + 1 - p.notes.length = 0 by omega, show k - p.notes.length = 0 by omega]
  rfl
theorem prS_line {p : Pap} {k : Nat} {l : Ln} (h : p.lines[k]? = some l) : prS p (p.notes.length + k + 1 + 1) = ⟨(prS p (p.notes.length + k + 1)).kind, (prS p (p.notes.length + k + 1)).ref, (prS p (p.notes.length + k + 1)).other, (prS p (p.notes.length + k + 1)).day, (prS p (p.notes.length + k + 1)).notes, (prS p (p.notes.length + k + 1)).lines ++ [lnS p.kind l]⟩ := by
  unfold prS
  simp only [Nat.add_sub_cancel]
  have e1 : p.notes.take (p.notes.length + k + 1) = p.notes := List.take_of_length_le (by omega)
  have e2 : p.notes.take (p.notes.length + k) = p.notes := List.take_of_length_le (by omega)
  rw [e1, e2, show p.notes.length + k + 1 - p.notes.length = k + 1 by omega, show p.notes.length + k - p.notes.length = k by omega, List.take_add_one, List.getElem?_map, h]
  rfl
theorem prS_lines {p : Pap} (k : Nat) : (prS p (p.notes.length + k + 1)).lines = (p.lines.map (lnS p.kind)).take k := by
  unfold prS
  simp only [Nat.add_sub_cancel]
  rw [show p.notes.length + k - p.notes.length = k by omega]
end Go.Proofs.YtkaolpnbddjdpaaGreatDoor
