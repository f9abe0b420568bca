/- Texts of ours put together: PsD. -/
import Derived.Test.YtcdebinldmblkaaGreatDoorG33
import Derived.Test.YtcdebinldmblkaaGreatDoorG19
import Derived.Deep.RegionHeld3
namespace Go.Proofs.YtcdebinldmblkaaGreatDoor
open Go.ChangeShapes Go.WideShapes Go.ChangeAt Go.RowKit
set_option maxRecDepth 20000 in
set_option maxHeartbeats 16000000 in
theorem read_1 (tag : ByteArray) (v : Value) (es : List (List ByteArray)) (n0 n2 n3 : Int) (w : World) (h : RowE w v es) (hE : BdE 1048576 es) (hn0 : NumE es 0 n0) (hn2 : NumE es 2 n2) (hn3 : NumE es 3 n3) :
    Calls Tryz.prog 55 #[.int .i64 1, .agg #[.string tag, v]] w fun e w' => e = .returned (.agg #[.int .i64 n0, .string (partF es 1 0), .int .i64 n2, .int .i64 n3, .string ⟨#[]⟩]) ∧ Below w.heap.size w w' := by
  obtain ⟨A, C, rfl⟩ := h.val
  obtain ⟨W0, hW0⟩ : ∃ W0, (w.alloc (.cells #[.string tag, .slice A es.length C] 46)).alloc (.cells #[.int .i64 0, .string ⟨#[]⟩, .int .i64 0, .int .i64 0, .string ⟨#[]⟩] 63) = W0 := ⟨_, rfl⟩
  have hb0 : Below w.heap.size w W0 := by rw [← hW0]; exact ((Below.refl _ _).alloc (Nat.le_refl _) _).alloc (by simp) _
  have x0 : W0.heap[w.heap.size]? = some (.cells #[.string tag, .slice A es.length C] 46) := by rw [← hW0]; exact two_old _ _ _
  have x1 : W0.heap[w.heap.size + 1]? = some (.cells #[.int .i64 0, .string ⟨#[]⟩, .int .i64 0, .int .i64 0, .string ⟨#[]⟩] 63) := by rw [← hW0]; exact two_new _ _ _
  have HC : Hid (Below w.heap.size w W0 ∧ RowE W0 (.slice A es.length C) es ∧ BdE 1048576 es ∧ ∀ W, Below W0.heap.size W0 W → (W.cell? ⟨w.heap.size, 0, none⟩ = some (.string tag) ∧ W.cell? ⟨w.heap.size, 1, none⟩ = some (.slice A es.length C)) ∧ W.cell? ⟨w.heap.size + 1, 0, none⟩ = some (.int .i64 0) ∧ W.cell? ⟨w.heap.size + 1, 1, none⟩ = some (.string ⟨#[]⟩) ∧ W.cell? ⟨w.heap.size + 1, 2, none⟩ = some (.int .i64 0) ∧ W.cell? ⟨w.heap.size + 1, 3, none⟩ = some (.int .i64 0) ∧ W.cell? ⟨w.heap.size + 1, 4, none⟩ = some (.string ⟨#[]⟩) ∧ ∀ o, W.frozen? ⟨w.heap.size + 1, o, none⟩ = false) := ⟨hb0, h.below hb0, hE, fun W hW => by
    have y0 := (hW.block _ (Array.getElem?_eq_some_iff.1 x0).1).trans x0
    have y1 := (hW.block _ (Array.getElem?_eq_some_iff.1 x1).1).trans x1
    obtain ⟨k0, k1, k2, k3, k4⟩ := box5 y1
    exact ⟨⟨(sbox y0).1, (sbox y0).2.1⟩, k0, k1, k2, k3, k4, frz5 y1⟩⟩
  obtain ⟨⟨c0, c1⟩, d0, d1, d2, d3, d4, d5⟩ := HC.out.2.2.2 W0 (Below.refl _ _)
  go_enter Tryz.func55, Tryz.ntmps55
  go_upto_region 1 with fail
  try rw [hW0]
  clear hW0 x0 x1 hb0 h hE
  go_upto_region 3 with fail
  go_region_held3 (fun W => W.cell? ⟨w.heap.size, 0, none⟩ = some (.string tag) ∧ W.cell? ⟨w.heap.size, 1, none⟩ = some (.slice A es.length C)) (go_keep) (first | (go_at_call_of 54 (Value.int IntKind.i64 3); refine (l05Num_any tag _ es 3 n3 _ (by first | exact Ev | exact Ev.below (Below.refl _ _).drew) HC.out.2.2.1 hn3).mono ?_; rintro e wt ⟨rfl, hbt⟩; have bt : Below W0.heap.size W0 wt := bv.trans ((by first | exact hbt | exact undrewP hbt : Below wv.heap.size wv wt).mono bv.size); have Et := HC.out.2.1.below bt; obtain ⟨⟨t0, t1⟩, t4, t5, t6, t7, t8, t9⟩ := HC.out.2.2.2 wt bt; clear hbt; try dsimp only) | (go_at_call_of 54 (Value.int IntKind.i64 2); refine (l05Num_any tag _ es 2 n2 _ (by first | exact Eu | exact Eu.below (Below.refl _ _).drew) HC.out.2.2.1 hn2).mono ?_; rintro e wv ⟨rfl, hbv⟩; have bv : Below W0.heap.size W0 wv := bu.trans ((by first | exact hbv | exact undrewP hbv : Below wu.heap.size wu wv).mono bu.size); have Ev := HC.out.2.1.below bv; obtain ⟨⟨v0, v1⟩, v4, v5, v6, v7, v8, v9⟩ := HC.out.2.2.2 wv bv; clear hbv; try dsimp only) | (go_at_call_of 53 (Value.int IntKind.i64 1); refine (part_spec tag _ es 1 0 _ (by first | exact Ex | exact Ex.below (Below.refl _ _).drew) HC.out.2.2.1).mono ?_; rintro e wu ⟨rfl, hbu⟩; have bu : Below W0.heap.size W0 wu := bx.trans ((by first | exact hbu | exact undrewP hbu : Below wx.heap.size wx wu).mono bx.size); have Eu := HC.out.2.1.below bu; obtain ⟨⟨u0, u1⟩, u4, u5, u6, u7, u8, u9⟩ := HC.out.2.2.2 wu bu; clear hbu; try dsimp only) | (go_at_call_of 54 (Value.int IntKind.i64 0); refine (l05Num_any tag _ es 0 n0 _ (by first | exact HC.out.2.1 | exact HC.out.2.1.below (Below.refl _ _).drew) HC.out.2.2.1 hn0).mono ?_; rintro e wx ⟨rfl, hbx⟩; have bx : Below W0.heap.size W0 wx := (by first | exact hbx | exact undrewP hbx); have Ex := HC.out.2.1.below bx; obtain ⟨⟨x0, x1⟩, x4, x5, x6, x7, x8, x9⟩ := HC.out.2.2.2 wx bx; clear hbx; try dsimp only) | fail)
  rename_i hHeld
  clear hHeld
  have HB : Hid (Below w.heap.size w wt) := HC.out.1.trans (bt.mono HC.out.1.size)
  have HBw : Hid (w.heap.size ≤ w.heap.size + 1) := by show _ ≤ _; omega
  go_wp2
  exact bodyPost_ret (v := .agg #[.int .i64 n0, .string (partF es 1 0), .int .i64 n2, .int .i64 n3, .string ⟨#[]⟩]) (by simp [results, Tryz.results55, go_sem, t4, t5, t6, t7, t8]) rfl ⟨rfl, ((((HB.out.setCell HBw.out _).setCell HBw.out _).setCell HBw.out _).setCell HBw.out _).setCell HBw.out _⟩
set_option maxRecDepth 20000 in
set_option maxHeartbeats 16000000 in
theorem read_5 (tag : ByteArray) (v : Value) (es : List (List ByteArray)) (n1 : Int) (w : World) (h : RowE w v es) (hE : BdE 1048576 es) (hn1 : NumE es 1 n1) :
    Calls Tryz.prog 55 #[.int .i64 5, .agg #[.string tag, v]] w fun e w' => e = .returned (.agg #[.int .i64 0, .string (partF es 0 0), .int .i64 n1, .int .i64 0, .string ⟨#[]⟩]) ∧ Below w.heap.size w w' := by
  obtain ⟨A, C, rfl⟩ := h.val
  obtain ⟨W0, hW0⟩ : ∃ W0, (w.alloc (.cells #[.string tag, .slice A es.length C] 46)).alloc (.cells #[.int .i64 0, .string ⟨#[]⟩, .int .i64 0, .int .i64 0, .string ⟨#[]⟩] 63) = W0 := ⟨_, rfl⟩
  have hb0 : Below w.heap.size w W0 := by rw [← hW0]; exact ((Below.refl _ _).alloc (Nat.le_refl _) _).alloc (by simp) _
  have x0 : W0.heap[w.heap.size]? = some (.cells #[.string tag, .slice A es.length C] 46) := by rw [← hW0]; exact two_old _ _ _
  have x1 : W0.heap[w.heap.size + 1]? = some (.cells #[.int .i64 0, .string ⟨#[]⟩, .int .i64 0, .int .i64 0, .string ⟨#[]⟩] 63) := by rw [← hW0]; exact two_new _ _ _
  have HC : Hid (Below w.heap.size w W0 ∧ RowE W0 (.slice A es.length C) es ∧ BdE 1048576 es ∧ ∀ W, Below W0.heap.size W0 W → (W.cell? ⟨w.heap.size, 0, none⟩ = some (.string tag) ∧ W.cell? ⟨w.heap.size, 1, none⟩ = some (.slice A es.length C)) ∧ W.cell? ⟨w.heap.size + 1, 0, none⟩ = some (.int .i64 0) ∧ W.cell? ⟨w.heap.size + 1, 1, none⟩ = some (.string ⟨#[]⟩) ∧ W.cell? ⟨w.heap.size + 1, 2, none⟩ = some (.int .i64 0) ∧ W.cell? ⟨w.heap.size + 1, 3, none⟩ = some (.int .i64 0) ∧ W.cell? ⟨w.heap.size + 1, 4, none⟩ = some (.string ⟨#[]⟩) ∧ ∀ o, W.frozen? ⟨w.heap.size + 1, o, none⟩ = false) := ⟨hb0, h.below hb0, hE, fun W hW => by
    have y0 := (hW.block _ (Array.getElem?_eq_some_iff.1 x0).1).trans x0
    have y1 := (hW.block _ (Array.getElem?_eq_some_iff.1 x1).1).trans x1
    obtain ⟨k0, k1, k2, k3, k4⟩ := box5 y1
    exact ⟨⟨(sbox y0).1, (sbox y0).2.1⟩, k0, k1, k2, k3, k4, frz5 y1⟩⟩
  obtain ⟨⟨c0, c1⟩, d0, d1, d2, d3, d4, d5⟩ := HC.out.2.2.2 W0 (Below.refl _ _)
  go_enter Tryz.func55, Tryz.ntmps55
  go_upto_region 1 with fail
  try rw [hW0]
  clear hW0 x0 x1 hb0 h hE
  go_upto_region 5 with fail
  go_region_held3 (fun W => W.cell? ⟨w.heap.size, 0, none⟩ = some (.string tag) ∧ W.cell? ⟨w.heap.size, 1, none⟩ = some (.slice A es.length C)) (go_keep) (first | (go_at_call_of 54 (Value.int IntKind.i64 1); refine (l05Num_any tag _ es 1 n1 _ (by first | exact Ex | exact Ex.below (Below.refl _ _).drew) HC.out.2.2.1 hn1).mono ?_; rintro e wu ⟨rfl, hbu⟩; have bu : Below W0.heap.size W0 wu := bx.trans ((by first | exact hbu | exact undrewP hbu : Below wx.heap.size wx wu).mono bx.size); have Eu := HC.out.2.1.below bu; obtain ⟨⟨u0, u1⟩, u4, u5, u6, u7, u8, u9⟩ := HC.out.2.2.2 wu bu; clear hbu; try dsimp only) | (go_at_call_of 53 (Value.int IntKind.i64 0); refine (part_spec tag _ es 0 0 _ (by first | exact HC.out.2.1 | exact HC.out.2.1.below (Below.refl _ _).drew) HC.out.2.2.1).mono ?_; rintro e wx ⟨rfl, hbx⟩; have bx : Below W0.heap.size W0 wx := (by first | exact hbx | exact undrewP hbx); have Ex := HC.out.2.1.below bx; obtain ⟨⟨x0, x1⟩, x4, x5, x6, x7, x8, x9⟩ := HC.out.2.2.2 wx bx; clear hbx; try dsimp only) | fail)
  rename_i hHeld
  clear hHeld
  have HB : Hid (Below w.heap.size w wu) := HC.out.1.trans (bu.mono HC.out.1.size)
  have HBw : Hid (w.heap.size ≤ w.heap.size + 1) := by show _ ≤ _; omega
  go_wp2
  exact bodyPost_ret (v := .agg #[.int .i64 0, .string (partF es 0 0), .int .i64 n1, .int .i64 0, .string ⟨#[]⟩]) (by simp [results, Tryz.results55, go_sem, u4, u5, u6, u7, u8]) rfl ⟨rfl, ((((HB.out.setCell HBw.out _).setCell HBw.out _).setCell HBw.out _).setCell HBw.out _).setCell HBw.out _⟩
set_option maxRecDepth 20000 in
set_option maxHeartbeats 16000000 in
theorem read_6 (tag : ByteArray) (v : Value) (es : List (List ByteArray)) (n1 : Int) (w : World) (h : RowE w v es) (hE : BdE 1048576 es) (hn1 : NumE es 1 n1) :
    Calls Tryz.prog 55 #[.int .i64 6, .agg #[.string tag, v]] w fun e w' => e = .returned (.agg #[.int .i64 0, .string (partF es 0 0), .int .i64 n1, .int .i64 0, .string (partF es 2 0)]) ∧ Below w.heap.size w w' := by
  obtain ⟨A, C, rfl⟩ := h.val
  obtain ⟨W0, hW0⟩ : ∃ W0, (w.alloc (.cells #[.string tag, .slice A es.length C] 46)).alloc (.cells #[.int .i64 0, .string ⟨#[]⟩, .int .i64 0, .int .i64 0, .string ⟨#[]⟩] 63) = W0 := ⟨_, rfl⟩
  have hb0 : Below w.heap.size w W0 := by rw [← hW0]; exact ((Below.refl _ _).alloc (Nat.le_refl _) _).alloc (by simp) _
  have x0 : W0.heap[w.heap.size]? = some (.cells #[.string tag, .slice A es.length C] 46) := by rw [← hW0]; exact two_old _ _ _
  have x1 : W0.heap[w.heap.size + 1]? = some (.cells #[.int .i64 0, .string ⟨#[]⟩, .int .i64 0, .int .i64 0, .string ⟨#[]⟩] 63) := by rw [← hW0]; exact two_new _ _ _
  have HC : Hid (Below w.heap.size w W0 ∧ RowE W0 (.slice A es.length C) es ∧ BdE 1048576 es ∧ ∀ W, Below W0.heap.size W0 W → (W.cell? ⟨w.heap.size, 0, none⟩ = some (.string tag) ∧ W.cell? ⟨w.heap.size, 1, none⟩ = some (.slice A es.length C)) ∧ W.cell? ⟨w.heap.size + 1, 0, none⟩ = some (.int .i64 0) ∧ W.cell? ⟨w.heap.size + 1, 1, none⟩ = some (.string ⟨#[]⟩) ∧ W.cell? ⟨w.heap.size + 1, 2, none⟩ = some (.int .i64 0) ∧ W.cell? ⟨w.heap.size + 1, 3, none⟩ = some (.int .i64 0) ∧ W.cell? ⟨w.heap.size + 1, 4, none⟩ = some (.string ⟨#[]⟩) ∧ ∀ o, W.frozen? ⟨w.heap.size + 1, o, none⟩ = false) := ⟨hb0, h.below hb0, hE, fun W hW => by
    have y0 := (hW.block _ (Array.getElem?_eq_some_iff.1 x0).1).trans x0
    have y1 := (hW.block _ (Array.getElem?_eq_some_iff.1 x1).1).trans x1
    obtain ⟨k0, k1, k2, k3, k4⟩ := box5 y1
    exact ⟨⟨(sbox y0).1, (sbox y0).2.1⟩, k0, k1, k2, k3, k4, frz5 y1⟩⟩
  obtain ⟨⟨c0, c1⟩, d0, d1, d2, d3, d4, d5⟩ := HC.out.2.2.2 W0 (Below.refl _ _)
  go_enter Tryz.func55, Tryz.ntmps55
  go_upto_region 1 with fail
  try rw [hW0]
  clear hW0 x0 x1 hb0 h hE
  go_upto_region 7 with fail
  go_region_held3 (fun W => W.cell? ⟨w.heap.size, 0, none⟩ = some (.string tag) ∧ W.cell? ⟨w.heap.size, 1, none⟩ = some (.slice A es.length C)) (go_keep) (first | (go_at_call_of 53 (Value.int IntKind.i64 2); refine (part_spec tag _ es 2 0 _ (by first | exact Eu | exact Eu.below (Below.refl _ _).drew) HC.out.2.2.1).mono ?_; rintro e wv ⟨rfl, hbv⟩; have bv : Below W0.heap.size W0 wv := bu.trans ((by first | exact hbv | exact undrewP hbv : Below wu.heap.size wu wv).mono bu.size); have Ev := HC.out.2.1.below bv; obtain ⟨⟨v0, v1⟩, v4, v5, v6, v7, v8, v9⟩ := HC.out.2.2.2 wv bv; clear hbv; try dsimp only) | (go_at_call_of 54 (Value.int IntKind.i64 1); refine (l05Num_any tag _ es 1 n1 _ (by first | exact Ex | exact Ex.below (Below.refl _ _).drew) HC.out.2.2.1 hn1).mono ?_; rintro e wu ⟨rfl, hbu⟩; have bu : Below W0.heap.size W0 wu := bx.trans ((by first | exact hbu | exact undrewP hbu : Below wx.heap.size wx wu).mono bx.size); have Eu := HC.out.2.1.below bu; obtain ⟨⟨u0, u1⟩, u4, u5, u6, u7, u8, u9⟩ := HC.out.2.2.2 wu bu; clear hbu; try dsimp only) | (go_at_call_of 53 (Value.int IntKind.i64 0); refine (part_spec tag _ es 0 0 _ (by first | exact HC.out.2.1 | exact HC.out.2.1.below (Below.refl _ _).drew) HC.out.2.2.1).mono ?_; rintro e wx ⟨rfl, hbx⟩; have bx : Below W0.heap.size W0 wx := (by first | exact hbx | exact undrewP hbx); have Ex := HC.out.2.1.below bx; obtain ⟨⟨x0, x1⟩, x4, x5, x6, x7, x8, x9⟩ := HC.out.2.2.2 wx bx; clear hbx; try dsimp only) | fail)
  rename_i hHeld
  clear hHeld
  have HB : Hid (Below w.heap.size w wv) := HC.out.1.trans (bv.mono HC.out.1.size)
  have HBw : Hid (w.heap.size ≤ w.heap.size + 1) := by show _ ≤ _; omega
  go_wp2
  exact bodyPost_ret (v := .agg #[.int .i64 0, .string (partF es 0 0), .int .i64 n1, .int .i64 0, .string (partF es 2 0)]) (by simp [results, Tryz.results55, go_sem, v4, v5, v6, v7, v8]) rfl ⟨rfl, ((((HB.out.setCell HBw.out _).setCell HBw.out _).setCell HBw.out _).setCell HBw.out _).setCell HBw.out _⟩
set_option maxRecDepth 20000 in
set_option maxHeartbeats 16000000 in
theorem read_7 (tag : ByteArray) (v : Value) (es : List (List ByteArray)) (n0 n1 n2 : Int) (w : World) (h : RowE w v es) (hE : BdE 1048576 es) (hn0 : NumE es 0 n0) (hn1 : NumE es 1 n1) (hn2 : NumE es 2 n2) :
    Calls Tryz.prog 55 #[.int .i64 7, .agg #[.string tag, v]] w fun e w' => e = .returned (.agg #[.int .i64 n0, .string ⟨#[]⟩, .int .i64 n1, .int .i64 n2, .string ⟨#[]⟩]) ∧ Below w.heap.size w w' := by
  obtain ⟨A, C, rfl⟩ := h.val
  obtain ⟨W0, hW0⟩ : ∃ W0, (w.alloc (.cells #[.string tag, .slice A es.length C] 46)).alloc (.cells #[.int .i64 0, .string ⟨#[]⟩, .int .i64 0, .int .i64 0, .string ⟨#[]⟩] 63) = W0 := ⟨_, rfl⟩
  have hb0 : Below w.heap.size w W0 := by rw [← hW0]; exact ((Below.refl _ _).alloc (Nat.le_refl _) _).alloc (by simp) _
  have x0 : W0.heap[w.heap.size]? = some (.cells #[.string tag, .slice A es.length C] 46) := by rw [← hW0]; exact two_old _ _ _
  have x1 : W0.heap[w.heap.size + 1]? = some (.cells #[.int .i64 0, .string ⟨#[]⟩, .int .i64 0, .int .i64 0, .string ⟨#[]⟩] 63) := by rw [← hW0]; exact two_new _ _ _
  have HC : Hid (Below w.heap.size w W0 ∧ RowE W0 (.slice A es.length C) es ∧ BdE 1048576 es ∧ ∀ W, Below W0.heap.size W0 W → (W.cell? ⟨w.heap.size, 0, none⟩ = some (.string tag) ∧ W.cell? ⟨w.heap.size, 1, none⟩ = some (.slice A es.length C)) ∧ W.cell? ⟨w.heap.size + 1, 0, none⟩ = some (.int .i64 0) ∧ W.cell? ⟨w.heap.size + 1, 1, none⟩ = some (.string ⟨#[]⟩) ∧ W.cell? ⟨w.heap.size + 1, 2, none⟩ = some (.int .i64 0) ∧ W.cell? ⟨w.heap.size + 1, 3, none⟩ = some (.int .i64 0) ∧ W.cell? ⟨w.heap.size + 1, 4, none⟩ = some (.string ⟨#[]⟩) ∧ ∀ o, W.frozen? ⟨w.heap.size + 1, o, none⟩ = false) := ⟨hb0, h.below hb0, hE, fun W hW => by
    have y0 := (hW.block _ (Array.getElem?_eq_some_iff.1 x0).1).trans x0
    have y1 := (hW.block _ (Array.getElem?_eq_some_iff.1 x1).1).trans x1
    obtain ⟨k0, k1, k2, k3, k4⟩ := box5 y1
    exact ⟨⟨(sbox y0).1, (sbox y0).2.1⟩, k0, k1, k2, k3, k4, frz5 y1⟩⟩
  obtain ⟨⟨c0, c1⟩, d0, d1, d2, d3, d4, d5⟩ := HC.out.2.2.2 W0 (Below.refl _ _)
  go_enter Tryz.func55, Tryz.ntmps55
  go_upto_region 1 with fail
  try rw [hW0]
  clear hW0 x0 x1 hb0 h hE
  go_upto_region 9 with fail
  go_region_held3 (fun W => W.cell? ⟨w.heap.size, 0, none⟩ = some (.string tag) ∧ W.cell? ⟨w.heap.size, 1, none⟩ = some (.slice A es.length C)) (go_keep) (first | (go_at_call_of 54 (Value.int IntKind.i64 2); refine (l05Num_any tag _ es 2 n2 _ (by first | exact Eu | exact Eu.below (Below.refl _ _).drew) HC.out.2.2.1 hn2).mono ?_; rintro e wv ⟨rfl, hbv⟩; have bv : Below W0.heap.size W0 wv := bu.trans ((by first | exact hbv | exact undrewP hbv : Below wu.heap.size wu wv).mono bu.size); have Ev := HC.out.2.1.below bv; obtain ⟨⟨v0, v1⟩, v4, v5, v6, v7, v8, v9⟩ := HC.out.2.2.2 wv bv; clear hbv; try dsimp only) | (go_at_call_of 54 (Value.int IntKind.i64 1); refine (l05Num_any tag _ es 1 n1 _ (by first | exact Ex | exact Ex.below (Below.refl _ _).drew) HC.out.2.2.1 hn1).mono ?_; rintro e wu ⟨rfl, hbu⟩; have bu : Below W0.heap.size W0 wu := bx.trans ((by first | exact hbu | exact undrewP hbu : Below wx.heap.size wx wu).mono bx.size); have Eu := HC.out.2.1.below bu; obtain ⟨⟨u0, u1⟩, u4, u5, u6, u7, u8, u9⟩ := HC.out.2.2.2 wu bu; clear hbu; try dsimp only) | (go_at_call_of 54 (Value.int IntKind.i64 0); refine (l05Num_any tag _ es 0 n0 _ (by first | exact HC.out.2.1 | exact HC.out.2.1.below (Below.refl _ _).drew) HC.out.2.2.1 hn0).mono ?_; rintro e wx ⟨rfl, hbx⟩; have bx : Below W0.heap.size W0 wx := (by first | exact hbx | exact undrewP hbx); have Ex := HC.out.2.1.below bx; obtain ⟨⟨x0, x1⟩, x4, x5, x6, x7, x8, x9⟩ := HC.out.2.2.2 wx bx; clear hbx; try dsimp only) | fail)
  rename_i hHeld
  clear hHeld
  have HB : Hid (Below w.heap.size w wv) := HC.out.1.trans (bv.mono HC.out.1.size)
  have HBw : Hid (w.heap.size ≤ w.heap.size + 1) := by show _ ≤ _; omega
  go_wp2
  exact bodyPost_ret (v := .agg #[.int .i64 n0, .string ⟨#[]⟩, .int .i64 n1, .int .i64 n2, .string ⟨#[]⟩]) (by simp [results, Tryz.results55, go_sem, v4, v5, v6, v7, v8]) rfl ⟨rfl, ((((HB.out.setCell HBw.out _).setCell HBw.out _).setCell HBw.out _).setCell HBw.out _).setCell HBw.out _⟩
set_option maxRecDepth 20000 in
set_option maxHeartbeats 16000000 in
theorem read_e (k : Int) (q1 : (k == 1) = false) (q5 : (k == 5) = false) (q6 : (k == 6) = false) (q7 : (k == 7) = false) (tag : ByteArray) (v : Value) (es : List (List ByteArray)) (n0 n1 : Int) (w : World) (h : RowE w v es) (hE : BdE 1048576 es) (hn0 : NumE es 0 n0) (hn1 : NumE es 1 n1) :
    Calls Tryz.prog 55 #[.int .i64 k, .agg #[.string tag, v]] w fun e w' => e = .returned (.agg #[.int .i64 n0, .string ⟨#[]⟩, .int .i64 n1, .int .i64 0, .string (partF es 2 0)]) ∧ Below w.heap.size w w' := by
  obtain ⟨A, C, rfl⟩ := h.val
  obtain ⟨W0, hW0⟩ : ∃ W0, (w.alloc (.cells #[.string tag, .slice A es.length C] 46)).alloc (.cells #[.int .i64 0, .string ⟨#[]⟩, .int .i64 0, .int .i64 0, .string ⟨#[]⟩] 63) = W0 := ⟨_, rfl⟩
  have hb0 : Below w.heap.size w W0 := by rw [← hW0]; exact ((Below.refl _ _).alloc (Nat.le_refl _) _).alloc (by simp) _
  have x0 : W0.heap[w.heap.size]? = some (.cells #[.string tag, .slice A es.length C] 46) := by rw [← hW0]; exact two_old _ _ _
  have x1 : W0.heap[w.heap.size + 1]? = some (.cells #[.int .i64 0, .string ⟨#[]⟩, .int .i64 0, .int .i64 0, .string ⟨#[]⟩] 63) := by rw [← hW0]; exact two_new _ _ _
  have HC : Hid (Below w.heap.size w W0 ∧ RowE W0 (.slice A es.length C) es ∧ BdE 1048576 es ∧ ∀ W, Below W0.heap.size W0 W → (W.cell? ⟨w.heap.size, 0, none⟩ = some (.string tag) ∧ W.cell? ⟨w.heap.size, 1, none⟩ = some (.slice A es.length C)) ∧ W.cell? ⟨w.heap.size + 1, 0, none⟩ = some (.int .i64 0) ∧ W.cell? ⟨w.heap.size + 1, 1, none⟩ = some (.string ⟨#[]⟩) ∧ W.cell? ⟨w.heap.size + 1, 2, none⟩ = some (.int .i64 0) ∧ W.cell? ⟨w.heap.size + 1, 3, none⟩ = some (.int .i64 0) ∧ W.cell? ⟨w.heap.size + 1, 4, none⟩ = some (.string ⟨#[]⟩) ∧ ∀ o, W.frozen? ⟨w.heap.size + 1, o, none⟩ = false) := ⟨hb0, h.below hb0, hE, fun W hW => by
    have y0 := (hW.block _ (Array.getElem?_eq_some_iff.1 x0).1).trans x0
    have y1 := (hW.block _ (Array.getElem?_eq_some_iff.1 x1).1).trans x1
    obtain ⟨k0, k1, k2, k3, k4⟩ := box5 y1
    exact ⟨⟨(sbox y0).1, (sbox y0).2.1⟩, k0, k1, k2, k3, k4, frz5 y1⟩⟩
  obtain ⟨⟨c0, c1⟩, d0, d1, d2, d3, d4, d5⟩ := HC.out.2.2.2 W0 (Below.refl _ _)
  go_enter Tryz.func55, Tryz.ntmps55
  go_upto_region 1 with fail
  try rw [hW0]
  clear hW0 x0 x1 hb0 h hE
  go_upto_region 10 with fail
  go_region_held3 (fun W => W.cell? ⟨w.heap.size, 0, none⟩ = some (.string tag) ∧ W.cell? ⟨w.heap.size, 1, none⟩ = some (.slice A es.length C)) (go_keep) (first | (go_at_call_of 53 (Value.int IntKind.i64 2); refine (part_spec tag _ es 2 0 _ (by first | exact Eu | exact Eu.below (Below.refl _ _).drew) HC.out.2.2.1).mono ?_; rintro e wv ⟨rfl, hbv⟩; have bv : Below W0.heap.size W0 wv := bu.trans ((by first | exact hbv | exact undrewP hbv : Below wu.heap.size wu wv).mono bu.size); have Ev := HC.out.2.1.below bv; obtain ⟨⟨v0, v1⟩, v4, v5, v6, v7, v8, v9⟩ := HC.out.2.2.2 wv bv; clear hbv; try dsimp only) | (go_at_call_of 54 (Value.int IntKind.i64 1); refine (l05Num_any tag _ es 1 n1 _ (by first | exact Ex | exact Ex.below (Below.refl _ _).drew) HC.out.2.2.1 hn1).mono ?_; rintro e wu ⟨rfl, hbu⟩; have bu : Below W0.heap.size W0 wu := bx.trans ((by first | exact hbu | exact undrewP hbu : Below wx.heap.size wx wu).mono bx.size); have Eu := HC.out.2.1.below bu; obtain ⟨⟨u0, u1⟩, u4, u5, u6, u7, u8, u9⟩ := HC.out.2.2.2 wu bu; clear hbu; try dsimp only) | (go_at_call_of 54 (Value.int IntKind.i64 0); refine (l05Num_any tag _ es 0 n0 _ (by first | exact HC.out.2.1 | exact HC.out.2.1.below (Below.refl _ _).drew) HC.out.2.2.1 hn0).mono ?_; rintro e wx ⟨rfl, hbx⟩; have bx : Below W0.heap.size W0 wx := (by first | exact hbx | exact undrewP hbx); have Ex := HC.out.2.1.below bx; obtain ⟨⟨x0, x1⟩, x4, x5, x6, x7, x8, x9⟩ := HC.out.2.2.2 wx bx; clear hbx; try dsimp only) | fail)
  rename_i hHeld
  clear hHeld
  have HB : Hid (Below w.heap.size w wv) := HC.out.1.trans (bv.mono HC.out.1.size)
  have HBw : Hid (w.heap.size ≤ w.heap.size + 1) := by show _ ≤ _; omega
  go_wp2
  exact bodyPost_ret (v := .agg #[.int .i64 n0, .string ⟨#[]⟩, .int .i64 n1, .int .i64 0, .string (partF es 2 0)]) (by simp [results, Tryz.results55, go_sem, v4, v5, v6, v7, v8]) rfl ⟨rfl, ((((HB.out.setCell HBw.out _).setCell HBw.out _).setCell HBw.out _).setCell HBw.out _).setCell HBw.out _⟩
/-- Numbers of at most eleven digits. -/
def SmL (l : Ln) : Prop := (-1000000000000 < l.no ∧ l.no < 1000000000000) ∧ (-1000000000000 < l.qty ∧ l.qty < 1000000000000) ∧ (-1000000000000 < l.money ∧ l.money < 1000000000000)
theorem partF_w (ws : List ByteArray) (i : Nat) : partF (ws.map fun t => [t]) (i : Int) 0 = (ws[i]?).getD eT := by
  unfold partF
  rw [List.length_map, Int.toNat_natCast, List.getElem?_map]
  by_cases h : i < ws.length
  · rw [if_pos ⟨by omega, by omega⟩, List.getElem?_eq_getElem h]
    rfl
  · rw [if_neg (by omega), List.getElem?_eq_none (by omega)]
    rfl
theorem partF_0 (ws : List ByteArray) : partF (ws.map fun t => [t]) 0 0 = (ws[0]?).getD eT := partF_w ws 0
theorem partF_1 (ws : List ByteArray) : partF (ws.map fun t => [t]) 1 0 = (ws[1]?).getD eT := partF_w ws 1
theorem partF_2 (ws : List ByteArray) : partF (ws.map fun t => [t]) 2 0 = (ws[2]?).getD eT := partF_w ws 2
theorem partF_3 (ws : List ByteArray) : partF (ws.map fun t => [t]) 3 0 = (ws[3]?).getD eT := partF_w ws 3
theorem numM_dec (n : Int) : NumM (decS n) n := .inl (numT_all n)
theorem numM_opt (n : Int) : NumM (((optN n)[0]?).getD eT) n := by
  unfold optN
  split
  · rename_i h; exact .inr ⟨rfl, h⟩
  · exact numM_dec n
theorem optT_getS (t : ByteArray) : ((optT t)[0]?).getD eT = t := by
  unfold optT
  split
  · rename_i h; exact (empty_eT h).symm
  · rfl
set_option maxRecDepth 20000 in
set_option maxHeartbeats 16000000 in
theorem l05Read_any (k : Int) (l : Ln) (tag : ByteArray) (v : Value) (w : World) (hs : SmL l) (h : RowE w v ((wordsS k l).map fun t => [t])) (hE : BdE 1048576 ((wordsS k l).map fun t => [t])) :
    Calls Tryz.prog 55 #[.int .i64 k, .agg #[.string tag, v]] w fun e w' => e = .returned (lnV (lnS k l)) ∧ Below w.heap.size w w' := by
  obtain ⟨s0, s1, s2⟩ := hs
  by_cases h1 : k = 1
  · subst h1
    have hw : wordsS 1 l = [decS l.no, l.item, decS l.qty] ++ optN l.money := rfl
    rw [hw] at h hE
    refine (read_1 tag v _ l.no l.qty l.money w h hE ⟨by rw [partF_0]; exact numM_dec _, s0⟩ ⟨by rw [partF_2]; exact numM_dec _, s1⟩ ⟨by rw [partF_3]; exact numM_opt _, s2⟩).mono ?_
    rintro e w' ⟨rfl, hb⟩
    rw [partF_1]
    exact ⟨rfl, hb⟩
  by_cases h5 : k = 5
  · subst h5
    have hw : wordsS 5 l = [l.item, decS l.qty] := rfl
    rw [hw] at h hE
    refine (read_5 tag v _ l.qty w h hE ⟨by rw [partF_1]; exact numM_dec _, s1⟩).mono ?_
    rintro e w' ⟨rfl, hb⟩
    rw [partF_0]
    exact ⟨rfl, hb⟩
  by_cases h6 : k = 6
  · subst h6
    have hw : wordsS 6 l = [l.item, decS l.qty] ++ optT l.note := rfl
    rw [hw] at h hE
    refine (read_6 tag v _ l.qty w h hE ⟨by rw [partF_1]; exact numM_dec _, s1⟩).mono ?_
    rintro e w' ⟨rfl, hb⟩
    rw [partF_0, partF_2]
    have e2 : ((([l.item, decS l.qty] ++ optT l.note))[2]?).getD eT = l.note := optT_getS _
    rw [e2]
    exact ⟨rfl, hb⟩
  by_cases h7 : k = 7
  · subst h7
    have hw : wordsS 7 l = [decS l.no, decS l.qty] ++ optN l.money := rfl
    rw [hw] at h hE
    refine (read_7 tag v _ l.no l.qty l.money w h hE ⟨by rw [partF_0]; exact numM_dec _, s0⟩ ⟨by rw [partF_1]; exact numM_dec _, s1⟩ ⟨by rw [partF_2]; exact numM_opt _, s2⟩).mono ?_
    rintro e w' ⟨rfl, hb⟩
    exact ⟨rfl, hb⟩
  have hw : wordsS k l = [decS l.no, decS l.qty] ++ optT l.note := by
    unfold wordsS wordsI
    rw [if_neg h1, if_neg h5, if_neg h6, if_neg h7]
    by_cases h3 : k = 3
    · rw [if_pos h3]
    · rw [if_neg h3, if_neg h3]
  have hl : lnS k l = ⟨l.no, eT, l.qty, 0, l.note⟩ := by
    unfold lnS lnI
    rw [if_neg h1, if_neg h5, if_neg h6, if_neg h7]
    by_cases h3 : k = 3
    · rw [if_pos h3]
    · rw [if_neg h3, if_neg h3]
  rw [hw] at h hE
  refine (read_e k (by simpa using h1) (by simpa using h5) (by simpa using h6) (by simpa using h7) tag v _ l.no l.qty w h hE ⟨by rw [partF_0]; exact numM_dec _, s0⟩ ⟨by rw [partF_1]; exact numM_dec _, s1⟩).mono ?_
  rintro e w' ⟨rfl, hb⟩
  rw [partF_2, hl]
  have e2 : ((([decS l.no, decS l.qty] ++ optT l.note))[2]?).getD eT = l.note := optT_getS _
  rw [e2]
  exact ⟨rfl, hb⟩
end Go.Proofs.YtcdebinldmblkaaGreatDoor
