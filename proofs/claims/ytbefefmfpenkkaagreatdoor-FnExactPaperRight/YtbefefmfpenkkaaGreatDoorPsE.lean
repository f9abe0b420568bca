/- The boxes of the model's PaperOf; what is asked of numbers that a form takes. -/
import Derived.Test.YtbefefmfpenkkaaGreatDoorPsA
import Derived.Test.YtbefefmfpenkkaaGreatDoorPiM
import Derived.Deep.RegionHeld3
import Derived.Test.YtbefefmfpenkkaaGreatDoorIxTa
import Derived.Test.YtbefefmfpenkkaaGreatDoorPiO
import Derived.Test.YtbefefmfpenkkaaGreatDoorPiH
import Derived.Deep.Cut
import Derived.Deep.CutRange
import Derived.Deep.AppendLies
import Derived.Test.YtbefefmfpenkkaaGreatDoorPiR
namespace Go.Proofs.YtbefefmfpenkkaaGreatDoor
open Go.ChangeShapes Go.WideShapes Go.ChangeAt Go.RowKit
set_option maxRecDepth 20000 in
set_option maxHeartbeats 16000000 in
theorem read_1 (tag : ByteArray) (v : Value) (es : List (List ByteArray)) (n0 n2 n3 : Int) (w : World) (h : RowE w v es) (hE : BdE 1048576 es) (hn0 : NumE es 0 n0) (hn2 : NumE es 2 n2) (hn3 : NumE es 3 n3) :
    Calls Tryz.prog 50 #[.int .i64 1, .agg #[.string tag, v]] w fun e w' => e = .returned (.agg #[.int .i64 n0, .string (partF es 1 0), .int .i64 n2, .int .i64 n3, .string ⟨#[]⟩]) ∧ Below w.heap.size w w' := by
  obtain ⟨A, C, rfl⟩ := h.val
  obtain ⟨W0, hW0⟩ : ∃ W0, (w.alloc (.cells #[.string tag, .slice A es.length C] 45)).alloc (.cells #[.int .i64 0, .string ⟨#[]⟩, .int .i64 0, .int .i64 0, .string ⟨#[]⟩] 59) = W0 := ⟨_, rfl⟩
  have hb0 : Below w.heap.size w W0 := by rw [← hW0]; exact ((Below.refl _ _).alloc (Nat.le_refl _) _).alloc (by simp) _
  have x0 : W0.heap[w.heap.size]? = some (.cells #[.string tag, .slice A es.length C] 45) := by rw [← hW0]; exact two_old _ _ _
  have x1 : W0.heap[w.heap.size + 1]? = some (.cells #[.int .i64 0, .string ⟨#[]⟩, .int .i64 0, .int .i64 0, .string ⟨#[]⟩] 59) := by rw [← hW0]; exact two_new _ _ _
  have HC : Hid (Below w.heap.size w W0 ∧ RowE W0 (.slice A es.length C) es ∧ BdE 1048576 es ∧ ∀ W, Below W0.heap.size W0 W → (W.cell? ⟨w.heap.size, 0, none⟩ = some (.string tag) ∧ W.cell? ⟨w.heap.size, 1, none⟩ = some (.slice A es.length C)) ∧ W.cell? ⟨w.heap.size + 1, 0, none⟩ = some (.int .i64 0) ∧ W.cell? ⟨w.heap.size + 1, 1, none⟩ = some (.string ⟨#[]⟩) ∧ W.cell? ⟨w.heap.size + 1, 2, none⟩ = some (.int .i64 0) ∧ W.cell? ⟨w.heap.size + 1, 3, none⟩ = some (.int .i64 0) ∧ W.cell? ⟨w.heap.size + 1, 4, none⟩ = some (.string ⟨#[]⟩) ∧ ∀ o, W.frozen? ⟨w.heap.size + 1, o, none⟩ = false) := ⟨hb0, h.below hb0, hE, fun W hW => by
    have y0 := (hW.block _ (Array.getElem?_eq_some_iff.1 x0).1).trans x0
    have y1 := (hW.block _ (Array.getElem?_eq_some_iff.1 x1).1).trans x1
    obtain ⟨k0, k1, k2, k3, k4⟩ := box5 y1
    exact ⟨⟨(sbox y0).1, (sbox y0).2.1⟩, k0, k1, k2, k3, k4, frz5 y1⟩⟩
  obtain ⟨⟨c0, c1⟩, d0, d1, d2, d3, d4, d5⟩ := HC.out.2.2.2 W0 (Below.refl _ _)
  go_enter Tryz.func50, Tryz.ntmps50
  go_upto_region 1 with fail
  try rw [hW0]
  clear hW0 x0 x1 hb0 h hE
  go_upto_region 3 with fail
  go_region_held3 (fun W => W.cell? ⟨w.heap.size, 0, none⟩ = some (.string tag) ∧ W.cell? ⟨w.heap.size, 1, none⟩ = some (.slice A es.length C)) (go_keep) (first | (go_at_call_of 49 (Value.int IntKind.i64 3); refine (l05Num_any tag _ es 3 n3 _ (by first | exact Ev | exact Ev.below (Below.refl _ _).drew) HC.out.2.2.1 hn3).mono ?_; rintro e wt ⟨rfl, hbt⟩; have bt : Below W0.heap.size W0 wt := bv.trans ((by first | exact hbt | exact undrewP hbt : Below wv.heap.size wv wt).mono bv.size); have Et := HC.out.2.1.below bt; obtain ⟨⟨t0, t1⟩, t4, t5, t6, t7, t8, t9⟩ := HC.out.2.2.2 wt bt; clear hbt; try dsimp only) | (go_at_call_of 49 (Value.int IntKind.i64 2); refine (l05Num_any tag _ es 2 n2 _ (by first | exact Eu | exact Eu.below (Below.refl _ _).drew) HC.out.2.2.1 hn2).mono ?_; rintro e wv ⟨rfl, hbv⟩; have bv : Below W0.heap.size W0 wv := bu.trans ((by first | exact hbv | exact undrewP hbv : Below wu.heap.size wu wv).mono bu.size); have Ev := HC.out.2.1.below bv; obtain ⟨⟨v0, v1⟩, v4, v5, v6, v7, v8, v9⟩ := HC.out.2.2.2 wv bv; clear hbv; try dsimp only) | (go_at_call_of 48 (Value.int IntKind.i64 1); refine (part_spec tag _ es 1 0 _ (by first | exact Ex | exact Ex.below (Below.refl _ _).drew) HC.out.2.2.1).mono ?_; rintro e wu ⟨rfl, hbu⟩; have bu : Below W0.heap.size W0 wu := bx.trans ((by first | exact hbu | exact undrewP hbu : Below wx.heap.size wx wu).mono bx.size); have Eu := HC.out.2.1.below bu; obtain ⟨⟨u0, u1⟩, u4, u5, u6, u7, u8, u9⟩ := HC.out.2.2.2 wu bu; clear hbu; try dsimp only) | (go_at_call_of 49 (Value.int IntKind.i64 0); refine (l05Num_any tag _ es 0 n0 _ (by first | exact HC.out.2.1 | exact HC.out.2.1.below (Below.refl _ _).drew) HC.out.2.2.1 hn0).mono ?_; rintro e wx ⟨rfl, hbx⟩; have bx : Below W0.heap.size W0 wx := (by first | exact hbx | exact undrewP hbx); have Ex := HC.out.2.1.below bx; obtain ⟨⟨x0, x1⟩, x4, x5, x6, x7, x8, x9⟩ := HC.out.2.2.2 wx bx; clear hbx; try dsimp only) | fail)
  rename_i hHeld
  clear hHeld
  have HB : Hid (Below w.heap.size w wt) := HC.out.1.trans (bt.mono HC.out.1.size)
  have HBw : Hid (w.heap.size ≤ w.heap.size + 1) := by show _ ≤ _; omega
  go_wp2
  exact bodyPost_ret (v := .agg #[.int .i64 n0, .string (partF es 1 0), .int .i64 n2, .int .i64 n3, .string ⟨#[]⟩]) (by simp [results, Tryz.results50, go_sem, t4, t5, t6, t7, t8]) rfl ⟨rfl, ((((HB.out.setCell HBw.out _).setCell HBw.out _).setCell HBw.out _).setCell HBw.out _).setCell HBw.out _⟩
set_option maxRecDepth 20000 in
set_option maxHeartbeats 16000000 in
theorem read_5 (tag : ByteArray) (v : Value) (es : List (List ByteArray)) (n1 : Int) (w : World) (h : RowE w v es) (hE : BdE 1048576 es) (hn1 : NumE es 1 n1) :
    Calls Tryz.prog 50 #[.int .i64 5, .agg #[.string tag, v]] w fun e w' => e = .returned (.agg #[.int .i64 0, .string (partF es 0 0), .int .i64 n1, .int .i64 0, .string ⟨#[]⟩]) ∧ Below w.heap.size w w' := by
  obtain ⟨A, C, rfl⟩ := h.val
  obtain ⟨W0, hW0⟩ : ∃ W0, (w.alloc (.cells #[.string tag, .slice A es.length C] 45)).alloc (.cells #[.int .i64 0, .string ⟨#[]⟩, .int .i64 0, .int .i64 0, .string ⟨#[]⟩] 59) = W0 := ⟨_, rfl⟩
  have hb0 : Below w.heap.size w W0 := by rw [← hW0]; exact ((Below.refl _ _).alloc (Nat.le_refl _) _).alloc (by simp) _
  have x0 : W0.heap[w.heap.size]? = some (.cells #[.string tag, .slice A es.length C] 45) := by rw [← hW0]; exact two_old _ _ _
  have x1 : W0.heap[w.heap.size + 1]? = some (.cells #[.int .i64 0, .string ⟨#[]⟩, .int .i64 0, .int .i64 0, .string ⟨#[]⟩] 59) := by rw [← hW0]; exact two_new _ _ _
  have HC : Hid (Below w.heap.size w W0 ∧ RowE W0 (.slice A es.length C) es ∧ BdE 1048576 es ∧ ∀ W, Below W0.heap.size W0 W → (W.cell? ⟨w.heap.size, 0, none⟩ = some (.string tag) ∧ W.cell? ⟨w.heap.size, 1, none⟩ = some (.slice A es.length C)) ∧ W.cell? ⟨w.heap.size + 1, 0, none⟩ = some (.int .i64 0) ∧ W.cell? ⟨w.heap.size + 1, 1, none⟩ = some (.string ⟨#[]⟩) ∧ W.cell? ⟨w.heap.size + 1, 2, none⟩ = some (.int .i64 0) ∧ W.cell? ⟨w.heap.size + 1, 3, none⟩ = some (.int .i64 0) ∧ W.cell? ⟨w.heap.size + 1, 4, none⟩ = some (.string ⟨#[]⟩) ∧ ∀ o, W.frozen? ⟨w.heap.size + 1, o, none⟩ = false) := ⟨hb0, h.below hb0, hE, fun W hW => by
    have y0 := (hW.block _ (Array.getElem?_eq_some_iff.1 x0).1).trans x0
    have y1 := (hW.block _ (Array.getElem?_eq_some_iff.1 x1).1).trans x1
    obtain ⟨k0, k1, k2, k3, k4⟩ := box5 y1
    exact ⟨⟨(sbox y0).1, (sbox y0).2.1⟩, k0, k1, k2, k3, k4, frz5 y1⟩⟩
  obtain ⟨⟨c0, c1⟩, d0, d1, d2, d3, d4, d5⟩ := HC.out.2.2.2 W0 (Below.refl _ _)
  go_enter Tryz.func50, Tryz.ntmps50
  go_upto_region 1 with fail
  try rw [hW0]
  clear hW0 x0 x1 hb0 h hE
  go_upto_region 5 with fail
  go_region_held3 (fun W => W.cell? ⟨w.heap.size, 0, none⟩ = some (.string tag) ∧ W.cell? ⟨w.heap.size, 1, none⟩ = some (.slice A es.length C)) (go_keep) (first | (go_at_call_of 49 (Value.int IntKind.i64 1); refine (l05Num_any tag _ es 1 n1 _ (by first | exact Ex | exact Ex.below (Below.refl _ _).drew) HC.out.2.2.1 hn1).mono ?_; rintro e wu ⟨rfl, hbu⟩; have bu : Below W0.heap.size W0 wu := bx.trans ((by first | exact hbu | exact undrewP hbu : Below wx.heap.size wx wu).mono bx.size); have Eu := HC.out.2.1.below bu; obtain ⟨⟨u0, u1⟩, u4, u5, u6, u7, u8, u9⟩ := HC.out.2.2.2 wu bu; clear hbu; try dsimp only) | (go_at_call_of 48 (Value.int IntKind.i64 0); refine (part_spec tag _ es 0 0 _ (by first | exact HC.out.2.1 | exact HC.out.2.1.below (Below.refl _ _).drew) HC.out.2.2.1).mono ?_; rintro e wx ⟨rfl, hbx⟩; have bx : Below W0.heap.size W0 wx := (by first | exact hbx | exact undrewP hbx); have Ex := HC.out.2.1.below bx; obtain ⟨⟨x0, x1⟩, x4, x5, x6, x7, x8, x9⟩ := HC.out.2.2.2 wx bx; clear hbx; try dsimp only) | fail)
  rename_i hHeld
  clear hHeld
  have HB : Hid (Below w.heap.size w wu) := HC.out.1.trans (bu.mono HC.out.1.size)
  have HBw : Hid (w.heap.size ≤ w.heap.size + 1) := by show _ ≤ _; omega
  go_wp2
  exact bodyPost_ret (v := .agg #[.int .i64 0, .string (partF es 0 0), .int .i64 n1, .int .i64 0, .string ⟨#[]⟩]) (by simp [results, Tryz.results50, go_sem, u4, u5, u6, u7, u8]) rfl ⟨rfl, ((((HB.out.setCell HBw.out _).setCell HBw.out _).setCell HBw.out _).setCell HBw.out _).setCell HBw.out _⟩
set_option maxRecDepth 20000 in
set_option maxHeartbeats 16000000 in
theorem read_6 (tag : ByteArray) (v : Value) (es : List (List ByteArray)) (n1 : Int) (w : World) (h : RowE w v es) (hE : BdE 1048576 es) (hn1 : NumE es 1 n1) :
    Calls Tryz.prog 50 #[.int .i64 6, .agg #[.string tag, v]] w fun e w' => e = .returned (.agg #[.int .i64 0, .string (partF es 0 0), .int .i64 n1, .int .i64 0, .string (partF es 2 0)]) ∧ Below w.heap.size w w' := by
  obtain ⟨A, C, rfl⟩ := h.val
  obtain ⟨W0, hW0⟩ : ∃ W0, (w.alloc (.cells #[.string tag, .slice A es.length C] 45)).alloc (.cells #[.int .i64 0, .string ⟨#[]⟩, .int .i64 0, .int .i64 0, .string ⟨#[]⟩] 59) = W0 := ⟨_, rfl⟩
  have hb0 : Below w.heap.size w W0 := by rw [← hW0]; exact ((Below.refl _ _).alloc (Nat.le_refl _) _).alloc (by simp) _
  have x0 : W0.heap[w.heap.size]? = some (.cells #[.string tag, .slice A es.length C] 45) := by rw [← hW0]; exact two_old _ _ _
  have x1 : W0.heap[w.heap.size + 1]? = some (.cells #[.int .i64 0, .string ⟨#[]⟩, .int .i64 0, .int .i64 0, .string ⟨#[]⟩] 59) := by rw [← hW0]; exact two_new _ _ _
  have HC : Hid (Below w.heap.size w W0 ∧ RowE W0 (.slice A es.length C) es ∧ BdE 1048576 es ∧ ∀ W, Below W0.heap.size W0 W → (W.cell? ⟨w.heap.size, 0, none⟩ = some (.string tag) ∧ W.cell? ⟨w.heap.size, 1, none⟩ = some (.slice A es.length C)) ∧ W.cell? ⟨w.heap.size + 1, 0, none⟩ = some (.int .i64 0) ∧ W.cell? ⟨w.heap.size + 1, 1, none⟩ = some (.string ⟨#[]⟩) ∧ W.cell? ⟨w.heap.size + 1, 2, none⟩ = some (.int .i64 0) ∧ W.cell? ⟨w.heap.size + 1, 3, none⟩ = some (.int .i64 0) ∧ W.cell? ⟨w.heap.size + 1, 4, none⟩ = some (.string ⟨#[]⟩) ∧ ∀ o, W.frozen? ⟨w.heap.size + 1, o, none⟩ = false) := ⟨hb0, h.below hb0, hE, fun W hW => by
    have y0 := (hW.block _ (Array.getElem?_eq_some_iff.1 x0).1).trans x0
    have y1 := (hW.block _ (Array.getElem?_eq_some_iff.1 x1).1).trans x1
    obtain ⟨k0, k1, k2, k3, k4⟩ := box5 y1
    exact ⟨⟨(sbox y0).1, (sbox y0).2.1⟩, k0, k1, k2, k3, k4, frz5 y1⟩⟩
  obtain ⟨⟨c0, c1⟩, d0, d1, d2, d3, d4, d5⟩ := HC.out.2.2.2 W0 (Below.refl _ _)
  go_enter Tryz.func50, Tryz.ntmps50
  go_upto_region 1 with fail
  try rw [hW0]
  clear hW0 x0 x1 hb0 h hE
  go_upto_region 7 with fail
  go_region_held3 (fun W => W.cell? ⟨w.heap.size, 0, none⟩ = some (.string tag) ∧ W.cell? ⟨w.heap.size, 1, none⟩ = some (.slice A es.length C)) (go_keep) (first | (go_at_call_of 48 (Value.int IntKind.i64 2); refine (part_spec tag _ es 2 0 _ (by first | exact Eu | exact Eu.below (Below.refl _ _).drew) HC.out.2.2.1).mono ?_; rintro e wv ⟨rfl, hbv⟩; have bv : Below W0.heap.size W0 wv := bu.trans ((by first | exact hbv | exact undrewP hbv : Below wu.heap.size wu wv).mono bu.size); have Ev := HC.out.2.1.below bv; obtain ⟨⟨v0, v1⟩, v4, v5, v6, v7, v8, v9⟩ := HC.out.2.2.2 wv bv; clear hbv; try dsimp only) | (go_at_call_of 49 (Value.int IntKind.i64 1); refine (l05Num_any tag _ es 1 n1 _ (by first | exact Ex | exact Ex.below (Below.refl _ _).drew) HC.out.2.2.1 hn1).mono ?_; rintro e wu ⟨rfl, hbu⟩; have bu : Below W0.heap.size W0 wu := bx.trans ((by first | exact hbu | exact undrewP hbu : Below wx.heap.size wx wu).mono bx.size); have Eu := HC.out.2.1.below bu; obtain ⟨⟨u0, u1⟩, u4, u5, u6, u7, u8, u9⟩ := HC.out.2.2.2 wu bu; clear hbu; try dsimp only) | (go_at_call_of 48 (Value.int IntKind.i64 0); refine (part_spec tag _ es 0 0 _ (by first | exact HC.out.2.1 | exact HC.out.2.1.below (Below.refl _ _).drew) HC.out.2.2.1).mono ?_; rintro e wx ⟨rfl, hbx⟩; have bx : Below W0.heap.size W0 wx := (by first | exact hbx | exact undrewP hbx); have Ex := HC.out.2.1.below bx; obtain ⟨⟨x0, x1⟩, x4, x5, x6, x7, x8, x9⟩ := HC.out.2.2.2 wx bx; clear hbx; try dsimp only) | fail)
  rename_i hHeld
  clear hHeld
  have HB : Hid (Below w.heap.size w wv) := HC.out.1.trans (bv.mono HC.out.1.size)
  have HBw : Hid (w.heap.size ≤ w.heap.size + 1) := by show _ ≤ _; omega
  go_wp2
  exact bodyPost_ret (v := .agg #[.int .i64 0, .string (partF es 0 0), .int .i64 n1, .int .i64 0, .string (partF es 2 0)]) (by simp [results, Tryz.results50, go_sem, v4, v5, v6, v7, v8]) rfl ⟨rfl, ((((HB.out.setCell HBw.out _).setCell HBw.out _).setCell HBw.out _).setCell HBw.out _).setCell HBw.out _⟩
set_option maxRecDepth 20000 in
set_option maxHeartbeats 16000000 in
theorem read_7 (tag : ByteArray) (v : Value) (es : List (List ByteArray)) (n0 n1 n2 : Int) (w : World) (h : RowE w v es) (hE : BdE 1048576 es) (hn0 : NumE es 0 n0) (hn1 : NumE es 1 n1) (hn2 : NumE es 2 n2) :
    Calls Tryz.prog 50 #[.int .i64 7, .agg #[.string tag, v]] w fun e w' => e = .returned (.agg #[.int .i64 n0, .string ⟨#[]⟩, .int .i64 n1, .int .i64 n2, .string ⟨#[]⟩]) ∧ Below w.heap.size w w' := by
  obtain ⟨A, C, rfl⟩ := h.val
  obtain ⟨W0, hW0⟩ : ∃ W0, (w.alloc (.cells #[.string tag, .slice A es.length C] 45)).alloc (.cells #[.int .i64 0, .string ⟨#[]⟩, .int .i64 0, .int .i64 0, .string ⟨#[]⟩] 59) = W0 := ⟨_, rfl⟩
  have hb0 : Below w.heap.size w W0 := by rw [← hW0]; exact ((Below.refl _ _).alloc (Nat.le_refl _) _).alloc (by simp) _
  have x0 : W0.heap[w.heap.size]? = some (.cells #[.string tag, .slice A es.length C] 45) := by rw [← hW0]; exact two_old _ _ _
  have x1 : W0.heap[w.heap.size + 1]? = some (.cells #[.int .i64 0, .string ⟨#[]⟩, .int .i64 0, .int .i64 0, .string ⟨#[]⟩] 59) := by rw [← hW0]; exact two_new _ _ _
  have HC : Hid (Below w.heap.size w W0 ∧ RowE W0 (.slice A es.length C) es ∧ BdE 1048576 es ∧ ∀ W, Below W0.heap.size W0 W → (W.cell? ⟨w.heap.size, 0, none⟩ = some (.string tag) ∧ W.cell? ⟨w.heap.size, 1, none⟩ = some (.slice A es.length C)) ∧ W.cell? ⟨w.heap.size + 1, 0, none⟩ = some (.int .i64 0) ∧ W.cell? ⟨w.heap.size + 1, 1, none⟩ = some (.string ⟨#[]⟩) ∧ W.cell? ⟨w.heap.size + 1, 2, none⟩ = some (.int .i64 0) ∧ W.cell? ⟨w.heap.size + 1, 3, none⟩ = some (.int .i64 0) ∧ W.cell? ⟨w.heap.size + 1, 4, none⟩ = some (.string ⟨#[]⟩) ∧ ∀ o, W.frozen? ⟨w.heap.size + 1, o, none⟩ = false) := ⟨hb0, h.below hb0, hE, fun W hW => by
    have y0 := (hW.block _ (Array.getElem?_eq_some_iff.1 x0).1).trans x0
    have y1 := (hW.block _ (Array.getElem?_eq_some_iff.1 x1).1).trans x1
    obtain ⟨k0, k1, k2, k3, k4⟩ := box5 y1
    exact ⟨⟨(sbox y0).1, (sbox y0).2.1⟩, k0, k1, k2, k3, k4, frz5 y1⟩⟩
  obtain ⟨⟨c0, c1⟩, d0, d1, d2, d3, d4, d5⟩ := HC.out.2.2.2 W0 (Below.refl _ _)
  go_enter Tryz.func50, Tryz.ntmps50
  go_upto_region 1 with fail
  try rw [hW0]
  clear hW0 x0 x1 hb0 h hE
  go_upto_region 9 with fail
  go_region_held3 (fun W => W.cell? ⟨w.heap.size, 0, none⟩ = some (.string tag) ∧ W.cell? ⟨w.heap.size, 1, none⟩ = some (.slice A es.length C)) (go_keep) (first | (go_at_call_of 49 (Value.int IntKind.i64 2); refine (l05Num_any tag _ es 2 n2 _ (by first | exact Eu | exact Eu.below (Below.refl _ _).drew) HC.out.2.2.1 hn2).mono ?_; rintro e wv ⟨rfl, hbv⟩; have bv : Below W0.heap.size W0 wv := bu.trans ((by first | exact hbv | exact undrewP hbv : Below wu.heap.size wu wv).mono bu.size); have Ev := HC.out.2.1.below bv; obtain ⟨⟨v0, v1⟩, v4, v5, v6, v7, v8, v9⟩ := HC.out.2.2.2 wv bv; clear hbv; try dsimp only) | (go_at_call_of 49 (Value.int IntKind.i64 1); refine (l05Num_any tag _ es 1 n1 _ (by first | exact Ex | exact Ex.below (Below.refl _ _).drew) HC.out.2.2.1 hn1).mono ?_; rintro e wu ⟨rfl, hbu⟩; have bu : Below W0.heap.size W0 wu := bx.trans ((by first | exact hbu | exact undrewP hbu : Below wx.heap.size wx wu).mono bx.size); have Eu := HC.out.2.1.below bu; obtain ⟨⟨u0, u1⟩, u4, u5, u6, u7, u8, u9⟩ := HC.out.2.2.2 wu bu; clear hbu; try dsimp only) | (go_at_call_of 49 (Value.int IntKind.i64 0); refine (l05Num_any tag _ es 0 n0 _ (by first | exact HC.out.2.1 | exact HC.out.2.1.below (Below.refl _ _).drew) HC.out.2.2.1 hn0).mono ?_; rintro e wx ⟨rfl, hbx⟩; have bx : Below W0.heap.size W0 wx := (by first | exact hbx | exact undrewP hbx); have Ex := HC.out.2.1.below bx; obtain ⟨⟨x0, x1⟩, x4, x5, x6, x7, x8, x9⟩ := HC.out.2.2.2 wx bx; clear hbx; try dsimp only) | fail)
  rename_i hHeld
  clear hHeld
  have HB : Hid (Below w.heap.size w wv) := HC.out.1.trans (bv.mono HC.out.1.size)
  have HBw : Hid (w.heap.size ≤ w.heap.size + 1) := by show _ ≤ _; omega
  go_wp2
  exact bodyPost_ret (v := .agg #[.int .i64 n0, .string ⟨#[]⟩, .int .i64 n1, .int .i64 n2, .string ⟨#[]⟩]) (by simp [results, Tryz.results50, go_sem, v4, v5, v6, v7, v8]) rfl ⟨rfl, ((((HB.out.setCell HBw.out _).setCell HBw.out _).setCell HBw.out _).setCell HBw.out _).setCell HBw.out _⟩
set_option maxRecDepth 20000 in
set_option maxHeartbeats 16000000 in
theorem read_e (k : Int) (q1 : (k == 1) = false) (q5 : (k == 5) = false) (q6 : (k == 6) = false) (q7 : (k == 7) = false) (tag : ByteArray) (v : Value) (es : List (List ByteArray)) (n0 n1 : Int) (w : World) (h : RowE w v es) (hE : BdE 1048576 es) (hn0 : NumE es 0 n0) (hn1 : NumE es 1 n1) :
    Calls Tryz.prog 50 #[.int .i64 k, .agg #[.string tag, v]] w fun e w' => e = .returned (.agg #[.int .i64 n0, .string ⟨#[]⟩, .int .i64 n1, .int .i64 0, .string (partF es 2 0)]) ∧ Below w.heap.size w w' := by
  obtain ⟨A, C, rfl⟩ := h.val
  obtain ⟨W0, hW0⟩ : ∃ W0, (w.alloc (.cells #[.string tag, .slice A es.length C] 45)).alloc (.cells #[.int .i64 0, .string ⟨#[]⟩, .int .i64 0, .int .i64 0, .string ⟨#[]⟩] 59) = W0 := ⟨_, rfl⟩
  have hb0 : Below w.heap.size w W0 := by rw [← hW0]; exact ((Below.refl _ _).alloc (Nat.le_refl _) _).alloc (by simp) _
  have x0 : W0.heap[w.heap.size]? = some (.cells #[.string tag, .slice A es.length C] 45) := by rw [← hW0]; exact two_old _ _ _
  have x1 : W0.heap[w.heap.size + 1]? = some (.cells #[.int .i64 0, .string ⟨#[]⟩, .int .i64 0, .int .i64 0, .string ⟨#[]⟩] 59) := by rw [← hW0]; exact two_new _ _ _
  have HC : Hid (Below w.heap.size w W0 ∧ RowE W0 (.slice A es.length C) es ∧ BdE 1048576 es ∧ ∀ W, Below W0.heap.size W0 W → (W.cell? ⟨w.heap.size, 0, none⟩ = some (.string tag) ∧ W.cell? ⟨w.heap.size, 1, none⟩ = some (.slice A es.length C)) ∧ W.cell? ⟨w.heap.size + 1, 0, none⟩ = some (.int .i64 0) ∧ W.cell? ⟨w.heap.size + 1, 1, none⟩ = some (.string ⟨#[]⟩) ∧ W.cell? ⟨w.heap.size + 1, 2, none⟩ = some (.int .i64 0) ∧ W.cell? ⟨w.heap.size + 1, 3, none⟩ = some (.int .i64 0) ∧ W.cell? ⟨w.heap.size + 1, 4, none⟩ = some (.string ⟨#[]⟩) ∧ ∀ o, W.frozen? ⟨w.heap.size + 1, o, none⟩ = false) := ⟨hb0, h.below hb0, hE, fun W hW => by
    have y0 := (hW.block _ (Array.getElem?_eq_some_iff.1 x0).1).trans x0
    have y1 := (hW.block _ (Array.getElem?_eq_some_iff.1 x1).1).trans x1
    obtain ⟨k0, k1, k2, k3, k4⟩ := box5 y1
    exact ⟨⟨(sbox y0).1, (sbox y0).2.1⟩, k0, k1, k2, k3, k4, frz5 y1⟩⟩
  obtain ⟨⟨c0, c1⟩, d0, d1, d2, d3, d4, d5⟩ := HC.out.2.2.2 W0 (Below.refl _ _)
  go_enter Tryz.func50, Tryz.ntmps50
  go_upto_region 1 with fail
  try rw [hW0]
  clear hW0 x0 x1 hb0 h hE
  go_upto_region 10 with fail
  go_region_held3 (fun W => W.cell? ⟨w.heap.size, 0, none⟩ = some (.string tag) ∧ W.cell? ⟨w.heap.size, 1, none⟩ = some (.slice A es.length C)) (go_keep) (first | (go_at_call_of 48 (Value.int IntKind.i64 2); refine (part_spec tag _ es 2 0 _ (by first | exact Eu | exact Eu.below (Below.refl _ _).drew) HC.out.2.2.1).mono ?_; rintro e wv ⟨rfl, hbv⟩; have bv : Below W0.heap.size W0 wv := bu.trans ((by first | exact hbv | exact undrewP hbv : Below wu.heap.size wu wv).mono bu.size); have Ev := HC.out.2.1.below bv; obtain ⟨⟨v0, v1⟩, v4, v5, v6, v7, v8, v9⟩ := HC.out.2.2.2 wv bv; clear hbv; try dsimp only) | (go_at_call_of 49 (Value.int IntKind.i64 1); refine (l05Num_any tag _ es 1 n1 _ (by first | exact Ex | exact Ex.below (Below.refl _ _).drew) HC.out.2.2.1 hn1).mono ?_; rintro e wu ⟨rfl, hbu⟩; have bu : Below W0.heap.size W0 wu := bx.trans ((by first | exact hbu | exact undrewP hbu : Below wx.heap.size wx wu).mono bx.size); have Eu := HC.out.2.1.below bu; obtain ⟨⟨u0, u1⟩, u4, u5, u6, u7, u8, u9⟩ := HC.out.2.2.2 wu bu; clear hbu; try dsimp only) | (go_at_call_of 49 (Value.int IntKind.i64 0); refine (l05Num_any tag _ es 0 n0 _ (by first | exact HC.out.2.1 | exact HC.out.2.1.below (Below.refl _ _).drew) HC.out.2.2.1 hn0).mono ?_; rintro e wx ⟨rfl, hbx⟩; have bx : Below W0.heap.size W0 wx := (by first | exact hbx | exact undrewP hbx); have Ex := HC.out.2.1.below bx; obtain ⟨⟨x0, x1⟩, x4, x5, x6, x7, x8, x9⟩ := HC.out.2.2.2 wx bx; clear hbx; try dsimp only) | fail)
  rename_i hHeld
  clear hHeld
  have HB : Hid (Below w.heap.size w wv) := HC.out.1.trans (bv.mono HC.out.1.size)
  have HBw : Hid (w.heap.size ≤ w.heap.size + 1) := by show _ ≤ _; omega
  go_wp2
  exact bodyPost_ret (v := .agg #[.int .i64 n0, .string ⟨#[]⟩, .int .i64 n1, .int .i64 0, .string (partF es 2 0)]) (by simp [results, Tryz.results50, go_sem, v4, v5, v6, v7, v8]) rfl ⟨rfl, ((((HB.out.setCell HBw.out _).setCell HBw.out _).setCell HBw.out _).setCell HBw.out _).setCell HBw.out _⟩
/-- Numbers of at most eleven digits. -/
def SmL (l : Ln) : Prop := (-1000000000000 < l.no ∧ l.no < 1000000000000) ∧ (-1000000000000 < l.qty ∧ l.qty < 1000000000000) ∧ (-1000000000000 < l.money ∧ l.money < 1000000000000)
theorem partF_w (ws : List ByteArray) (i : Nat) : partF (ws.map fun t => [t]) (i : Int) 0 = (ws[i]?).getD eT := by
  unfold partF
  rw [List.length_map, Int.toNat_natCast, List.getElem?_map]
  by_cases h : i < ws.length
  · rw [if_pos ⟨by omega, by omega⟩, List.getElem?_eq_getElem h]
    rfl
  · rw [if_neg (by omega), List.getElem?_eq_none (by omega)]
    rfl
theorem partF_0 (ws : List ByteArray) : partF (ws.map fun t => [t]) 0 0 = (ws[0]?).getD eT := partF_w ws 0
theorem partF_1 (ws : List ByteArray) : partF (ws.map fun t => [t]) 1 0 = (ws[1]?).getD eT := partF_w ws 1
theorem partF_2 (ws : List ByteArray) : partF (ws.map fun t => [t]) 2 0 = (ws[2]?).getD eT := partF_w ws 2
theorem partF_3 (ws : List ByteArray) : partF (ws.map fun t => [t]) 3 0 = (ws[3]?).getD eT := partF_w ws 3
theorem numM_dec (n : Int) : NumM (decS n) n := .inl (numT_all n)
theorem numM_opt (n : Int) : NumM (((optN n)[0]?).getD eT) n := by
  unfold optN
  split
  · rename_i h; exact .inr ⟨rfl, h⟩
  · exact numM_dec n
theorem optT_getS (t : ByteArray) : ((optT t)[0]?).getD eT = t := by
  unfold optT
  split
  · rename_i h; exact (empty_eT h).symm
  · rfl
set_option maxRecDepth 20000 in
set_option maxHeartbeats 16000000 in
theorem l05Read_any (k : Int) (l : Ln) (tag : ByteArray) (v : Value) (w : World) (hs : SmL l) (h : RowE w v ((wordsS k l).map fun t => [t])) (hE : BdE 1048576 ((wordsS k l).map fun t => [t])) :
    Calls Tryz.prog 50 #[.int .i64 k, .agg #[.string tag, v]] w fun e w' => e = .returned (lnV (lnS k l)) ∧ Below w.heap.size w w' := by
  obtain ⟨s0, s1, s2⟩ := hs
  by_cases h1 : k = 1
  · subst h1
    have hw : wordsS 1 l = [decS l.no, l.item, decS l.qty] ++ optN l.money := rfl
    rw [hw] at h hE
    refine (read_1 tag v _ l.no l.qty l.money w h hE ⟨by rw [partF_0]; exact numM_dec _, s0⟩ ⟨by rw [partF_2]; exact numM_dec _, s1⟩ ⟨by rw [partF_3]; exact numM_opt _, s2⟩).mono ?_
    rintro e w' ⟨rfl, hb⟩
    rw [partF_1]
    exact ⟨rfl, hb⟩
  by_cases h5 : k = 5
  · subst h5
    have hw : wordsS 5 l = [l.item, decS l.qty] := rfl
    rw [hw] at h hE
    refine (read_5 tag v _ l.qty w h hE ⟨by rw [partF_1]; exact numM_dec _, s1⟩).mono ?_
    rintro e w' ⟨rfl, hb⟩
    rw [partF_0]
    exact ⟨rfl, hb⟩
  by_cases h6 : k = 6
  · subst h6
    have hw : wordsS 6 l = [l.item, decS l.qty] ++ optT l.note := rfl
    rw [hw] at h hE
    refine (read_6 tag v _ l.qty w h hE ⟨by rw [partF_1]; exact numM_dec _, s1⟩).mono ?_
    rintro e w' ⟨rfl, hb⟩
    rw [partF_0, partF_2]
    have e2 : ((([l.item, decS l.qty] ++ optT l.note))[2]?).getD eT = l.note := optT_getS _
    rw [e2]
    exact ⟨rfl, hb⟩
  by_cases h7 : k = 7
  · subst h7
    have hw : wordsS 7 l = [decS l.no, decS l.qty] ++ optN l.money := rfl
    rw [hw] at h hE
    refine (read_7 tag v _ l.no l.qty l.money w h hE ⟨by rw [partF_0]; exact numM_dec _, s0⟩ ⟨by rw [partF_1]; exact numM_dec _, s1⟩ ⟨by rw [partF_2]; exact numM_opt _, s2⟩).mono ?_
    rintro e w' ⟨rfl, hb⟩
    exact ⟨rfl, hb⟩
  have hw : wordsS k l = [decS l.no, decS l.qty] ++ optT l.note := by
    unfold wordsS wordsI
    rw [if_neg h1, if_neg h5, if_neg h6, if_neg h7]
    by_cases h3 : k = 3
    · rw [if_pos h3]
    · rw [if_neg h3, if_neg h3]
  have hl : lnS k l = ⟨l.no, eT, l.qty, 0, l.note⟩ := by
    unfold lnS lnI
    rw [if_neg h1, if_neg h5, if_neg h6, if_neg h7]
    by_cases h3 : k = 3
    · rw [if_pos h3]
    · rw [if_neg h3, if_neg h3]
  rw [hw] at h hE
  refine (read_e k (by simpa using h1) (by simpa using h5) (by simpa using h6) (by simpa using h7) tag v _ l.no l.qty w h hE ⟨by rw [partF_0]; exact numM_dec _, s0⟩ ⟨by rw [partF_1]; exact numM_dec _, s1⟩).mono ?_
  rintro e w' ⟨rfl, hb⟩
  rw [partF_2, hl]
  have e2 : ((([decS l.no, decS l.qty] ++ optT l.note))[2]?).getD eT = l.note := optT_getS _
  rw [e2]
  exact ⟨rfl, hb⟩
end Go.Proofs.YtbefefmfpenkkaaGreatDoor
namespace Go.Proofs.YtbefefmfpenkkaaGreatDoor
open Go.ChangeShapes Go.WideShapes Go.ChangeAt Go.RowKit
theorem undrewG {W W' : World} {r : Option Nat} (h : W.drew.grownBy W' r) : W.grownBy W' r := ⟨h.os, h.tape, h.output, h.size, h.block⟩
theorem newsS {W : World} {b o n c : Nat} {ss : List ByteArray} (h : RowS W (.slice (some ⟨b, o, none⟩) n c) ss) : ∀ j u, (ss.map Value.string)[j]? = some u → W.cell? ((⟨b, o, none⟩ : Addr).add j) = some u := by
  intro j u hu
  rw [List.getElem?_map] at hu
  obtain ⟨s, hs, rfl⟩ := Option.map_eq_some_iff.1 hu
  have hj := (List.getElem?_eq_some_iff.1 hs).1
  obtain ⟨b', o', c', s', e, hs', hc, _⟩ := h.at hj
  simp only [Value.slice.injEq, Option.some.injEq, Addr.mk.injEq] at e
  obtain ⟨⟨rfl, rfl, _⟩, _⟩ := e
  rw [hs] at hs'
  cases hs'
  have e1 : (⟨b, o, none⟩ : Addr).add j = ⟨b, o + j, none⟩ := by unfold Addr.add; split <;> simp_all
  rw [e1]
  exact hc
set_option maxRecDepth 20000 in
set_option maxHeartbeats 4000000 in
theorem l03Seg_any (tag : ByteArray) (v : Value) (ws : List ByteArray) (w : World) (h : RowS w v ws) (hl : ws.length ≤ 10) :
    Calls Tryz.prog 42 #[.string tag, v] w fun e w' => ∃ u vals, e = .returned (.agg #[.string tag, u]) ∧ OwnV w.heap.size w' u vals (ws.map fun t => [t]) ∧ Below w.heap.size w w' := by
  obtain ⟨A, C, rfl⟩ := h.val
  have HR : Hid (RowS w (.slice A ws.length C) ws) := h
  clear h
  obtain ⟨j0, hj0i, hi0, hi1, hi2⟩ := info_parts infoElm
  go_enter Tryz.func42, Tryz.ntmps42
  go_wp2_with fail
  go_loopw [6] (fun i wr => ∃ (k : Nat) (u : Value) (vals : List Value), i = .int .i64 (k : Int) ∧ k ≤ ws.length ∧ GB w.heap.size (w.heap.size + 1) w wr tag u vals ((ws.take k).map fun t => [t])) (fun i _ => ws.length - (intOf i).toNat)
  case atStart =>
    have b0 : Below w.heap.size w ((w.alloc (.cells #[.string ⟨#[]⟩, .slice none 0 0] 45)).alloc (.cells #[.string tag, .slice none 0 0] 45)) := ((Below.refl _ _).alloc (Nat.le_refl _) _).alloc (by simp) _
    exact ⟨0, .slice none 0 0, [], rfl, by omega, ⟨(Below.heap_alloc _ _ _ (by simp)).trans (World.alloc_heap_new w _), heap_new2 w _ _, ⟨rfl, World.ownsRow_nil _ _ _ _, fun i u e hu => by simp at hu, fun i j u x _ hu => by simp at hu⟩, b0, Nat.le_refl _, Nat.lt_succ_self _⟩⟩
  case round =>
    obtain ⟨k, u, vals, rfl, hk, hG⟩ := hrel
    obtain ⟨Au, Nu, Cu, hu⟩ := row_slice hG.own.row
    subst hu
    obtain ⟨c0, c1⟩ := hG.cells
    have hlw := hG.lt
    by_cases hlt : k < ws.length
    · have hlt' : (k : Int) < (ws.length : Int) := by omega
      obtain ⟨b, o, cap', t, e, hs, hc, hsz⟩ := (HR.out.below hG.bel).at hlt
      simp only [Value.slice.injEq, true_and] at e
      obtain ⟨rfl, rfl⟩ := e
      have hel : ((ws.take k).map fun t => [t]).length = k := by rw [List.length_map, List.length_take]; omega
      have hNu : Nu = k := by have := row_n' hG.own.row; omega
      subst hNu
      have hmx : Nu + 1 ≤ maxLen := by unfold maxLen; omega
      have bA : Below wr.heap.size wr (wr.alloc (.cells #[.string t] 9)) := (Below.refl _ _).alloc (Nat.le_refl _) _
      have bB : Below (wr.alloc (.cells #[.string t] 9)).heap.size (wr.alloc (.cells #[.string t] 9)) ((wr.alloc (.cells #[.string t] 9)).alloc (.cells #[.slice (some ⟨wr.heap.size, 0, none⟩) 1 1] 67)) := (Below.refl _ _).alloc (Nat.le_refl _) _
      have GA := hG.below bA
      have GBB := GA.below bB
      obtain ⟨d0, d1⟩ := GA.cells
      obtain ⟨f0, f1⟩ := GBB.cells
      have rowN : ((wr.alloc (.cells #[.string t] 9)).alloc (.cells #[.slice (some ⟨wr.heap.size, 0, none⟩) 1 1] 67)).ownsRow (w.heap.size + 1 + 1) 67 1 (.slice Au Nu Cu) Nu vals := by have := GBB.own.row; rwa [hel] at this
      have HG : Hid (GB w.heap.size (w.heap.size + 1) w wr tag (.slice Au Nu Cu) vals ((ws.take Nu).map fun t => [t]) ∧ ws[Nu]? = some t ∧ (wr.alloc (.cells #[.string t] 9)).ownsRow wr.heap.size 9 1 (.slice (some ⟨wr.heap.size, 0, none⟩) 1 1) 1 [.string t]) := ⟨hG, hs, ⟨rfl, .inr ⟨wr.heap.size, 1, #[.string t], rfl, Nat.le_refl _, World.alloc_heap_new wr _, Nat.le_refl _, by unfold maxLen; omega, rfl, rfl⟩⟩⟩
      clear hG hs GA GBB
      go_wp2_with fail
      go_region_law (first | (refine step_append_lies _ (by rfl) _ _ _ (by rfl) (w.heap.size + 1 + 1) 67 j0 _ 1 24 Tryz.underlying43 hj0i hi0 hi1 hi2 rfl (by omega) (.slice Au Nu Cu) Nu vals (by rfl) (by first | exact rowN | exact rowN.drew) ⟨wr.heap.size + 1, 0, none⟩ 1 1 [.slice (some ⟨wr.heap.size, 0, none⟩) 1 1] (by rfl) (by rfl) (World.news_of_block (cs := #[.slice (some ⟨wr.heap.size, 0, none⟩) 1 1]) (t := 67) (fr := (0, 0)) (heap_new2 wr (.cells #[.string t] 9) (.cells #[.slice (some ⟨wr.heap.size, 0, none⟩) 1 1] 67))) (by simp [Value.oneCell']) (by omega) hmx (by omega) (by simp; omega) (wr.heap.size + 1 + 1) (by simp) ?_; intro gg cap w4 hown4 hgrow hat4 hlt4; obtain ⟨⟨z0, z1⟩, hG4⟩ := HG.out.1.push (x := .slice (some ⟨wr.heap.size, 0, none⟩) 1 1) (e := [t]) (W2 := wr.alloc (.cells #[.string t] 9)) (W3 := (wr.alloc (.cells #[.string t] 9)).alloc (.cells #[.slice (some ⟨wr.heap.size, 0, none⟩) 1 1] 67)) ((Below.refl _ _).alloc (Nat.le_refl _) _) (by simpa using HG.out.2.2) (by simp) ((Below.refl _ _).alloc (Nat.le_refl _) _) (by rw [hel]; exact hown4) (by first | exact hgrow | exact undrewG hgrow); have l4 : w.heap.size + 1 < w4.heap.size := cell_lt z0; have HG4 : Hid (GB w.heap.size (w.heap.size + 1) w (w4.setCell ⟨w.heap.size + 1, 1, none⟩ (.slice (some ⟨gg, 0, none⟩) (Nu + 1) cap)) tag (.slice (some ⟨gg, 0, none⟩) (Nu + 1) cap) (vals ++ [.slice (some ⟨wr.heap.size, 0, none⟩) 1 1]) ((ws.take Nu).map (fun t => [t]) ++ [[t]])) := hG4; clear hown4 hgrow hat4 hG4; try dsimp only))
      all_goals
        go_wp2
        go_roundw
        case rel =>
          refine ⟨Nu + 1, .slice (some ⟨gg, 0, none⟩) (Nu + 1) cap, vals ++ [.slice (some ⟨wr.heap.size, 0, none⟩) 1 1], by go_num, by omega, ?_⟩
          have e1 : (ws.take (Nu + 1)).map (fun t => [t]) = (ws.take Nu).map (fun t => [t]) ++ [[t]] := by
            rw [List.take_add_one, HG.out.2.1]
            simp
          rw [e1]
          exact HG4.out
        case measure => simp [intOf]; omega
    · obtain rfl : k = ws.length := by omega
      have hr := hG.r
      have r0 : wr.cell? ⟨w.heap.size, 0, none⟩ = some (.string ⟨#[]⟩) := by simp [World.cell?, hr]
      have r1 : wr.cell? ⟨w.heap.size, 1, none⟩ = some (.slice none 0 0) := by simp [World.cell?, hr]
      have rz : ∀ o, wr.frozen? ⟨w.heap.size, o, none⟩ = false := fun o => by simp [World.frozen?, hr]
      have hO := hG.own
      rw [List.take_length] at hO
      have HF : Hid (OwnV (w.heap.size + 1 + 1) wr (.slice Au Nu Cu) vals (ws.map fun t => [t]) ∧ Below w.heap.size w wr) := ⟨hO, hG.bel⟩
      clear hG hr hO
      go_wp2
      exact bodyPost_ret (v := .agg #[.string tag, .slice Au Nu Cu]) (by simp [results, Tryz.results42, go_sem, r0, r1]) rfl ⟨_, vals, rfl, ((HF.out.1.set (by omega) _ _).set (by omega) _ _).mono (by omega), (HF.out.2.setCell (Nat.le_refl _) _).setCell (Nat.le_refl _) _⟩
end Go.Proofs.YtbefefmfpenkkaaGreatDoor
namespace Go.Proofs.YtbefefmfpenkkaaGreatDoor
open Go.ChangeShapes Go.WideShapes Go.ChangeAt Go.RowKit
theorem ownW (w : World) {B : Nat} (hB : B ≤ w.heap.size) (ws : List ByteArray) (hl : ws.length ≤ 100) : (w.alloc (.cells (ws.map Value.string).toArray 9)).ownsRow B 9 1 (.slice (some ⟨w.heap.size, 0, none⟩) ws.length ws.length) ws.length (ws.map Value.string) :=
  ⟨by simp, .inr ⟨w.heap.size, ws.length, (ws.map Value.string).toArray, rfl, hB, World.alloc_heap_new _ _, Nat.le_refl _, by unfold maxLen; omega, by simp, by simp [List.take_of_length_le]⟩⟩
/-- The boxes of l05Line: the line's, the answer's. -/
def LB (l : Ln) (w W : World) : Prop := (W.cell? ⟨w.heap.size, 0, none⟩ = some (.int .i64 l.no) ∧ W.cell? ⟨w.heap.size, 1, none⟩ = some (.string l.item) ∧ W.cell? ⟨w.heap.size, 2, none⟩ = some (.int .i64 l.qty) ∧ W.cell? ⟨w.heap.size, 3, none⟩ = some (.int .i64 l.money) ∧ W.cell? ⟨w.heap.size, 4, none⟩ = some (.string l.note)) ∧ W.cell? ⟨w.heap.size + 1, 0, none⟩ = some (.string ⟨#[]⟩) ∧ W.cell? ⟨w.heap.size + 1, 1, none⟩ = some (.slice none 0 0) ∧ ∀ o, W.frozen? ⟨w.heap.size + 1, o, none⟩ = false
set_option maxRecDepth 20000 in
set_option maxHeartbeats 16000000 in
theorem sline_1 (l : Ln) (w : World) (hI : LnI l) (hz : l.item.size ≤ 1048576 ∧ l.note.size ≤ 1048576) :
    Calls Tryz.prog 43 #[.int .i64 1, .agg #[.int .i64 l.no, .string l.item, .int .i64 l.qty, .int .i64 l.money, .string l.note]] w fun e w' => ∃ u vals, e = .returned (.agg #[.string ⟨#[76, 73, 78]⟩, u]) ∧ OwnV w.heap.size w' u vals (([decS l.no, l.item, decS l.qty] ++ optN l.money).map fun t => [t]) ∧ Below w.heap.size w w' := by
  obtain ⟨zi, zn⟩ := hz
  have zo := (decS_long l.no hI.1.1 hI.1.2).2
  have zq := (decS_long l.qty hI.2.1.1 hI.2.1.2).2
  have zm := (decS_long l.money hI.2.2.1 hI.2.2.2).2
  obtain ⟨W0, hW0⟩ : ∃ W0, ((w.alloc (.cells #[.int .i64 l.no, .string l.item, .int .i64 l.qty, .int .i64 l.money, .string l.note] 59)).alloc (.cells #[.string ⟨#[]⟩, .slice none 0 0] 45)).alloc (.cells #[] 9) = W0 := ⟨_, rfl⟩
  have hb0 : Below w.heap.size w W0 := by rw [← hW0]; exact (((Below.refl _ _).alloc (Nat.le_refl _) _).alloc (by simp) _).alloc (by simp; omega) _
  have s0 : w.heap.size + 2 ≤ W0.heap.size := by rw [← hW0]; simp
  obtain ⟨x0, x1, _⟩ := thr_new w (.cells #[.int .i64 l.no, .string l.item, .int .i64 l.qty, .int .i64 l.money, .string l.note] 59) (.cells #[.string ⟨#[]⟩, .slice none 0 0] 45) (.cells #[] 9)
  rw [hW0] at x0 x1
  have HC : Hid ((Below w.heap.size w W0 ∧ w.heap.size + 2 ≤ W0.heap.size) ∧ True ∧ ∀ W, Below W0.heap.size W0 W → LB l w W) := ⟨⟨hb0, s0⟩, trivial, fun W hW => by
    have y0 := (hW.block _ (Array.getElem?_eq_some_iff.1 x0).1).trans x0
    have y1 := (hW.block _ (Array.getElem?_eq_some_iff.1 x1).1).trans x1
    exact ⟨box5 y0, (sbox y1).1, (sbox y1).2.1, (sbox y1).2.2⟩⟩
  obtain ⟨⟨c0, c1, c2, c3, c4⟩, d0, d1, d2⟩ := HC.out.2.2 W0 (Below.refl _ _)
  obtain ⟨fw, hfw⟩ : ∃ fw, fw = [decS l.no, l.item, decS l.qty] ++ optN l.money := ⟨_, rfl⟩
  rw [← hfw]
  have HF : Hid (fw = [decS l.no, l.item, decS l.qty] ++ optN l.money) := hfw
  clear hfw
  go_enter Tryz.func43, Tryz.ntmps43
  go_upto_region 2 with fail
  try rw [hW0]
  clear hW0 x0 x1 hb0 s0
  go_upto_region 5 with fail
  go_region_held3 (fun W => W.cell? ⟨w.heap.size, 0, none⟩ = some (.int .i64 l.no) ∧ W.cell? ⟨w.heap.size, 1, none⟩ = some (.string l.item) ∧ W.cell? ⟨w.heap.size, 2, none⟩ = some (.int .i64 l.qty) ∧ W.cell? ⟨w.heap.size, 3, none⟩ = some (.int .i64 l.money) ∧ W.cell? ⟨w.heap.size, 4, none⟩ = some (.string l.note)) (go_keep) (first | (go_at_call_of 40 (Value.int IntKind.i64 l.no); refine (decG_any l.no _ hI.1.1 hI.1.2).mono ?_; rintro e wx ⟨rfl, hbx⟩; have bx : Below W0.heap.size W0 wx := (by first | exact hbx | exact undrewP hbx); obtain ⟨⟨x0, x1, x2, x3, x4⟩, _⟩ := HC.out.2.2 wx bx; clear hbx; try dsimp only) | (go_at_call_of 40 (Value.int IntKind.i64 l.qty); refine (decG_any l.qty _ hI.2.1.1 hI.2.1.2).mono ?_; rintro e wu ⟨rfl, hbu⟩; have bu : Below W0.heap.size W0 wu := bx.trans ((by first | exact hbu | exact undrewP hbu : Below wx.heap.size wx wu).mono bx.size); obtain ⟨⟨u0, u1, u2, u3, u4⟩, _⟩ := HC.out.2.2 wu bu; clear hbu; try dsimp only) | fail)
  rename_i hHeld
  clear hHeld
  have bN : Below W0.heap.size W0 (wu.alloc (.cells #[.string (decS l.no), .string l.item, .string (decS l.qty)] 9)) := bu.trans ((Below.refl _ _).alloc bu.size _)
  obtain ⟨⟨e0, e1, e2, e3, e4⟩, _⟩ := HC.out.2.2 _ bN
  by_cases hm : l.money = 0
  · have hm' : (l.money == 0) = true := by simpa using hm
    have HN : Hid (RowS (wu.alloc (.cells #[.string (decS l.no), .string l.item, .string (decS l.qty)] 9)) (.slice (some ⟨wu.heap.size, 0, none⟩) 3 3) [decS l.no, l.item, decS l.qty] ∧ Below W0.heap.size W0 (wu.alloc (.cells #[.string (decS l.no), .string l.item, .string (decS l.qty)] 9))) := ⟨row3s _ _ _ _ (by omega) (by omega) (by omega), bN⟩
    have ho : optN l.money = [] := by unfold optN; rw [if_pos hm]
    have HE : Hid (fw = [decS l.no, l.item, decS l.qty]) := by show _ = _; rw [HF.out, ho, List.append_nil]
    clear bN hm ho
    go_wp2_with fail
    refine (l03Seg_any ⟨#[76, 73, 78]⟩ _ ([decS l.no, l.item, decS l.qty]) _ HN.out.1 (by simp)).mono ?_
    rintro e w9 ⟨u9, vals9, rfl, hO9, hb9⟩
    obtain ⟨A9, N9, C9, hu9⟩ := row_slice hO9.row
    subst hu9
    have b9 : Below W0.heap.size W0 w9 := HN.out.2.trans (hb9.mono HN.out.2.size)
    obtain ⟨_, r0, r1, rz⟩ := HC.out.2.2 w9 b9
    have z9 := HN.out.2.size
    have HO : Hid (OwnV (w.heap.size + 2) w9 (.slice A9 N9 C9) vals9 (([decS l.no, l.item, decS l.qty]).map fun t => [t]) ∧ Below w.heap.size w w9) := ⟨hO9.mono (by have := HC.out.1.2; omega), HC.out.1.1.trans (b9.mono HC.out.1.1.size)⟩
    clear hO9 hb9 b9 z9
    go_wp2
    exact bodyPost_ret (v := .agg #[.string ⟨#[76, 73, 78]⟩, .slice A9 N9 C9]) (by simp [results, Tryz.results43, go_sem, r0, r1]) rfl ⟨_, vals9, rfl, by rw [HE.out]; exact ((HO.out.1.set (by omega) _ _).set (by omega) _ _).mono (by omega), (HO.out.2.setCell (show w.heap.size ≤ w.heap.size + 1 by omega) _).setCell (show w.heap.size ≤ w.heap.size + 1 by omega) _⟩
  · have hm' : (l.money == 0) = false := by simpa using hm
    have ho : optN l.money = [decS l.money] := by unfold optN; rw [if_neg hm]
    have HE : Hid (fw = [decS l.no, l.item, decS l.qty] ++ [decS l.money]) := by show _ = _; rw [HF.out, ho]
    have HB : Hid (Below W0.heap.size W0 (wu.alloc (.cells #[.string (decS l.no), .string l.item, .string (decS l.qty)] 9))) := bN
    clear bN hm ho
    go_wp2_with fail
    refine (decG_any l.money _ hI.2.2.1 hI.2.2.2).mono ?_
    rintro e w3 ⟨rfl, hb3⟩
    have bw : Below W0.heap.size W0 w3 := HB.out.trans (hb3.mono HB.out.size)
    obtain ⟨W5, hW5⟩ : ∃ W5, w3.alloc (.cells #[.string (decS l.money)] 9) = W5 := ⟨_, rfl⟩
    have b5 : Below w3.heap.size w3 W5 := by rw [← hW5]; exact (Below.refl _ _).alloc (Nat.le_refl _) _
    have y5 : W5.cell? ⟨w3.heap.size, 0, none⟩ = some (.string (decS l.money)) := by rw [← hW5]; simp [go_sem]
    have hrow : W5.ownsRow W0.heap.size 9 1 (.slice (some ⟨wu.heap.size, 0, none⟩) 3 3) ([decS l.no, l.item, decS l.qty] : List ByteArray).length (([decS l.no, l.item, decS l.qty] : List ByteArray).map Value.string) := own_below (own_below (ownW wu bu.size [decS l.no, l.item, decS l.qty] (by simp)) hb3) b5
    have bw5 : Below W0.heap.size W0 W5 := bw.trans (b5.mono bw.size)
    have hbase : W0.heap.size ≤ W5.heap.size := bw5.size
    have HW5 : Hid (Below W0.heap.size W0 W5) := bw5
    have hl1 : ([decS l.no, l.item, decS l.qty] : List ByteArray).length + 1 ≤ 2000000 := by simp
    clear b5 bw5 bw hb3
    go_wp2_with (at_builtin; (try rw [hW5]); refine wpList_appTx (base := W0.heap.size) (c := w3.heap.size) (C := 1) (lv := .slice (some ⟨wu.heap.size, 0, none⟩) 3 3) (ss := [decS l.no, l.item, decS l.qty]) (t := decS l.money) rfl _ _ rfl rfl rfl hrow y5 hl1 hbase ?_; rintro v6 w6 hown6 hgrow6 ⟨A6, C6, rfl⟩; have HN : Hid (RowS w6 (.slice A6 4 C6) ([decS l.no, l.item, decS l.qty] ++ [decS l.money]) ∧ Below W0.heap.size W0 w6) := ⟨own_rowT hown6 rfl (by simp) (by intro t ht; simp only [List.cons_append, List.nil_append, List.mem_cons, List.not_mem_nil, or_false] at ht; rcases ht with rfl | rfl | rfl | rfl <;> omega), appTx_below HW5.out hrow hgrow6 hbase⟩; clear hown6 hgrow6 hrow; try dsimp only)
    refine (l03Seg_any ⟨#[76, 73, 78]⟩ _ ([decS l.no, l.item, decS l.qty] ++ [decS l.money]) _ HN.out.1 (by simp)).mono ?_
    rintro e w9 ⟨u9, vals9, rfl, hO9, hb9⟩
    obtain ⟨A9, N9, C9, hu9⟩ := row_slice hO9.row
    subst hu9
    have b9 : Below W0.heap.size W0 w9 := HN.out.2.trans (hb9.mono HN.out.2.size)
    obtain ⟨_, r0, r1, rz⟩ := HC.out.2.2 w9 b9
    have z9 := HN.out.2.size
    have HO : Hid (OwnV (w.heap.size + 2) w9 (.slice A9 N9 C9) vals9 (([decS l.no, l.item, decS l.qty] ++ [decS l.money]).map fun t => [t]) ∧ Below w.heap.size w w9) := ⟨hO9.mono (by have := HC.out.1.2; omega), HC.out.1.1.trans (b9.mono HC.out.1.1.size)⟩
    clear hO9 hb9 b9 z9
    go_wp2
    exact bodyPost_ret (v := .agg #[.string ⟨#[76, 73, 78]⟩, .slice A9 N9 C9]) (by simp [results, Tryz.results43, go_sem, r0, r1]) rfl ⟨_, vals9, rfl, by rw [HE.out]; exact ((HO.out.1.set (by omega) _ _).set (by omega) _ _).mono (by omega), (HO.out.2.setCell (show w.heap.size ≤ w.heap.size + 1 by omega) _).setCell (show w.heap.size ≤ w.heap.size + 1 by omega) _⟩
set_option maxRecDepth 20000 in
set_option maxHeartbeats 16000000 in
theorem sline_5 (l : Ln) (w : World) (hI : LnI l) (hz : l.item.size ≤ 1048576 ∧ l.note.size ≤ 1048576) :
    Calls Tryz.prog 43 #[.int .i64 5, .agg #[.int .i64 l.no, .string l.item, .int .i64 l.qty, .int .i64 l.money, .string l.note]] w fun e w' => ∃ u vals, e = .returned (.agg #[.string ⟨#[73, 84, 77]⟩, u]) ∧ OwnV w.heap.size w' u vals (([l.item, decS l.qty]).map fun t => [t]) ∧ Below w.heap.size w w' := by
  obtain ⟨zi, zn⟩ := hz
  have zo := (decS_long l.no hI.1.1 hI.1.2).2
  have zq := (decS_long l.qty hI.2.1.1 hI.2.1.2).2
  have zm := (decS_long l.money hI.2.2.1 hI.2.2.2).2
  obtain ⟨W0, hW0⟩ : ∃ W0, ((w.alloc (.cells #[.int .i64 l.no, .string l.item, .int .i64 l.qty, .int .i64 l.money, .string l.note] 59)).alloc (.cells #[.string ⟨#[]⟩, .slice none 0 0] 45)).alloc (.cells #[] 9) = W0 := ⟨_, rfl⟩
  have hb0 : Below w.heap.size w W0 := by rw [← hW0]; exact (((Below.refl _ _).alloc (Nat.le_refl _) _).alloc (by simp) _).alloc (by simp; omega) _
  have s0 : w.heap.size + 2 ≤ W0.heap.size := by rw [← hW0]; simp
  obtain ⟨x0, x1, _⟩ := thr_new w (.cells #[.int .i64 l.no, .string l.item, .int .i64 l.qty, .int .i64 l.money, .string l.note] 59) (.cells #[.string ⟨#[]⟩, .slice none 0 0] 45) (.cells #[] 9)
  rw [hW0] at x0 x1
  have HC : Hid ((Below w.heap.size w W0 ∧ w.heap.size + 2 ≤ W0.heap.size) ∧ True ∧ ∀ W, Below W0.heap.size W0 W → LB l w W) := ⟨⟨hb0, s0⟩, trivial, fun W hW => by
    have y0 := (hW.block _ (Array.getElem?_eq_some_iff.1 x0).1).trans x0
    have y1 := (hW.block _ (Array.getElem?_eq_some_iff.1 x1).1).trans x1
    exact ⟨box5 y0, (sbox y1).1, (sbox y1).2.1, (sbox y1).2.2⟩⟩
  obtain ⟨⟨c0, c1, c2, c3, c4⟩, d0, d1, d2⟩ := HC.out.2.2 W0 (Below.refl _ _)
  obtain ⟨fw, hfw⟩ : ∃ fw, fw = [l.item, decS l.qty] := ⟨_, rfl⟩
  rw [← hfw]
  have HF : Hid (fw = [l.item, decS l.qty]) := hfw
  clear hfw
  go_enter Tryz.func43, Tryz.ntmps43
  go_upto_region 2 with fail
  try rw [hW0]
  clear hW0 x0 x1 hb0 s0
  go_upto_region 10 with fail
  go_region_held3 (fun W => W.cell? ⟨w.heap.size, 0, none⟩ = some (.int .i64 l.no) ∧ W.cell? ⟨w.heap.size, 1, none⟩ = some (.string l.item) ∧ W.cell? ⟨w.heap.size, 2, none⟩ = some (.int .i64 l.qty) ∧ W.cell? ⟨w.heap.size, 3, none⟩ = some (.int .i64 l.money) ∧ W.cell? ⟨w.heap.size, 4, none⟩ = some (.string l.note)) (go_keep) (first | (go_at_call_of 40 (Value.int IntKind.i64 l.qty); refine (decG_any l.qty _ hI.2.1.1 hI.2.1.2).mono ?_; rintro e wx ⟨rfl, hbx⟩; have bx : Below W0.heap.size W0 wx := (by first | exact hbx | exact undrewP hbx); obtain ⟨⟨x0, x1, x2, x3, x4⟩, _⟩ := HC.out.2.2 wx bx; clear hbx; try dsimp only) | (go_at_call 42; refine (l03Seg_any ⟨#[73, 84, 77]⟩ _ [l.item, decS l.qty] _ (by first | exact row2s _ _ _ (by omega) (by omega) | exact (row2s _ _ _ (by omega) (by omega)).below (Below.refl _ _).drew) (by simp)).mono ?_; rintro e w9 ⟨u9, vals9, rfl, hO9, hb9⟩; obtain ⟨A9, N9, C9, hu9⟩ := row_slice hO9.row; subst hu9; have bN : Below W0.heap.size W0 (wx.alloc (.cells #[.string l.item, .string (decS l.qty)] 9)) := bx.trans ((Below.refl _ _).alloc bx.size _); have bN9 : Below (wx.alloc (.cells #[.string l.item, .string (decS l.qty)] 9)).heap.size (wx.alloc (.cells #[.string l.item, .string (decS l.qty)] 9)) w9 := (by first | exact hb9 | exact undrewP hb9); have b9 : Below W0.heap.size W0 w9 := bN.trans (bN9.mono bN.size); obtain ⟨⟨s0, s1, s2, s3, s4⟩, r0, r1, rz⟩ := HC.out.2.2 w9 b9; have HO : Hid (OwnV (w.heap.size + 2) w9 (.slice A9 N9 C9) vals9 (([l.item, decS l.qty]).map fun t => [t]) ∧ Below w.heap.size w w9) := ⟨hO9.mono (by first | (have := HC.out.1.2; have := bN.size; omega) | (have := HC.out.1.2; have := bN.size; show _ ≤ (wx.alloc (.cells #[.string l.item, .string (decS l.qty)] 9)).heap.size; omega)), HC.out.1.1.trans (b9.mono HC.out.1.1.size)⟩; clear hO9 hb9 b9 bN bN9; try dsimp only) | fail)
  rename_i hHeld
  clear hHeld
  have HE : Hid (fw = [l.item, decS l.qty]) := HF.out
  go_wp2
  exact bodyPost_ret (v := .agg #[.string ⟨#[73, 84, 77]⟩, .slice A9 N9 C9]) (by simp [results, Tryz.results43, go_sem, r0, r1]) rfl ⟨_, vals9, rfl, by rw [HE.out]; exact ((HO.out.1.set (by omega) _ _).set (by omega) _ _).mono (by omega), (HO.out.2.setCell (show w.heap.size ≤ w.heap.size + 1 by omega) _).setCell (show w.heap.size ≤ w.heap.size + 1 by omega) _⟩
set_option maxRecDepth 20000 in
set_option maxHeartbeats 16000000 in
theorem sline_7 (l : Ln) (w : World) (hI : LnI l) (hz : l.item.size ≤ 1048576 ∧ l.note.size ≤ 1048576) :
    Calls Tryz.prog 43 #[.int .i64 7, .agg #[.int .i64 l.no, .string l.item, .int .i64 l.qty, .int .i64 l.money, .string l.note]] w fun e w' => ∃ u vals, e = .returned (.agg #[.string ⟨#[65, 67, 75]⟩, u]) ∧ OwnV w.heap.size w' u vals (([decS l.no, decS l.qty] ++ optN l.money).map fun t => [t]) ∧ Below w.heap.size w w' := by
  obtain ⟨zi, zn⟩ := hz
  have zo := (decS_long l.no hI.1.1 hI.1.2).2
  have zq := (decS_long l.qty hI.2.1.1 hI.2.1.2).2
  have zm := (decS_long l.money hI.2.2.1 hI.2.2.2).2
  obtain ⟨W0, hW0⟩ : ∃ W0, ((w.alloc (.cells #[.int .i64 l.no, .string l.item, .int .i64 l.qty, .int .i64 l.money, .string l.note] 59)).alloc (.cells #[.string ⟨#[]⟩, .slice none 0 0] 45)).alloc (.cells #[] 9) = W0 := ⟨_, rfl⟩
  have hb0 : Below w.heap.size w W0 := by rw [← hW0]; exact (((Below.refl _ _).alloc (Nat.le_refl _) _).alloc (by simp) _).alloc (by simp; omega) _
  have s0 : w.heap.size + 2 ≤ W0.heap.size := by rw [← hW0]; simp
  obtain ⟨x0, x1, _⟩ := thr_new w (.cells #[.int .i64 l.no, .string l.item, .int .i64 l.qty, .int .i64 l.money, .string l.note] 59) (.cells #[.string ⟨#[]⟩, .slice none 0 0] 45) (.cells #[] 9)
  rw [hW0] at x0 x1
  have HC : Hid ((Below w.heap.size w W0 ∧ w.heap.size + 2 ≤ W0.heap.size) ∧ True ∧ ∀ W, Below W0.heap.size W0 W → LB l w W) := ⟨⟨hb0, s0⟩, trivial, fun W hW => by
    have y0 := (hW.block _ (Array.getElem?_eq_some_iff.1 x0).1).trans x0
    have y1 := (hW.block _ (Array.getElem?_eq_some_iff.1 x1).1).trans x1
    exact ⟨box5 y0, (sbox y1).1, (sbox y1).2.1, (sbox y1).2.2⟩⟩
  obtain ⟨⟨c0, c1, c2, c3, c4⟩, d0, d1, d2⟩ := HC.out.2.2 W0 (Below.refl _ _)
  obtain ⟨fw, hfw⟩ : ∃ fw, fw = [decS l.no, decS l.qty] ++ optN l.money := ⟨_, rfl⟩
  rw [← hfw]
  have HF : Hid (fw = [decS l.no, decS l.qty] ++ optN l.money) := hfw
  clear hfw
  go_enter Tryz.func43, Tryz.ntmps43
  go_upto_region 2 with fail
  try rw [hW0]
  clear hW0 x0 x1 hb0 s0
  go_upto_region 12 with fail
  go_region_held3 (fun W => W.cell? ⟨w.heap.size, 0, none⟩ = some (.int .i64 l.no) ∧ W.cell? ⟨w.heap.size, 1, none⟩ = some (.string l.item) ∧ W.cell? ⟨w.heap.size, 2, none⟩ = some (.int .i64 l.qty) ∧ W.cell? ⟨w.heap.size, 3, none⟩ = some (.int .i64 l.money) ∧ W.cell? ⟨w.heap.size, 4, none⟩ = some (.string l.note)) (go_keep) (first | (go_at_call_of 40 (Value.int IntKind.i64 l.no); refine (decG_any l.no _ hI.1.1 hI.1.2).mono ?_; rintro e wx ⟨rfl, hbx⟩; have bx : Below W0.heap.size W0 wx := (by first | exact hbx | exact undrewP hbx); obtain ⟨⟨x0, x1, x2, x3, x4⟩, _⟩ := HC.out.2.2 wx bx; clear hbx; try dsimp only) | (go_at_call_of 40 (Value.int IntKind.i64 l.qty); refine (decG_any l.qty _ hI.2.1.1 hI.2.1.2).mono ?_; rintro e wu ⟨rfl, hbu⟩; have bu : Below W0.heap.size W0 wu := bx.trans ((by first | exact hbu | exact undrewP hbu : Below wx.heap.size wx wu).mono bx.size); obtain ⟨⟨u0, u1, u2, u3, u4⟩, _⟩ := HC.out.2.2 wu bu; clear hbu; try dsimp only) | fail)
  rename_i hHeld
  clear hHeld
  have bN : Below W0.heap.size W0 (wu.alloc (.cells #[.string (decS l.no), .string (decS l.qty)] 9)) := bu.trans ((Below.refl _ _).alloc bu.size _)
  obtain ⟨⟨e0, e1, e2, e3, e4⟩, _⟩ := HC.out.2.2 _ bN
  by_cases hm : l.money = 0
  · have hm' : (l.money == 0) = true := by simpa using hm
    have HN : Hid (RowS (wu.alloc (.cells #[.string (decS l.no), .string (decS l.qty)] 9)) (.slice (some ⟨wu.heap.size, 0, none⟩) 2 2) [decS l.no, decS l.qty] ∧ Below W0.heap.size W0 (wu.alloc (.cells #[.string (decS l.no), .string (decS l.qty)] 9))) := ⟨row2s _ _ _ (by omega) (by omega), bN⟩
    have ho : optN l.money = [] := by unfold optN; rw [if_pos hm]
    have HE : Hid (fw = [decS l.no, decS l.qty]) := by show _ = _; rw [HF.out, ho, List.append_nil]
    clear bN hm ho
    go_wp2_with fail
    refine (l03Seg_any ⟨#[65, 67, 75]⟩ _ ([decS l.no, decS l.qty]) _ HN.out.1 (by simp)).mono ?_
    rintro e w9 ⟨u9, vals9, rfl, hO9, hb9⟩
    obtain ⟨A9, N9, C9, hu9⟩ := row_slice hO9.row
    subst hu9
    have b9 : Below W0.heap.size W0 w9 := HN.out.2.trans (hb9.mono HN.out.2.size)
    obtain ⟨_, r0, r1, rz⟩ := HC.out.2.2 w9 b9
    have z9 := HN.out.2.size
    have HO : Hid (OwnV (w.heap.size + 2) w9 (.slice A9 N9 C9) vals9 (([decS l.no, decS l.qty]).map fun t => [t]) ∧ Below w.heap.size w w9) := ⟨hO9.mono (by have := HC.out.1.2; omega), HC.out.1.1.trans (b9.mono HC.out.1.1.size)⟩
    clear hO9 hb9 b9 z9
    go_wp2
    exact bodyPost_ret (v := .agg #[.string ⟨#[65, 67, 75]⟩, .slice A9 N9 C9]) (by simp [results, Tryz.results43, go_sem, r0, r1]) rfl ⟨_, vals9, rfl, by rw [HE.out]; exact ((HO.out.1.set (by omega) _ _).set (by omega) _ _).mono (by omega), (HO.out.2.setCell (show w.heap.size ≤ w.heap.size + 1 by omega) _).setCell (show w.heap.size ≤ w.heap.size + 1 by omega) _⟩
  · have hm' : (l.money == 0) = false := by simpa using hm
    have ho : optN l.money = [decS l.money] := by unfold optN; rw [if_neg hm]
    have HE : Hid (fw = [decS l.no, decS l.qty] ++ [decS l.money]) := by show _ = _; rw [HF.out, ho]
    have HB : Hid (Below W0.heap.size W0 (wu.alloc (.cells #[.string (decS l.no), .string (decS l.qty)] 9))) := bN
    clear bN hm ho
    go_wp2_with fail
    refine (decG_any l.money _ hI.2.2.1 hI.2.2.2).mono ?_
    rintro e w3 ⟨rfl, hb3⟩
    have bw : Below W0.heap.size W0 w3 := HB.out.trans (hb3.mono HB.out.size)
    obtain ⟨W5, hW5⟩ : ∃ W5, w3.alloc (.cells #[.string (decS l.money)] 9) = W5 := ⟨_, rfl⟩
    have b5 : Below w3.heap.size w3 W5 := by rw [← hW5]; exact (Below.refl _ _).alloc (Nat.le_refl _) _
    have y5 : W5.cell? ⟨w3.heap.size, 0, none⟩ = some (.string (decS l.money)) := by rw [← hW5]; simp [go_sem]
    have hrow : W5.ownsRow W0.heap.size 9 1 (.slice (some ⟨wu.heap.size, 0, none⟩) 2 2) ([decS l.no, decS l.qty] : List ByteArray).length (([decS l.no, decS l.qty] : List ByteArray).map Value.string) := own_below (own_below (ownW wu bu.size [decS l.no, decS l.qty] (by simp)) hb3) b5
    have bw5 : Below W0.heap.size W0 W5 := bw.trans (b5.mono bw.size)
    have hbase : W0.heap.size ≤ W5.heap.size := bw5.size
    have HW5 : Hid (Below W0.heap.size W0 W5) := bw5
    have hl1 : ([decS l.no, decS l.qty] : List ByteArray).length + 1 ≤ 2000000 := by simp
    clear b5 bw5 bw hb3
    go_wp2_with (at_builtin; (try rw [hW5]); refine wpList_appTx (base := W0.heap.size) (c := w3.heap.size) (C := 1) (lv := .slice (some ⟨wu.heap.size, 0, none⟩) 2 2) (ss := [decS l.no, decS l.qty]) (t := decS l.money) rfl _ _ rfl rfl rfl hrow y5 hl1 hbase ?_; rintro v6 w6 hown6 hgrow6 ⟨A6, C6, rfl⟩; have HN : Hid (RowS w6 (.slice A6 3 C6) ([decS l.no, decS l.qty] ++ [decS l.money]) ∧ Below W0.heap.size W0 w6) := ⟨own_rowT hown6 rfl (by simp) (by intro t ht; simp only [List.cons_append, List.nil_append, List.mem_cons, List.not_mem_nil, or_false] at ht; rcases ht with rfl | rfl | rfl <;> omega), appTx_below HW5.out hrow hgrow6 hbase⟩; clear hown6 hgrow6 hrow; try dsimp only)
    refine (l03Seg_any ⟨#[65, 67, 75]⟩ _ ([decS l.no, decS l.qty] ++ [decS l.money]) _ HN.out.1 (by simp)).mono ?_
    rintro e w9 ⟨u9, vals9, rfl, hO9, hb9⟩
    obtain ⟨A9, N9, C9, hu9⟩ := row_slice hO9.row
    subst hu9
    have b9 : Below W0.heap.size W0 w9 := HN.out.2.trans (hb9.mono HN.out.2.size)
    obtain ⟨_, r0, r1, rz⟩ := HC.out.2.2 w9 b9
    have z9 := HN.out.2.size
    have HO : Hid (OwnV (w.heap.size + 2) w9 (.slice A9 N9 C9) vals9 (([decS l.no, decS l.qty] ++ [decS l.money]).map fun t => [t]) ∧ Below w.heap.size w w9) := ⟨hO9.mono (by have := HC.out.1.2; omega), HC.out.1.1.trans (b9.mono HC.out.1.1.size)⟩
    clear hO9 hb9 b9 z9
    go_wp2
    exact bodyPost_ret (v := .agg #[.string ⟨#[65, 67, 75]⟩, .slice A9 N9 C9]) (by simp [results, Tryz.results43, go_sem, r0, r1]) rfl ⟨_, vals9, rfl, by rw [HE.out]; exact ((HO.out.1.set (by omega) _ _).set (by omega) _ _).mono (by omega), (HO.out.2.setCell (show w.heap.size ≤ w.heap.size + 1 by omega) _).setCell (show w.heap.size ≤ w.heap.size + 1 by omega) _⟩
set_option maxRecDepth 20000 in
set_option maxHeartbeats 16000000 in
theorem sline_6 (l : Ln) (w : World) (hI : LnI l) (hz : l.item.size ≤ 1048576 ∧ l.note.size ≤ 1048576) :
    Calls Tryz.prog 43 #[.int .i64 6, .agg #[.int .i64 l.no, .string l.item, .int .i64 l.qty, .int .i64 l.money, .string l.note]] w fun e w' => ∃ u vals, e = .returned (.agg #[.string ⟨#[73, 84, 77]⟩, u]) ∧ OwnV w.heap.size w' u vals (([l.item, decS l.qty] ++ optT l.note).map fun t => [t]) ∧ Below w.heap.size w w' := by
  obtain ⟨zi, zn⟩ := hz
  have zo := (decS_long l.no hI.1.1 hI.1.2).2
  have zq := (decS_long l.qty hI.2.1.1 hI.2.1.2).2
  have zm := (decS_long l.money hI.2.2.1 hI.2.2.2).2
  obtain ⟨W0, hW0⟩ : ∃ W0, ((w.alloc (.cells #[.int .i64 l.no, .string l.item, .int .i64 l.qty, .int .i64 l.money, .string l.note] 59)).alloc (.cells #[.string ⟨#[]⟩, .slice none 0 0] 45)).alloc (.cells #[] 9) = W0 := ⟨_, rfl⟩
  have hb0 : Below w.heap.size w W0 := by rw [← hW0]; exact (((Below.refl _ _).alloc (Nat.le_refl _) _).alloc (by simp) _).alloc (by simp; omega) _
  have s0 : w.heap.size + 2 ≤ W0.heap.size := by rw [← hW0]; simp
  obtain ⟨x0, x1, _⟩ := thr_new w (.cells #[.int .i64 l.no, .string l.item, .int .i64 l.qty, .int .i64 l.money, .string l.note] 59) (.cells #[.string ⟨#[]⟩, .slice none 0 0] 45) (.cells #[] 9)
  rw [hW0] at x0 x1
  have HC : Hid ((Below w.heap.size w W0 ∧ w.heap.size + 2 ≤ W0.heap.size) ∧ True ∧ ∀ W, Below W0.heap.size W0 W → LB l w W) := ⟨⟨hb0, s0⟩, trivial, fun W hW => by
    have y0 := (hW.block _ (Array.getElem?_eq_some_iff.1 x0).1).trans x0
    have y1 := (hW.block _ (Array.getElem?_eq_some_iff.1 x1).1).trans x1
    exact ⟨box5 y0, (sbox y1).1, (sbox y1).2.1, (sbox y1).2.2⟩⟩
  obtain ⟨⟨c0, c1, c2, c3, c4⟩, d0, d1, d2⟩ := HC.out.2.2 W0 (Below.refl _ _)
  obtain ⟨fw, hfw⟩ : ∃ fw, fw = [l.item, decS l.qty] ++ optT l.note := ⟨_, rfl⟩
  rw [← hfw]
  have HF : Hid (fw = [l.item, decS l.qty] ++ optT l.note) := hfw
  clear hfw
  go_enter Tryz.func43, Tryz.ntmps43
  go_upto_region 2 with fail
  try rw [hW0]
  clear hW0 x0 x1 hb0 s0
  go_upto_region 17 with fail
  go_region_held3 (fun W => W.cell? ⟨w.heap.size, 0, none⟩ = some (.int .i64 l.no) ∧ W.cell? ⟨w.heap.size, 1, none⟩ = some (.string l.item) ∧ W.cell? ⟨w.heap.size, 2, none⟩ = some (.int .i64 l.qty) ∧ W.cell? ⟨w.heap.size, 3, none⟩ = some (.int .i64 l.money) ∧ W.cell? ⟨w.heap.size, 4, none⟩ = some (.string l.note)) (go_keep) (first | (go_at_call_of 40 (Value.int IntKind.i64 l.qty); refine (decG_any l.qty _ hI.2.1.1 hI.2.1.2).mono ?_; rintro e wx ⟨rfl, hbx⟩; have bx : Below W0.heap.size W0 wx := (by first | exact hbx | exact undrewP hbx); obtain ⟨⟨x0, x1, x2, x3, x4⟩, _⟩ := HC.out.2.2 wx bx; clear hbx; try dsimp only) | fail)
  rename_i hHeld
  clear hHeld
  have bN : Below W0.heap.size W0 (wx.alloc (.cells #[.string l.item, .string (decS l.qty)] 9)) := bx.trans ((Below.refl _ _).alloc bx.size _)
  obtain ⟨⟨e0, e1, e2, e3, e4⟩, _⟩ := HC.out.2.2 _ bN
  by_cases hm : l.note.toList.isEmpty = true
  · have hm' : (l.note.toList == []) = true := by simpa using hm
    have HN : Hid (RowS (wx.alloc (.cells #[.string l.item, .string (decS l.qty)] 9)) (.slice (some ⟨wx.heap.size, 0, none⟩) 2 2) [l.item, decS l.qty] ∧ Below W0.heap.size W0 (wx.alloc (.cells #[.string l.item, .string (decS l.qty)] 9))) := ⟨row2s _ _ _ (by omega) (by omega), bN⟩
    have ho : optT l.note = [] := by unfold optT; rw [if_pos hm]
    have HE : Hid (fw = [l.item, decS l.qty]) := by show _ = _; rw [HF.out, ho, List.append_nil]
    clear bN hm ho
    go_wp2_with fail
    refine (l03Seg_any ⟨#[73, 84, 77]⟩ _ ([l.item, decS l.qty]) _ HN.out.1 (by simp)).mono ?_
    rintro e w9 ⟨u9, vals9, rfl, hO9, hb9⟩
    obtain ⟨A9, N9, C9, hu9⟩ := row_slice hO9.row
    subst hu9
    have b9 : Below W0.heap.size W0 w9 := HN.out.2.trans (hb9.mono HN.out.2.size)
    obtain ⟨_, r0, r1, rz⟩ := HC.out.2.2 w9 b9
    have z9 := HN.out.2.size
    have HO : Hid (OwnV (w.heap.size + 2) w9 (.slice A9 N9 C9) vals9 (([l.item, decS l.qty]).map fun t => [t]) ∧ Below w.heap.size w w9) := ⟨hO9.mono (by have := HC.out.1.2; omega), HC.out.1.1.trans (b9.mono HC.out.1.1.size)⟩
    clear hO9 hb9 b9 z9
    go_wp2
    exact bodyPost_ret (v := .agg #[.string ⟨#[73, 84, 77]⟩, .slice A9 N9 C9]) (by simp [results, Tryz.results43, go_sem, r0, r1]) rfl ⟨_, vals9, rfl, by rw [HE.out]; exact ((HO.out.1.set (by omega) _ _).set (by omega) _ _).mono (by omega), (HO.out.2.setCell (show w.heap.size ≤ w.heap.size + 1 by omega) _).setCell (show w.heap.size ≤ w.heap.size + 1 by omega) _⟩
  · have hm' : (l.note.toList == []) = false := by simpa using hm
    have ho : optT l.note = [l.note] := by unfold optT; rw [if_neg hm]
    have HE : Hid (fw = [l.item, decS l.qty] ++ [l.note]) := by show _ = _; rw [HF.out, ho]
    have HB : Hid (Below W0.heap.size W0 (wx.alloc (.cells #[.string l.item, .string (decS l.qty)] 9))) := bN
    obtain ⟨w3, hw3⟩ : ∃ w3, (wx.alloc (.cells #[.string l.item, .string (decS l.qty)] 9)) = w3 := ⟨_, rfl⟩
    have hb3 : Below (wx.alloc (.cells #[.string l.item, .string (decS l.qty)] 9)).heap.size (wx.alloc (.cells #[.string l.item, .string (decS l.qty)] 9)) w3 := by rw [hw3]; exact Below.refl _ _
    clear bN hm ho
    have bw : Below W0.heap.size W0 w3 := HB.out.trans (hb3.mono HB.out.size)
    obtain ⟨W5, hW5⟩ : ∃ W5, w3.alloc (.cells #[.string (l.note)] 9) = W5 := ⟨_, rfl⟩
    have b5 : Below w3.heap.size w3 W5 := by rw [← hW5]; exact (Below.refl _ _).alloc (Nat.le_refl _) _
    have y5 : W5.cell? ⟨w3.heap.size, 0, none⟩ = some (.string (l.note)) := by rw [← hW5]; simp [go_sem]
    have hrow : W5.ownsRow W0.heap.size 9 1 (.slice (some ⟨wx.heap.size, 0, none⟩) 2 2) ([l.item, decS l.qty] : List ByteArray).length (([l.item, decS l.qty] : List ByteArray).map Value.string) := own_below (own_below (ownW wx bx.size [l.item, decS l.qty] (by simp)) hb3) b5
    have bw5 : Below W0.heap.size W0 W5 := bw.trans (b5.mono bw.size)
    have hbase : W0.heap.size ≤ W5.heap.size := bw5.size
    have HW5 : Hid (Below W0.heap.size W0 W5) := bw5
    have hl1 : ([l.item, decS l.qty] : List ByteArray).length + 1 ≤ 2000000 := by simp
    clear b5 bw5 bw hb3
    try rw [hw3]
    rw [hw3] at e0 e1 e2 e3 e4
    clear hw3
    go_wp2_with (at_builtin; (try rw [hW5]); refine wpList_appTx (base := W0.heap.size) (c := w3.heap.size) (C := 1) (lv := .slice (some ⟨wx.heap.size, 0, none⟩) 2 2) (ss := [l.item, decS l.qty]) (t := l.note) rfl _ _ rfl rfl rfl hrow y5 hl1 hbase ?_; rintro v6 w6 hown6 hgrow6 ⟨A6, C6, rfl⟩; have HN : Hid (RowS w6 (.slice A6 3 C6) ([l.item, decS l.qty] ++ [l.note]) ∧ Below W0.heap.size W0 w6) := ⟨own_rowT hown6 rfl (by simp) (by intro t ht; simp only [List.cons_append, List.nil_append, List.mem_cons, List.not_mem_nil, or_false] at ht; rcases ht with rfl | rfl | rfl <;> omega), appTx_below HW5.out hrow hgrow6 hbase⟩; clear hown6 hgrow6 hrow; try dsimp only)
    refine (l03Seg_any ⟨#[73, 84, 77]⟩ _ ([l.item, decS l.qty] ++ [l.note]) _ HN.out.1 (by simp)).mono ?_
    rintro e w9 ⟨u9, vals9, rfl, hO9, hb9⟩
    obtain ⟨A9, N9, C9, hu9⟩ := row_slice hO9.row
    subst hu9
    have b9 : Below W0.heap.size W0 w9 := HN.out.2.trans (hb9.mono HN.out.2.size)
    obtain ⟨_, r0, r1, rz⟩ := HC.out.2.2 w9 b9
    have z9 := HN.out.2.size
    have HO : Hid (OwnV (w.heap.size + 2) w9 (.slice A9 N9 C9) vals9 (([l.item, decS l.qty] ++ [l.note]).map fun t => [t]) ∧ Below w.heap.size w w9) := ⟨hO9.mono (by have := HC.out.1.2; omega), HC.out.1.1.trans (b9.mono HC.out.1.1.size)⟩
    clear hO9 hb9 b9 z9
    go_wp2
    exact bodyPost_ret (v := .agg #[.string ⟨#[73, 84, 77]⟩, .slice A9 N9 C9]) (by simp [results, Tryz.results43, go_sem, r0, r1]) rfl ⟨_, vals9, rfl, by rw [HE.out]; exact ((HO.out.1.set (by omega) _ _).set (by omega) _ _).mono (by omega), (HO.out.2.setCell (show w.heap.size ≤ w.heap.size + 1 by omega) _).setCell (show w.heap.size ≤ w.heap.size + 1 by omega) _⟩
set_option maxRecDepth 20000 in
set_option maxHeartbeats 16000000 in
theorem sline_e (k : Int) (q1 : (k == 1) = false) (q5 : (k == 5) = false) (q6 : (k == 6) = false) (q7 : (k == 7) = false) (l : Ln) (w : World) (hI : LnI l) (hz : l.item.size ≤ 1048576 ∧ l.note.size ≤ 1048576) :
    Calls Tryz.prog 43 #[.int .i64 k, .agg #[.int .i64 l.no, .string l.item, .int .i64 l.qty, .int .i64 l.money, .string l.note]] w fun e w' => ∃ u vals, e = .returned (.agg #[.string ⟨#[76, 73, 78]⟩, u]) ∧ OwnV w.heap.size w' u vals (([decS l.no, decS l.qty] ++ optT l.note).map fun t => [t]) ∧ Below w.heap.size w w' := by
  obtain ⟨zi, zn⟩ := hz
  have zo := (decS_long l.no hI.1.1 hI.1.2).2
  have zq := (decS_long l.qty hI.2.1.1 hI.2.1.2).2
  have zm := (decS_long l.money hI.2.2.1 hI.2.2.2).2
  obtain ⟨W0, hW0⟩ : ∃ W0, ((w.alloc (.cells #[.int .i64 l.no, .string l.item, .int .i64 l.qty, .int .i64 l.money, .string l.note] 59)).alloc (.cells #[.string ⟨#[]⟩, .slice none 0 0] 45)).alloc (.cells #[] 9) = W0 := ⟨_, rfl⟩
  have hb0 : Below w.heap.size w W0 := by rw [← hW0]; exact (((Below.refl _ _).alloc (Nat.le_refl _) _).alloc (by simp) _).alloc (by simp; omega) _
  have s0 : w.heap.size + 2 ≤ W0.heap.size := by rw [← hW0]; simp
  obtain ⟨x0, x1, _⟩ := thr_new w (.cells #[.int .i64 l.no, .string l.item, .int .i64 l.qty, .int .i64 l.money, .string l.note] 59) (.cells #[.string ⟨#[]⟩, .slice none 0 0] 45) (.cells #[] 9)
  rw [hW0] at x0 x1
  have HC : Hid ((Below w.heap.size w W0 ∧ w.heap.size + 2 ≤ W0.heap.size) ∧ True ∧ ∀ W, Below W0.heap.size W0 W → LB l w W) := ⟨⟨hb0, s0⟩, trivial, fun W hW => by
    have y0 := (hW.block _ (Array.getElem?_eq_some_iff.1 x0).1).trans x0
    have y1 := (hW.block _ (Array.getElem?_eq_some_iff.1 x1).1).trans x1
    exact ⟨box5 y0, (sbox y1).1, (sbox y1).2.1, (sbox y1).2.2⟩⟩
  obtain ⟨⟨c0, c1, c2, c3, c4⟩, d0, d1, d2⟩ := HC.out.2.2 W0 (Below.refl _ _)
  obtain ⟨fw, hfw⟩ : ∃ fw, fw = [decS l.no, decS l.qty] ++ optT l.note := ⟨_, rfl⟩
  rw [← hfw]
  have HF : Hid (fw = [decS l.no, decS l.qty] ++ optT l.note) := hfw
  clear hfw
  go_enter Tryz.func43, Tryz.ntmps43
  go_upto_region 2 with fail
  try rw [hW0]
  clear hW0 x0 x1 hb0 s0
  go_upto_region 3 with fail
  go_region_held3 (fun W => W.cell? ⟨w.heap.size, 0, none⟩ = some (.int .i64 l.no) ∧ W.cell? ⟨w.heap.size, 1, none⟩ = some (.string l.item) ∧ W.cell? ⟨w.heap.size, 2, none⟩ = some (.int .i64 l.qty) ∧ W.cell? ⟨w.heap.size, 3, none⟩ = some (.int .i64 l.money) ∧ W.cell? ⟨w.heap.size, 4, none⟩ = some (.string l.note)) (go_keep) (first | (go_at_call_of 40 (Value.int IntKind.i64 l.no); refine (decG_any l.no _ hI.1.1 hI.1.2).mono ?_; rintro e wx ⟨rfl, hbx⟩; have bx : Below W0.heap.size W0 wx := (by first | exact hbx | exact undrewP hbx); obtain ⟨⟨x0, x1, x2, x3, x4⟩, _⟩ := HC.out.2.2 wx bx; clear hbx; try dsimp only) | (go_at_call_of 40 (Value.int IntKind.i64 l.qty); refine (decG_any l.qty _ hI.2.1.1 hI.2.1.2).mono ?_; rintro e wu ⟨rfl, hbu⟩; have bu : Below W0.heap.size W0 wu := bx.trans ((by first | exact hbu | exact undrewP hbu : Below wx.heap.size wx wu).mono bx.size); obtain ⟨⟨u0, u1, u2, u3, u4⟩, _⟩ := HC.out.2.2 wu bu; clear hbu; try dsimp only) | fail)
  rename_i hHeld
  clear hHeld
  have bN : Below W0.heap.size W0 (wu.alloc (.cells #[.string (decS l.no), .string (decS l.qty)] 9)) := bu.trans ((Below.refl _ _).alloc bu.size _)
  obtain ⟨⟨e0, e1, e2, e3, e4⟩, _⟩ := HC.out.2.2 _ bN
  by_cases hm : l.note.toList.isEmpty = true
  · have hm' : (l.note.toList == []) = true := by simpa using hm
    have HN : Hid (RowS (wu.alloc (.cells #[.string (decS l.no), .string (decS l.qty)] 9)) (.slice (some ⟨wu.heap.size, 0, none⟩) 2 2) [decS l.no, decS l.qty] ∧ Below W0.heap.size W0 (wu.alloc (.cells #[.string (decS l.no), .string (decS l.qty)] 9))) := ⟨row2s _ _ _ (by omega) (by omega), bN⟩
    have ho : optT l.note = [] := by unfold optT; rw [if_pos hm]
    have HE : Hid (fw = [decS l.no, decS l.qty]) := by show _ = _; rw [HF.out, ho, List.append_nil]
    clear bN hm ho
    go_wp2_with fail
    refine (l03Seg_any ⟨#[76, 73, 78]⟩ _ ([decS l.no, decS l.qty]) _ HN.out.1 (by simp)).mono ?_
    rintro e w9 ⟨u9, vals9, rfl, hO9, hb9⟩
    obtain ⟨A9, N9, C9, hu9⟩ := row_slice hO9.row
    subst hu9
    have b9 : Below W0.heap.size W0 w9 := HN.out.2.trans (hb9.mono HN.out.2.size)
    obtain ⟨_, r0, r1, rz⟩ := HC.out.2.2 w9 b9
    have z9 := HN.out.2.size
    have HO : Hid (OwnV (w.heap.size + 2) w9 (.slice A9 N9 C9) vals9 (([decS l.no, decS l.qty]).map fun t => [t]) ∧ Below w.heap.size w w9) := ⟨hO9.mono (by have := HC.out.1.2; omega), HC.out.1.1.trans (b9.mono HC.out.1.1.size)⟩
    clear hO9 hb9 b9 z9
    go_wp2
    exact bodyPost_ret (v := .agg #[.string ⟨#[76, 73, 78]⟩, .slice A9 N9 C9]) (by simp [results, Tryz.results43, go_sem, r0, r1]) rfl ⟨_, vals9, rfl, by rw [HE.out]; exact ((HO.out.1.set (by omega) _ _).set (by omega) _ _).mono (by omega), (HO.out.2.setCell (show w.heap.size ≤ w.heap.size + 1 by omega) _).setCell (show w.heap.size ≤ w.heap.size + 1 by omega) _⟩
  · have hm' : (l.note.toList == []) = false := by simpa using hm
    have ho : optT l.note = [l.note] := by unfold optT; rw [if_neg hm]
    have HE : Hid (fw = [decS l.no, decS l.qty] ++ [l.note]) := by show _ = _; rw [HF.out, ho]
    have HB : Hid (Below W0.heap.size W0 (wu.alloc (.cells #[.string (decS l.no), .string (decS l.qty)] 9))) := bN
    obtain ⟨w3, hw3⟩ : ∃ w3, (wu.alloc (.cells #[.string (decS l.no), .string (decS l.qty)] 9)) = w3 := ⟨_, rfl⟩
    have hb3 : Below (wu.alloc (.cells #[.string (decS l.no), .string (decS l.qty)] 9)).heap.size (wu.alloc (.cells #[.string (decS l.no), .string (decS l.qty)] 9)) w3 := by rw [hw3]; exact Below.refl _ _
    clear bN hm ho
    have bw : Below W0.heap.size W0 w3 := HB.out.trans (hb3.mono HB.out.size)
    obtain ⟨W5, hW5⟩ : ∃ W5, w3.alloc (.cells #[.string (l.note)] 9) = W5 := ⟨_, rfl⟩
    have b5 : Below w3.heap.size w3 W5 := by rw [← hW5]; exact (Below.refl _ _).alloc (Nat.le_refl _) _
    have y5 : W5.cell? ⟨w3.heap.size, 0, none⟩ = some (.string (l.note)) := by rw [← hW5]; simp [go_sem]
    have hrow : W5.ownsRow W0.heap.size 9 1 (.slice (some ⟨wu.heap.size, 0, none⟩) 2 2) ([decS l.no, decS l.qty] : List ByteArray).length (([decS l.no, decS l.qty] : List ByteArray).map Value.string) := own_below (own_below (ownW wu bu.size [decS l.no, decS l.qty] (by simp)) hb3) b5
    have bw5 : Below W0.heap.size W0 W5 := bw.trans (b5.mono bw.size)
    have hbase : W0.heap.size ≤ W5.heap.size := bw5.size
    have HW5 : Hid (Below W0.heap.size W0 W5) := bw5
    have hl1 : ([decS l.no, decS l.qty] : List ByteArray).length + 1 ≤ 2000000 := by simp
    clear b5 bw5 bw hb3
    try rw [hw3]
    rw [hw3] at e0 e1 e2 e3 e4
    clear hw3
    go_wp2_with (at_builtin; (try rw [hW5]); refine wpList_appTx (base := W0.heap.size) (c := w3.heap.size) (C := 1) (lv := .slice (some ⟨wu.heap.size, 0, none⟩) 2 2) (ss := [decS l.no, decS l.qty]) (t := l.note) rfl _ _ rfl rfl rfl hrow y5 hl1 hbase ?_; rintro v6 w6 hown6 hgrow6 ⟨A6, C6, rfl⟩; have HN : Hid (RowS w6 (.slice A6 3 C6) ([decS l.no, decS l.qty] ++ [l.note]) ∧ Below W0.heap.size W0 w6) := ⟨own_rowT hown6 rfl (by simp) (by intro t ht; simp only [List.cons_append, List.nil_append, List.mem_cons, List.not_mem_nil, or_false] at ht; rcases ht with rfl | rfl | rfl <;> omega), appTx_below HW5.out hrow hgrow6 hbase⟩; clear hown6 hgrow6 hrow; try dsimp only)
    refine (l03Seg_any ⟨#[76, 73, 78]⟩ _ ([decS l.no, decS l.qty] ++ [l.note]) _ HN.out.1 (by simp)).mono ?_
    rintro e w9 ⟨u9, vals9, rfl, hO9, hb9⟩
    obtain ⟨A9, N9, C9, hu9⟩ := row_slice hO9.row
    subst hu9
    have b9 : Below W0.heap.size W0 w9 := HN.out.2.trans (hb9.mono HN.out.2.size)
    obtain ⟨_, r0, r1, rz⟩ := HC.out.2.2 w9 b9
    have z9 := HN.out.2.size
    have HO : Hid (OwnV (w.heap.size + 2) w9 (.slice A9 N9 C9) vals9 (([decS l.no, decS l.qty] ++ [l.note]).map fun t => [t]) ∧ Below w.heap.size w w9) := ⟨hO9.mono (by have := HC.out.1.2; omega), HC.out.1.1.trans (b9.mono HC.out.1.1.size)⟩
    clear hO9 hb9 b9 z9
    go_wp2
    exact bodyPost_ret (v := .agg #[.string ⟨#[76, 73, 78]⟩, .slice A9 N9 C9]) (by simp [results, Tryz.results43, go_sem, r0, r1]) rfl ⟨_, vals9, rfl, by rw [HE.out]; exact ((HO.out.1.set (by omega) _ _).set (by omega) _ _).mono (by omega), (HO.out.2.setCell (show w.heap.size ≤ w.heap.size + 1 by omega) _).setCell (show w.heap.size ≤ w.heap.size + 1 by omega) _⟩
set_option maxRecDepth 20000 in
set_option maxHeartbeats 16000000 in
theorem l05Line_any (k : Int) (l : Ln) (w : World) (hI : LnI l) (hz : l.item.size ≤ 1048576 ∧ l.note.size ≤ 1048576) :
    Calls Tryz.prog 43 #[.int .i64 k, lnV l] w fun e w' => ∃ u vals, e = .returned (.agg #[.string (sTag k), u]) ∧ OwnV w.heap.size w' u vals ((wordsS k l).map fun t => [t]) ∧ Below w.heap.size w w' := by
  by_cases h1 : k = 1
  · subst h1; exact sline_1 l w hI hz
  by_cases h5 : k = 5
  · subst h5; exact sline_5 l w hI hz
  by_cases h6 : k = 6
  · subst h6; exact sline_6 l w hI hz
  by_cases h7 : k = 7
  · subst h7; exact sline_7 l w hI hz
  have hw : wordsS k l = [decS l.no, decS l.qty] ++ optT l.note := by
    unfold wordsS wordsI
    rw [if_neg h1, if_neg h5, if_neg h6, if_neg h7]
    by_cases h3 : k = 3
    · rw [if_pos h3]
    · rw [if_neg h3, if_neg h3]
  have ht : sTag k = ⟨#[76, 73, 78]⟩ := by
    unfold sTag
    rw [if_neg h7, if_neg (by omega)]
    rfl
  rw [hw, ht]
  exact sline_e k (by simpa using h1) (by simpa using h5) (by simpa using h6) (by simpa using h7) l w hI hz
end Go.Proofs.YtbefefmfpenkkaaGreatDoor
namespace Go.Proofs.YtbefefmfpenkkaaGreatDoor
open Go.ChangeShapes Go.WideShapes Go.ChangeAt Go.RowKit
/-- An append of segments, in a region that draws its order. -/
theorem step_appG {ops : Array Oper} {o : Oper} {a : Act} {K : Act → World → Prop} {Q : Exit → Act → World → Prop} {E : Prop} {n₀ : Nat} {W W2 : World} {lv mv : Value} {ps qs : List (Value × List Value)} {gs hs : List Seg} (hgd : o.guard = none) (s x : Operand)
    (ho : o.op = .call { callee := .builtin .append, args := #[s, x], argTypes := #[34, 34] })
    (hs' : a.eval s = lv) (hx : a.eval x = mv) (h : OwnL n₀ W lv ps gs) (hn : n₀ ≤ W.heap.size) (hb2 : Below W.heap.size W W2) (h2 : OwnL W.heap.size W2 mv qs hs) (hl : gs.length + hs.length ≤ 3000000) (hpos : 0 < hs.length)
    (k : ∀ A C w4, OwnL n₀ w4 (.slice A (gs.length + hs.length) C) (ps ++ qs) (gs ++ hs) → Below n₀ W2 w4 → K (a.put o.dst (.slice A (gs.length + hs.length) C)) w4) : if Region.wanted o (yielded ops a.tmps) = true then Oper.wp Tryz.prog o a W2 K Q else E := by
  obtain ⟨i0, hi, hz0, hz1, hz2⟩ := info_parts infoSg
  obtain ⟨ad, c, e, hc⟩ := cells_of_own h2 hpos
  have h' := h.below hb2
  refine step_append_lies W2 hgd s x 34 ho n₀ 45 i0 (.agg #[.string ⟨#[]⟩, .slice none 0 0]) 2 40 Tryz.underlying34 hi hz0 hz1 hz2 rfl (by decide) lv gs.length (cellsL gs ps) hs' h'.row ad hs.length c (cellsL hs qs) (by rw [hx, e]) (cellsL_len h2.len) hc (cellsL_oneCell h2) hpos (by unfold maxLen; omega) (by omega) (Nat.le_trans hn hb2.size) _ rfl ?_
  intro g cap w4 hown hgrow _ _
  exact k _ cap w4 (h.app hn hb2 h2 hown hgrow) ⟨hgrow.os, hgrow.tape, hgrow.output, hgrow.size, fun q hq => hgrow.block q (by have := hb2.size; omega) (row2_ne h'.row hq).symm⟩
theorem docW_lenS (p : Pap) : (docW p).length ≤ 10 := by unfold docW; split <;> simp
set_option maxRecDepth 20000 in
set_option maxHeartbeats 16000000 in
theorem l05Body_any (p : Pap) (un ul : Value) (w : World) (hI : PapI p) (hP : PapR w un ul p) (hB : BdP 1048576 p) :
    Calls Tryz.prog 21 #[.agg #[.int .i64 p.kind, .string p.ref, .string p.other, .int .i64 p.day, un, ul]] w fun e w' => ∃ u ps, e = .returned u ∧ OwnL w.heap.size w' u ps (bodyW wordsS p) ∧ Below w.heap.size w w' := by
  obtain ⟨hz1, hz2, hnB, hlB⟩ := hB
  have hn0 := hnB.1
  have hl0 := hlB.1
  have hid := hI.1
  have z0 := (decS_long p.day hid.1 hid.2).2
  obtain ⟨An, Cn, rfl⟩ := hP.ns.val
  obtain ⟨Al, Cl, rfl⟩ := hP.ls.val
  obtain ⟨W0, hW0⟩ : ∃ W0, w.alloc (.cells #[.int .i64 p.kind, .string p.ref, .string p.other, .int .i64 p.day, .slice An p.notes.length Cn, .slice Al p.lines.length Cl] 30) = W0 := ⟨_, rfl⟩
  have hb0 : Below w.heap.size w W0 := by rw [← hW0]; exact (Below.refl _ _).alloc (Nat.le_refl _) _
  have hbx : W0.heap[w.heap.size]? = some (.cells #[.int .i64 p.kind, .string p.ref, .string p.other, .int .i64 p.day, .slice An p.notes.length Cn, .slice Al p.lines.length Cl] 30) := by rw [← hW0]; exact World.alloc_heap_new _ _
  have HR : Hid (RowS W0 (.slice An p.notes.length Cn) p.notes ∧ RowL W0 (.slice Al p.lines.length Cl) p.lines ∧ Below w.heap.size w W0 ∧ True ∧ BdS 1048576 p.notes ∧ BdL 1048576 p.lines ∧ PapI p) := ⟨hP.ns.below hb0, hP.ls.below hb0, hb0, trivial, hnB, hlB, hI⟩
  have HX : Hid (∀ W, Below W0.heap.size W0 W → W.cell? ⟨w.heap.size, 0, none⟩ = some (.int .i64 p.kind) ∧ W.cell? ⟨w.heap.size, 1, none⟩ = some (.string p.ref) ∧ W.cell? ⟨w.heap.size, 2, none⟩ = some (.string p.other) ∧ W.cell? ⟨w.heap.size, 3, none⟩ = some (.int .i64 p.day) ∧ W.cell? ⟨w.heap.size, 4, none⟩ = some (.slice An p.notes.length Cn) ∧ W.cell? ⟨w.heap.size, 5, none⟩ = some (.slice Al p.lines.length Cl)) := fun W hW => pbox ((hW.block _ (Array.getElem?_eq_some_iff.1 hbx).1).trans hbx)
  obtain ⟨c0, c1, c2, c3, c4, c5⟩ := HX.out W0 (Below.refl _ _)
  go_enter Tryz.func21, Tryz.ntmps21
  go_upto_region 1 with fail
  try rw [hW0]
  clear hW0 hbx hb0 hP hI hnB hlB
  go_region_held3 (fun W => W.cell? ⟨w.heap.size, 0, none⟩ = some (.int .i64 p.kind) ∧ W.cell? ⟨w.heap.size, 1, none⟩ = some (.string p.ref) ∧ W.cell? ⟨w.heap.size, 2, none⟩ = some (.string p.other) ∧ W.cell? ⟨w.heap.size, 3, none⟩ = some (.int .i64 p.day) ∧ W.cell? ⟨w.heap.size, 4, none⟩ = some (.slice An p.notes.length Cn) ∧ W.cell? ⟨w.heap.size, 5, none⟩ = some (.slice Al p.lines.length Cl)) (go_keep) (first | (go_at_call 40; refine (decG_any p.day _ hid.1 hid.2).mono ?_; rintro e wx ⟨rfl, hbx⟩; have bx : Below W0.heap.size W0 wx := (by first | exact hbx | exact undrewP hbx); obtain ⟨x0, x1, x2, x3, x4, x5⟩ := HX.out wx bx; clear hbx; try dsimp only) | fail)
  rename_i hHeld
  clear hHeld
  have bN : Below W0.heap.size W0 (wx.alloc (.cells #[.string p.ref, .string (decS p.day)] 9)) := bx.trans ((Below.refl _ _).alloc bx.size _)
  have rN : RowS (wx.alloc (.cells #[.string p.ref, .string (decS p.day)] 9)) (.slice (some ⟨wx.heap.size, 0, none⟩) 2 2) [p.ref, decS p.day] := row2s _ _ _ (by omega) (by omega)
  obtain ⟨W1, hW1⟩ : ∃ W1, (wx.alloc (.cells #[.string p.ref, .string (decS p.day)] 9)) = W1 := ⟨_, rfl⟩
  obtain ⟨X1, hX1⟩ : ∃ X1, X1 = wx.heap.size := ⟨_, rfl⟩
  rw [hW1] at bN rN
  rw [← hX1] at rN
  try rw [hW1]
  try rw [← hX1]
  have HN1 : Hid (RowS W1 (.slice (some ⟨X1, 0, none⟩) 2 2) [p.ref, decS p.day] ∧ Below W0.heap.size W0 W1) := ⟨rN, bN⟩
  clear hW1 hX1 bN rN bx x0 x1 x2 x3 x4 x5 c0 c1 c2 c3 c4 c5
  obtain ⟨c0, c1, c2, c3, c4, c5⟩ := HX.out W1 HN1.out.2
  obtain ⟨hO, hhO⟩ : ∃ hO, hO = hasO p.kind := ⟨_, rfl⟩
  have Q1 := l05Has_any p.kind W1
  rw [← hhO] at Q1
  go_upto_region 2 with fail
  go_cut [15] from 13 to 14 (fun s15 wy => Hid (s15 = .bool hO) ∧ wy = W1)
  case first =>
    go_wp2_with (first | (go_at_call 41; refine Q1.mono ?_; rintro e W1 ⟨rfl, rfl⟩; try dsimp only))
    go_meet
    exact ⟨rfl, rfl⟩
  case rest =>
    obtain ⟨H15, rfl⟩ := hcut
    rename World => W1
    clear Q1
    go_wp2_with fail
    go_cut [3] from 16 to 23 (fun s3 wy => ∃ A C, s3 = .slice A (docW p).length C ∧ RowS wy (.slice A (docW p).length C) (docW p) ∧ Below W0.heap.size W0 wy)
    case first =>
      have h15 := H15.out
      subst h15
      cases hO with
      | true =>
        have hd : docW p = [p.ref, p.other, decS p.day] := docW_yes hhO.symm
        have HD : Hid (docW p = [p.ref, p.other, decS p.day]) := hd
        clear hd hhO
        go_upto_region 3 with fail
        go_region_held3 (fun W => W.cell? ⟨w.heap.size, 0, none⟩ = some (.int .i64 p.kind) ∧ W.cell? ⟨w.heap.size, 1, none⟩ = some (.string p.ref) ∧ W.cell? ⟨w.heap.size, 2, none⟩ = some (.string p.other) ∧ W.cell? ⟨w.heap.size, 3, none⟩ = some (.int .i64 p.day) ∧ W.cell? ⟨w.heap.size, 4, none⟩ = some (.slice An p.notes.length Cn) ∧ W.cell? ⟨w.heap.size, 5, none⟩ = some (.slice Al p.lines.length Cl)) (go_keep) (first | (go_at_call 40; refine (decG_any p.day _ hid.1 hid.2).mono ?_; rintro e wx ⟨rfl, hbx⟩; have bx : Below W0.heap.size W0 wx := HN1.out.2.trans ((by first | exact hbx | exact undrewP hbx : Below W1.heap.size W1 wx).mono HN1.out.2.size); obtain ⟨x0, x1, x2, x3, x4, x5⟩ := HX.out wx bx; clear hbx; try dsimp only) | fail)
        rename_i hHeld
        clear hHeld
        have HF : Hid (RowS (wx.alloc (.cells #[.string p.ref, .string p.other, .string (decS p.day)] 9)) (.slice (some ⟨wx.heap.size, 0, none⟩) 3 3) [p.ref, p.other, decS p.day] ∧ Below W0.heap.size W0 (wx.alloc (.cells #[.string p.ref, .string p.other, .string (decS p.day)] 9))) := ⟨row3s _ _ _ _ (by omega) (by omega) (by omega), bx.trans ((Below.refl _ _).alloc bx.size _)⟩
        clear bx
        go_wp2_with fail
        go_meet
        rw [HD.out]
        exact ⟨_, _, rfl, HF.out⟩
      | false =>
        have HD : Hid (docW p = [p.ref, decS p.day]) := docW_no hhO.symm
        clear hhO
        go_wp2_with fail
        go_meet
        rw [HD.out]
        exact ⟨_, _, rfl, HN1.out⟩
    case rest =>
      obtain ⟨Ad, Cd, rfl, hRd, hbd⟩ := hcut
      rename World => wy
      have hdl := docW_lenS p
      have HDR : Hid (RowS wy (.slice Ad (docW p).length Cd) (docW p) ∧ Below W0.heap.size W0 wy) := ⟨hRd, hbd⟩
      clear hRd hbd hhO c0 c1 c2 c3 c4 c5
      go_wp2_with fail
      refine (l03Seg_any ⟨#[68, 79, 67]⟩ _ (docW p) _ HDR.out.1 hdl).mono ?_
      rintro e w1 ⟨u1, vals1, rfl, hO1, hb1'⟩
      have hb1 : Below W0.heap.size W0 w1 := HDR.out.2.trans (hb1'.mono HDR.out.2.size)
      obtain ⟨A1, N1, C1, hu1⟩ := row_slice hO1.row
      subst hu1
      have hL0 : OwnL W0.heap.size (w1.alloc (.cells #[.string sDOC, .slice A1 N1 C1] 45)) (.slice (some ⟨w1.heap.size, 0, none⟩) 1 1) [(.slice A1 N1 C1, vals1)] [(hdS sDOC (docW p))] := OwnL.one (hO1.mono HDR.out.2.size) hb1.size
      have HL0 : Hid (OwnL W0.heap.size (w1.alloc (.cells #[.string sDOC, .slice A1 N1 C1] 45)) (.slice (some ⟨w1.heap.size, 0, none⟩) 1 1) [(.slice A1 N1 C1, vals1)] [hdS sDOC (docW p)] ∧ Below W0.heap.size W0 (w1.alloc (.cells #[.string sDOC, .slice A1 N1 C1] 45))) := ⟨hL0, hb1.trans (((Below.refl _ w1).alloc (Nat.le_refl _) _).mono hb1.size)⟩
      clear hb1 hb1' hO1 hL0
      obtain ⟨c0, c1, c2, c3, c4, c5⟩ := HX.out _ HL0.out.2
      go_wp2_with fail
      go_loopw [4, 5] (fun l i wr => ∃ (k : Nat) (ps : List (Value × List Value)), i = .int .i64 (k : Int) ∧ k ≤ p.notes.length ∧ OwnL W0.heap.size wr l ps (hdS sDOC (docW p) :: (p.notes.take k).map noteG) ∧ Below W0.heap.size W0 wr) (fun _ i _ => p.notes.length - (intOf i).toNat)
      case atStart => exact ⟨0, _, rfl, by omega, HL0.out.1, HL0.out.2⟩
      case round =>
        obtain ⟨k, ps, rfl, hkn, hL, hb⟩ := hrel
        obtain ⟨Ab, Cb, hlv⟩ := hL.slice
        have hll : (hdS sDOC (docW p) :: (p.notes.take k).map noteG).length = k + 1 := by rw [List.length_cons, List.length_map, List.length_take]; omega
        rw [hll] at hlv
        subst hlv
        clear c0 c1 c2 c3 c4 c5
        obtain ⟨c0, c1, c2, c3, c4, c5⟩ := HX.out _ hb
        by_cases hlt : k < p.notes.length
        · have hlt' : (k : Int) < (p.notes.length : Int) := by omega
          obtain ⟨b, o, cap', t, e, hs, q0, _⟩ := (HR.out.1.below hb).at hlt
          simp only [Value.slice.injEq, true_and] at e
          obtain ⟨rfl, rfl⟩ := e
          have htz := HR.out.2.2.2.2.1.2 k t hs
          have HS : Hid (OwnL W0.heap.size wr (.slice Ab (k + 1) Cb) ps (hdS sDOC (docW p) :: (p.notes.take k).map noteG) ∧ Below W0.heap.size W0 wr ∧ p.notes[k]? = some t) := ⟨hL, hb, hs⟩
          have zb := hb.size
          clear hL hb hs
          go_wp2_with fail
          refine (l03Seg_any ⟨#[78, 79, 84]⟩ _ [t] _ (row1 wr t (by omega)) (by simp)).mono ?_
          rintro e w3 ⟨u3, vals3, rfl, hO3, hb3⟩
          obtain ⟨A3, N3, C3, hu3⟩ := row_slice hO3.row
          subst hu3
          have z3 := hb3.size
          have hw3 : Below wr.heap.size wr w3 := ((Below.refl _ wr).alloc (Nat.le_refl _) _).trans (hb3.mono (by simp))
          have hL3 : OwnL wr.heap.size (w3.alloc (.cells #[.string sNOT, .slice A3 N3 C3] 45)) (.slice (some ⟨w3.heap.size, 0, none⟩) 1 1) [(.slice A3 N3 C3, vals3)] [noteG t] := OwnL.one (hO3.mono (by simp)) hw3.size
          have H3 : Hid (OwnL wr.heap.size (w3.alloc (.cells #[.string sNOT, .slice A3 N3 C3] 45)) (.slice (some ⟨w3.heap.size, 0, none⟩) 1 1) [(.slice A3 N3 C3, vals3)] [noteG t] ∧ Below wr.heap.size wr (w3.alloc (.cells #[.string sNOT, .slice A3 N3 C3] 45))) := ⟨hL3, hw3.trans (((Below.refl _ w3).alloc (Nat.le_refl _) _).mono hw3.size)⟩
          clear hb3 hO3 hL3 hw3
          go_wp2_with (at_builtin; refine wpList_app rfl _ _ rfl rfl rfl HS.out.1 zb H3.out.2 H3.out.1 (by rw [hll]; simp; omega) (by simp) ?_; intro A4 C4 w4 hO4 hb4; rw [hll] at hO4 ⊢; have H4 : Hid (OwnL W0.heap.size w4 (.slice A4 (k + 1 + [noteG t].length) C4) (ps ++ [(.slice A3 N3 C3, vals3)]) ((hdS sDOC (docW p) :: (p.notes.take k).map noteG) ++ [noteG t]) ∧ Below W0.heap.size W0 w4) := ⟨hO4, (HS.out.2.1.trans (H3.out.2.mono HS.out.2.1.size)).trans hb4⟩; clear hO4 hb4; try dsimp only)
          go_roundw
          case rel =>
            refine ⟨k + 1, ps ++ [(.slice A3 N3 C3, vals3)], by go_num, by omega, ?_, H4.out.2⟩
            have e1 : hdS sDOC (docW p) :: (p.notes.take (k + 1)).map noteG = (hdS sDOC (docW p) :: (p.notes.take k).map noteG) ++ [noteG t] := by
              rw [List.take_add_one, HS.out.2.2, Option.toList_some, List.map_append]
              rfl
            rw [e1]
            exact H4.out.1
          case measure => simp [intOf]; omega
        · obtain rfl : k = p.notes.length := by omega
          rw [List.take_length] at hL hll
          have HN : Hid (OwnL W0.heap.size wr (.slice Ab (p.notes.length + 1) Cb) ps (hdS sDOC (docW p) :: p.notes.map noteG) ∧ Below W0.heap.size W0 wr) := ⟨hL, hb⟩
          clear hL hb
          go_wp2_with fail
          go_loopw [4, 6] (fun l i wr => ∃ (k : Nat) (ps : List (Value × List Value)), i = .int .i64 (k : Int) ∧ k ≤ p.lines.length ∧ OwnL W0.heap.size wr l ps (hdS sDOC (docW p) :: (p.notes.map noteG ++ (p.lines.take k).map (lineG wordsS p.kind))) ∧ Below W0.heap.size W0 wr) (fun _ i _ => p.lines.length - (intOf i).toNat)
          case atStart => exact ⟨0, ps, rfl, by omega, by simpa using HN.out.1, HN.out.2⟩
          case round =>
            clear hll hlt
            rename World => wq
            obtain ⟨k, ps, rfl, hkl, hL, hb⟩ := hrel
            obtain ⟨Ab, Cb, hlv⟩ := hL.slice
            have hll : (hdS sDOC (docW p) :: (p.notes.map noteG ++ (p.lines.take k).map (lineG wordsS p.kind))).length = k + (p.notes.length + 1) := by simp only [List.length_cons, List.length_append, List.length_map, List.length_take]; omega
            rw [hll] at hlv
            subst hlv
            clear c0 c1 c2 c3 c4 c5
            obtain ⟨c0, c1, c2, c3, c4, c5⟩ := HX.out _ hb
            by_cases hlt : k < p.lines.length
            · have hlt' : (k : Int) < (p.lines.length : Int) := by omega
              obtain ⟨b, o, cap', l, e, hs, hat, _, _⟩ := (HR.out.2.1.below hb).at hlt
              simp only [Value.slice.injEq, true_and] at e
              obtain ⟨rfl, rfl⟩ := e
              obtain ⟨q0, q1, q2, q3, q4⟩ := hat
              have htz := HR.out.2.2.2.2.2.1.2 k l hs
              have hIl := HR.out.2.2.2.2.2.2.2 l (List.mem_of_getElem? hs)
              have HS : Hid (OwnL W0.heap.size wq (.slice Ab (k + (p.notes.length + 1)) Cb) ps (hdS sDOC (docW p) :: (p.notes.map noteG ++ (p.lines.take k).map (lineG wordsS p.kind))) ∧ Below W0.heap.size W0 wq ∧ p.lines[k]? = some l ∧ LnI l ∧ (l.item.size ≤ 1048576 ∧ l.note.size ≤ 1048576)) := ⟨hL, hb, hs, hIl, htz⟩
              have zb := hb.size
              have QL := l05Line_any p.kind l
              unfold lnV at QL
              clear hL hb hs hIl htz
              go_upto_region 12 with fail
              go_region_law (first | (go_simp; refine (QL _ HS.out.2.2.2.1 HS.out.2.2.2.2).mono ?_; rintro e w3 ⟨u3, vals3, rfl, hO3, hb3'⟩; obtain ⟨A3, N3, C3, hu3⟩ := row_slice hO3.row; subst hu3; have hb3 : Below wq.heap.size wq w3 := (by first | exact hb3' | exact undrewP hb3'); have H3 : Hid (OwnL wq.heap.size (w3.alloc (.cells #[.string (sTag p.kind), .slice A3 N3 C3] 45)) (.slice (some ⟨w3.heap.size, 0, none⟩) 1 1) [(.slice A3 N3 C3, vals3)] [lineG wordsS p.kind l] ∧ Below wq.heap.size wq (w3.alloc (.cells #[.string (sTag p.kind), .slice A3 N3 C3] 45))) := ⟨OwnL.one hO3 hb3.size, hb3.trans (((Below.refl _ w3).alloc (Nat.le_refl _) _).mono hb3.size)⟩; obtain ⟨m0, m1, m2, m3, m4, m5⟩ := HX.out w3 (HS.out.2.1.trans (hb3.mono HS.out.2.1.size)); obtain ⟨d0, d1, d2, d3, d4, d5⟩ := HX.out _ (HS.out.2.1.trans (H3.out.2.mono HS.out.2.1.size)); clear hb3 hb3' hO3; try dsimp only) | (refine step_appG (by rfl) _ _ (by rfl) (by rfl) (by rfl) HS.out.1 zb H3.out.2 H3.out.1 (by rw [hll]; simp; omega) (by simp) ?_; intro A4 C4 w4 hO4 hb4; rw [hll] at hO4 ⊢; have H4 : Hid (OwnL W0.heap.size w4 (.slice A4 (k + (p.notes.length + 1) + [lineG wordsS p.kind l].length) C4) (ps ++ [(.slice A3 N3 C3, vals3)]) ((hdS sDOC (docW p) :: (p.notes.map noteG ++ (p.lines.take k).map (lineG wordsS p.kind))) ++ [lineG wordsS p.kind l]) ∧ Below W0.heap.size W0 w4) := ⟨hO4, (HS.out.2.1.trans (H3.out.2.mono HS.out.2.1.size)).trans hb4⟩; clear hO4 hb4; try dsimp only) | fail)
              all_goals
                go_wp2
                go_roundw
                case rel =>
                  refine ⟨k + 1, ps ++ [(.slice A3 N3 C3, vals3)], by go_num, by omega, ?_, H4.out.2⟩
                  have e1 : hdS sDOC (docW p) :: (p.notes.map noteG ++ (p.lines.take (k + 1)).map (lineG wordsS p.kind)) = (hdS sDOC (docW p) :: (p.notes.map noteG ++ (p.lines.take k).map (lineG wordsS p.kind))) ++ [lineG wordsS p.kind l] := by
                    rw [List.take_add_one, HS.out.2.2.1, Option.toList_some, List.map_append]
                    simp
                  rw [e1]
                  exact H4.out.1
                case measure => simp [intOf]; omega
            · obtain rfl : k = p.lines.length := by omega
              rw [List.take_length] at hL
              have HF : Hid (OwnL W0.heap.size wq (.slice Ab (p.lines.length + (p.notes.length + 1)) Cb) ps (bodyW wordsS p) ∧ Below W0.heap.size W0 wq) := ⟨hL, hb⟩
              clear hL hb hll
              go_wp2
              go_ret
              exact ⟨_, ps, rfl, HF.out.1.mono HR.out.2.2.1.size, HR.out.2.2.1.trans (HF.out.2.mono HR.out.2.2.1.size)⟩
end Go.Proofs.YtbefefmfpenkkaaGreatDoor
namespace Go.Proofs.YtbefefmfpenkkaaGreatDoor
open Go.ChangeShapes Go.WideShapes Go.ChangeAt Go.RowKit
theorem wordB_sm {c n : Int} (hc : c = 110 ∨ c = 113 ∨ c = 122 ∨ c = 100) (h : wordB c (decS n) = true) : -1000000000000 < n ∧ n < 1000000000000 := by
  unfold wordB at h
  rw [if_neg (by omega), if_neg (by omega)] at h
  split at h
  · have := inB_dec h; omega
  · split at h
    · have := zB_dec h; omega
    · split at h
      · have := inB_dec h; omega
      · have := inB_dec h; omega
theorem words_rdS (k : Int) (l : Ln) : wordsS k (lnS k l) = wordsS k l := by
  unfold wordsS lnS wordsI lnI
  repeat' split
  all_goals first | rfl | omega
theorem lnS_rd (k : Int) (l : Ln) : lnS k (lnS k l) = lnS k l := by
  unfold lnS lnI
  repeat' split
  all_goals first | rfl | omega
theorem opt_sm {ls : List UInt8} {ws : List ByteArray} {n : Int} {j : Nat} (hl : ls[j]? = some 110) (hw : (optN n)[0]? = ws[j]?) (h : ∀ (j : Nat) (c : UInt8) (t : ByteArray), ls[j]? = some c → ws[j]? = some t → wordB (c.toNat : Int) t = true) : -1000000000000 < n ∧ n < 1000000000000 := by
  unfold optN at hw
  split at hw
  · omega
  · exact wordB_sm (c := 110) (by omega) (h j 110 _ hl hw.symm)
/-- The numbers of a line that a form takes are small. -/
theorem sm_of {k : Int} (hk : 1 ≤ k ∧ k ≤ 7) {l : Ln} (h : frV (bs (formK k)) ((wordsS k l).map fun t => [t]) = -1) : SmL (lnS k l) := by
  have z12 : -1000000000000 < (0 : Int) ∧ (0 : Int) < 1000000000000 := by decide
  obtain ⟨ls, m, hf, _, hls⟩ := formF_K k
  obtain ⟨_, _, hW⟩ := form_words hf h
  subst hls
  clear hf h
  obtain rfl | rfl | rfl | rfl | rfl | rfl | rfl : k = 1 ∨ k = 2 ∨ k = 3 ∨ k = 4 ∨ k = 5 ∨ k = 6 ∨ k = 7 := by omega
  · exact ⟨wordB_sm (c := 110) (by omega) (hW 0 110 _ rfl rfl), wordB_sm (c := 113) (by omega) (hW 2 113 _ rfl rfl), opt_sm (j := 3) rfl rfl hW⟩
  · exact ⟨wordB_sm (c := 110) (by omega) (hW 0 110 _ rfl rfl), wordB_sm (c := 113) (by omega) (hW 1 113 _ rfl rfl), z12⟩
  · exact ⟨wordB_sm (c := 110) (by omega) (hW 0 110 _ rfl rfl), wordB_sm (c := 113) (by omega) (hW 1 113 _ rfl rfl), z12⟩
  · exact ⟨wordB_sm (c := 110) (by omega) (hW 0 110 _ rfl rfl), wordB_sm (c := 113) (by omega) (hW 1 113 _ rfl rfl), z12⟩
  · exact ⟨z12, wordB_sm (c := 110) (by omega) (hW 1 110 _ rfl rfl), z12⟩
  · exact ⟨z12, wordB_sm (c := 122) (by omega) (hW 1 122 _ rfl rfl), z12⟩
  · exact ⟨wordB_sm (c := 110) (by omega) (hW 0 110 _ rfl rfl), wordB_sm (c := 110) (by omega) (hW 1 110 _ rfl rfl), opt_sm (j := 2) rfl rfl hW⟩
theorem day_sm {p : Pap} (h : frV (bs (formD p.kind)) ((docW p).map fun t => [t]) = -1) : -1000000000000 < p.day ∧ p.day < 1000000000000 := by
  obtain ⟨ls, m, hf, _, hls⟩ := formF_D p.kind
  obtain ⟨_, _, hW⟩ := form_words hf h
  subst hls
  cases hO : hasO p.kind with
  | true =>
    rw [docW_yes hO, if_pos hO] at hW
    exact wordB_sm (c := 100) (by omega) (hW 2 100 _ rfl rfl)
  | false =>
    rw [docW_no hO, if_neg (by rw [hO]; simp)] at hW
    exact wordB_sm (c := 100) (by omega) (hW 1 100 _ rfl rfl)
theorem body_noteF {f : Int → Ln → List ByteArray} {p : Pap} {k : Nat} (h : k < p.notes.length) : ∃ t, p.notes[k]? = some t ∧ (bodyW f p)[k + 1]? = some (noteG t) := by
  refine ⟨_, List.getElem?_eq_getElem h, ?_⟩
  unfold bodyW
  rw [List.getElem?_cons_succ, List.getElem?_append_left (by rw [List.length_map]; exact h), List.getElem?_map, List.getElem?_eq_getElem h]
  rfl
theorem body_lineF {f : Int → Ln → List ByteArray} {p : Pap} {k : Nat} (h : k < p.lines.length) : ∃ l, p.lines[k]? = some l ∧ (bodyW f p)[p.notes.length + k + 1]? = some (lineG f p.kind l) := by
  refine ⟨_, List.getElem?_eq_getElem h, ?_⟩
  unfold bodyW
  rw [List.getElem?_cons_succ, List.getElem?_append_right (by rw [List.length_map]; omega), List.length_map, show p.notes.length + k - p.notes.length = k by omega, List.getElem?_map, List.getElem?_eq_getElem h]
  rfl
theorem lnS_bd {k : Int} {ls : List Ln} (h : BdL 1048576 ls) {l : Ln} (hl : l ∈ ls) : (lnS k l).item.size ≤ 1048576 ∧ (lnS k l).note.size ≤ 1048576 := by
  obtain ⟨i, hi⟩ := List.getElem?_of_mem hl
  have hz := h.2 i l hi
  have e0 : eT.size = 0 := rfl
  unfold lnS lnI
  repeat' split
  all_goals exact ⟨by simp only [e0]; omega, by simp only [e0]; omega⟩
theorem lnS_int {k : Int} {l : Ln} (h : LnI l) : LnI (lnS k l) := by
  obtain ⟨h0, h1, h2⟩ := h
  have z : i64B 0 := by unfold i64B; omega
  unfold lnS lnI
  repeat' split
  all_goals exact ⟨by first | exact h0 | exact z, h1, by first | exact h2 | exact z⟩
theorem wordsS_bd {k : Int} {l : Ln} (hI : LnI l) (hz : l.item.size ≤ 1048576 ∧ l.note.size ≤ 1048576) : (wordsS k l).length ≤ 4 ∧ ∀ t ∈ wordsS k l, t.size ≤ 1048576 := by
  unfold wordsS
  split
  · have h0 := (decS_long l.no hI.1.1 hI.1.2).2
    have h1 := (decS_long l.qty hI.2.1.1 hI.2.1.2).2
    unfold optT
    split
    all_goals
      refine ⟨by simp, fun t ht => ?_⟩
      simp only [List.mem_append, List.mem_cons, List.not_mem_nil, or_false] at ht
      rcases ht with (rfl | rfl) | rfl <;> omega
  · exact wordsI_bd hI hz
theorem body_bd1S {p : Pap} (hI : PapI p) (hB : BdP 1048576 p) : Bd1 (bodyW wordsS p) := by
  obtain ⟨h1, h2, h3, h4⟩ := hB
  intro g hg
  unfold bodyW at hg
  rcases List.mem_cons.1 hg with rfl | hg
  · exact hd_bd1 (by decide) (by have := docW_len p; omega) (docW_bd hI.1 ⟨h1, h2⟩)
  · rcases List.mem_append.1 hg with hg | hg
    · obtain ⟨t, ht, rfl⟩ := List.mem_map.1 hg
      obtain ⟨i, hi⟩ := List.getElem?_of_mem ht
      exact hd_bd1 (by decide) (by simp) (fun x hx => by rw [List.mem_singleton.1 hx]; exact h3.2 i t hi)
    · obtain ⟨l, hl, rfl⟩ := List.mem_map.1 hg
      obtain ⟨i, hi⟩ := List.getElem?_of_mem hl
      obtain ⟨q1, q2⟩ := wordsS_bd (k := p.kind) (hI.2 l hl) (h4.2 i l hi)
      exact hd_bd1 (sTag_size _) (by omega) q2
theorem bdE_w {ws : List ByteArray} (hl : ws.length ≤ 10) (hz : ∀ t ∈ ws, t.size ≤ 1048576) : BdE 1048576 (ws.map fun t => [t]) := by
  refine ⟨by rw [List.length_map]; omega, fun i e he => ?_⟩
  rw [List.getElem?_map] at he
  obtain ⟨t, ht, rfl⟩ := Option.map_eq_some_iff.1 he
  refine ⟨by simp, fun j x hx => ?_⟩
  have := List.mem_of_getElem? hx
  rw [List.mem_singleton] at this
  rw [this]
  exact hz t (List.mem_of_getElem? ht)
theorem l01Num_ex (t : ByteArray) (w : World) (hz : t.size ≤ 281474976710656) : Calls Tryz.prog 71 #[.string t] w fun e w' => (∃ n b, e = .returned (.tuple #[.int .i64 n, .bool b]) ∧ ∀ m, NumM t m → -1000000000000 < m → m < 1000000000000 → n = m) ∧ Below w.heap.size w w' := by
  by_cases h : t = eT
  · subst h
    refine (l01Num_eT w).mono ?_
    rintro e w' ⟨⟨b, rfl⟩, hb⟩
    refine ⟨⟨0, b, rfl, fun m hm _ _ => ?_⟩, hb⟩
    rcases hm with hm | hm
    · exfalso
      have : numT eT.data.toList = none := by rfl
      rw [this] at hm
      cases hm
    · exact hm.2.symm
  · refine (l01Num_any t w hz).mono ?_
    rintro e w' ⟨n, b, rfl, hL, hb⟩
    refine ⟨⟨n, b, rfl, fun m hm h0 h1 => ?_⟩, hb⟩
    rcases hm with hm | hm
    · rcases hL with ⟨_, q⟩ | ⟨_, q⟩
      · rw [hm] at q
        cases q
        rfl
      · have := q m hm
        omega
    · exact absurd hm.1 h
set_option maxRecDepth 20000 in
set_option maxHeartbeats 16000000 in
theorem l05Num_ex (tag : ByteArray) (v : Value) (es : List (List ByteArray)) (i : Int) (w : World) (h : RowE w v es) (hE : BdE 1048576 es) :
    Calls Tryz.prog 49 #[.agg #[.string tag, v], .int .i64 i] w fun e w' => (∃ n, e = .returned (.int .i64 n) ∧ ∀ m, NumE es i m → n = m) ∧ Below w.heap.size w w' := by
  obtain ⟨A, C, rfl⟩ := h.val
  have bA : Below w.heap.size w (w.alloc (.cells #[.string tag, .slice A es.length C] 45)) := (Below.refl _ _).alloc (Nat.le_refl _) _
  have H : Hid (RowE (w.alloc (.cells #[.string tag, .slice A es.length C] 45)) (.slice A es.length C) es ∧ Below w.heap.size w (w.alloc (.cells #[.string tag, .slice A es.length C] 45)) ∧ BdE 1048576 es) := ⟨h.below bA, bA, hE⟩
  clear h bA hE
  go_enter Tryz.func49, Tryz.ntmps49
  go_wp2_with fail
  refine (part_spec tag _ es i 0 _ H.out.1 H.out.2.2).mono ?_
  rintro e w1 ⟨rfl, hb1⟩
  have H1 : Hid (Below w.heap.size w w1) := H.out.2.1.trans (hb1.mono (by simp))
  clear hb1
  go_wp2_with fail
  refine (l01Num_ex _ _ (by have := partF_bd H.out.2.2 i 0; omega)).mono ?_
  rintro e w2 ⟨⟨n, b, rfl, hn⟩, hb2⟩
  have H2 : Hid (Below w.heap.size w w2 ∧ ∀ m, NumM (partF es i 0) m → -1000000000000 < m → m < 1000000000000 → n = m) := ⟨H1.out.trans (hb2.mono H1.out.size), hn⟩
  clear hb2 hn
  go_wp2
  go_ret
  exact ⟨⟨_, rfl, fun m hm => H2.out.2 m hm.1 hm.2.1 hm.2.2⟩, H2.out.1⟩
/-- The boxes of the model's PaperOf: the answer's, the paper's; its lists in rows of their own. -/
structure PS (w W : World) (P : Nat) (q : Pap) (vn vl : Value) : Prop where
  res : W.heap[w.heap.size]? = some (.cells #[.int .i64 0, .string ⟨#[]⟩, .string ⟨#[]⟩, .int .i64 0, .slice none 0 0, .slice none 0 0, .int .i64 0, .int .i64 0] 47)
  box : W.heap[P]? = some (.cells #[.int .i64 q.kind, .string q.ref, .string q.other, .int .i64 q.day, vn, vl] 30)
  hP : w.heap.size < P
  ns : W.ownsRow (P + 1) 9 1 vn q.notes.length (q.notes.map Value.string)
  ls : W.ownsRow (P + 1) 59 5 vl q.lines.length (clLs q.lines)
  bel : Below w.heap.size w W
theorem PS.below {w W W' : World} {P : Nat} {q : Pap} {vn vl : Value} (h : PS w W P q vn vl) (hb : Below W.heap.size W W') : PS w W' P q vn vl :=
  ⟨(hb.block _ (Array.getElem?_eq_some_iff.1 h.res).1).trans h.res, (hb.block _ (Array.getElem?_eq_some_iff.1 h.box).1).trans h.box, h.hP, own_below h.ns hb, own_below h.ls hb, h.bel.trans (hb.mono h.bel.size)⟩
theorem PS.lt {w W : World} {P : Nat} {q : Pap} {vn vl : Value} (h : PS w W P q vn vl) : P + 1 ≤ W.heap.size := (Array.getElem?_eq_some_iff.1 h.box).1
theorem PS.note {w W w' : World} {P : Nat} {q : Pap} {vn vl v' : Value} {t : ByteArray} (h : PS w W P q vn vl) (ho : w'.ownsRow (P + 1) 9 1 v' (q.notes.length + 1) ((q.notes ++ [t]).map Value.string)) (hg : W.grownBy w' vn.ownBlock) :
    w'.heap[P]? = some (.cells #[.int .i64 q.kind, .string q.ref, .string q.other, .int .i64 q.day, vn, vl] 30) ∧ PS w (w'.setCell ⟨P, 4, none⟩ v') P ⟨q.kind, q.ref, q.other, q.day, q.notes ++ [t], q.lines⟩ v' vl := by
  have hlt := h.lt
  have hP := h.hP
  have hne : ∀ j, j < P + 1 → some j ≠ vn.ownBlock := fun j hj e => by
    have := (h.ns.lt j e.symm).1
    omega
  have hbx : w'.heap[P]? = some (.cells #[.int .i64 q.kind, .string q.ref, .string q.other, .int .i64 q.day, vn, vl] 30) := (hg.block _ (by omega) (hne _ (by omega))).trans h.box
  have hls : w'.ownsRow (P + 1) 59 5 vl q.lines.length (clLs q.lines) := h.ls.kept hg (own_ne2 h.ls h.ns (by decide))
  refine ⟨hbx, (setNe _ (by omega)).trans ((hg.block _ (by omega) (hne _ (by omega))).trans h.res), heap_setCell_same w' _ 4 _ _ v' hbx, hP, by rw [List.length_append]; exact own_set ho hbx (by decide), own_set hls hbx (by decide), ?_⟩
  exact (h.bel.trans ⟨hg.os, hg.tape, hg.output, hg.size, fun j hj => hg.block j (by have := h.bel.size; omega) (hne j (by omega))⟩).setCell (show w.heap.size ≤ P by omega) _
theorem PS.line {w W w' : World} {P : Nat} {q : Pap} {vn vl v' : Value} {l : Ln} (h : PS w W P q vn vl) (ho : w'.ownsRow (P + 1) 59 5 v' (q.lines.length + 1) (clLs q.lines ++ clL l)) (hg : W.grownBy w' vl.ownBlock) :
    w'.heap[P]? = some (.cells #[.int .i64 q.kind, .string q.ref, .string q.other, .int .i64 q.day, vn, vl] 30) ∧ PS w (w'.setCell ⟨P, 5, none⟩ v') P ⟨q.kind, q.ref, q.other, q.day, q.notes, q.lines ++ [l]⟩ vn v' := by
  have hlt := h.lt
  have hP := h.hP
  have hne : ∀ j, j < P + 1 → some j ≠ vl.ownBlock := fun j hj e => by
    have := (h.ls.lt j e.symm).1
    omega
  have hbx : w'.heap[P]? = some (.cells #[.int .i64 q.kind, .string q.ref, .string q.other, .int .i64 q.day, vn, vl] 30) := (hg.block _ (by omega) (hne _ (by omega))).trans h.box
  have hns : w'.ownsRow (P + 1) 9 1 vn q.notes.length (q.notes.map Value.string) := h.ns.kept hg (own_ne2 h.ns h.ls (by decide))
  refine ⟨hbx, (setNe _ (by omega)).trans ((hg.block _ (by omega) (hne _ (by omega))).trans h.res), heap_setCell_same w' _ 5 _ _ v' hbx, hP, own_set hns hbx (by decide), by rw [List.length_append, clLs_app]; exact own_set ho hbx (by decide), ?_⟩
  exact (h.bel.trans ⟨hg.os, hg.tape, hg.output, hg.size, fun j hj => hg.block j (by have := h.bel.size; omega) (hne j (by omega))⟩).setCell (show w.heap.size ≤ P by omega) _
/-- What the model has read of the first j segments. -/
def prS (p : Pap) (j : Nat) : Pap := ⟨p.kind, p.ref, selB (hasO p.kind) p.other eT, p.day, p.notes.take (j - 1), (p.lines.map (lnS p.kind)).take (j - 1 - p.notes.length)⟩
theorem prS_all (p : Pap) : prS p (1 + (p.notes.length + p.lines.length)) = rdP lnS p := by
  unfold prS rdP
  rw [List.take_of_length_le (by omega), List.take_of_length_le (by rw [List.length_map]; omega)]
  rfl
theorem prS_note {p : Pap} {k : Nat} {t : ByteArray} (h : p.notes[k]? = some t) : prS p (k + 1 + 1) = ⟨(prS p (k + 1)).kind, (prS p (k + 1)).ref, (prS p (k + 1)).other, (prS p (k + 1)).day, (prS p (k + 1)).notes ++ [t], (prS p (k + 1)).lines⟩ := by
  have hk := (List.getElem?_eq_some_iff.1 h).1
  unfold prS
  simp only [Nat.add_sub_cancel]
  rw [List.take_add_one, h, show k + 1 - p.notes.length = 0 by omega, show k - p.notes.length = 0 by omega]
  rfl
theorem prS_line {p : Pap} {k : Nat} {l : Ln} (h : p.lines[k]? = some l) : prS p (p.notes.length + k + 1 + 1) = ⟨(prS p (p.notes.length + k + 1)).kind, (prS p (p.notes.length + k + 1)).ref, (prS p (p.notes.length + k + 1)).other, (prS p (p.notes.length + k + 1)).day, (prS p (p.notes.length + k + 1)).notes, (prS p (p.notes.length + k + 1)).lines ++ [lnS p.kind l]⟩ := by
  unfold prS
  simp only [Nat.add_sub_cancel]
  have e1 : p.notes.take (p.notes.length + k + 1) = p.notes := List.take_of_length_le (by omega)
  have e2 : p.notes.take (p.notes.length + k) = p.notes := List.take_of_length_le (by omega)
  rw [e1, e2, show p.notes.length + k + 1 - p.notes.length = k + 1 by omega, show p.notes.length + k - p.notes.length = k by omega, List.take_add_one, List.getElem?_map, h]
  rfl
theorem prS_lines {p : Pap} (k : Nat) : (prS p (p.notes.length + k + 1)).lines = (p.lines.map (lnS p.kind)).take k := by
  unfold prS
  simp only [Nat.add_sub_cancel]
  rw [show p.notes.length + k - p.notes.length = k by omega]
end Go.Proofs.YtbefefmfpenkkaaGreatDoor
