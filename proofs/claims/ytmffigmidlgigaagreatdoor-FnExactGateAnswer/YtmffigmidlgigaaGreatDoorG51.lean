/- Texts of ours put together: EqLi, PaM. -/
import Derived.Test.YtmffigmidlgigaaGreatDoorG34
import Derived.Deep.RegionHeld3
import Derived.Deep.QuietTactic
import Derived.BigQuiet
import Derived.BigRegion
import Derived.Test.YtmffigmidlgigaaGreatDoorG39
import Derived.Test.YtmffigmidlgigaaGreatDoorG20
namespace Go.Proofs.YtmffigmidlgigaaGreatDoor
open Go.ChangeShapes Go.WideShapes Go.ChangeAt Go.RowKit
set_option maxHeartbeats 1000000 in
theorem eqLi_any (g : LinR) (w : World) :
    Calls Tryz.prog 71 #[.agg #[.int .i64 g.no, .string g.item, .int .i64 g.qty, .int .i64 g.money, .string g.note], .agg #[.int .i64 g.no, .string g.item, .int .i64 g.qty, .int .i64 g.money, .string g.note]] w fun e w' => e = .returned (.bool true) ∧ Below w.heap.size w w' := by
  obtain ⟨no, item, qty, money, note⟩ := g
  dsimp only
  have b0 : Below w.heap.size w ((w.alloc (.cells #[.int .i64 no, .string item, .int .i64 qty, .int .i64 money, .string note] 64)).alloc (.cells #[.int .i64 no, .string item, .int .i64 qty, .int .i64 money, .string note] 64)) := ((Below.refl _ _).alloc (Nat.le_refl _) _).alloc (by simp) _
  go_enter Tryz.func71, Tryz.ntmps71
  go_wp2
  go_ret
  exact ⟨rfl, b0⟩
set_option maxHeartbeats 2000000 in
theorem eqLis_any (v v' : Value) (rs : List LinR) (w : World) (h : RowLi w v rs) (h' : RowLi w v' rs) :
    Calls Tryz.prog 33 #[v, v'] w fun e w' => e = .returned (.bool true) ∧ Below w.heap.size w w' := by
  have hlen := h.len
  obtain ⟨a, cap, rfl⟩ := h.val
  obtain ⟨a', cap', rfl⟩ := h'.val
  have H : Hid (RowLi w (.slice a rs.length cap) rs ∧ RowLi w (.slice a' rs.length cap') rs) := ⟨h, h'⟩
  clear h h'
  go_enter Tryz.func33, Tryz.ntmps33
  go_wp2
  go_loopw [5] (fun i wr => ∃ k : Nat, i = .int .i64 (k : Int) ∧ k ≤ rs.length ∧ Below w.heap.size w wr) (fun i _ => rs.length - (intOf i).toNat)
  case atStart => exact ⟨0, rfl, by omega, Below.refl _ _⟩
  case round =>
    obtain ⟨k, rfl, hk, hb⟩ := hrel
    by_cases hlt : k < rs.length
    · have hlt' : (k : Int) < (rs.length : Int) := by omega
      obtain ⟨b, o, c1, g, e, hs, ⟨q0, q1, q2, q3, q4⟩, _⟩ := (H.out.1.below hb).at hlt
      obtain ⟨b', o', c2, g', e', hs', ⟨p0, p1, p2, p3, p4⟩, _⟩ := (H.out.2.below hb).at hlt
      simp only [Value.slice.injEq, true_and] at e e'
      obtain ⟨rfl, rfl⟩ := e
      obtain ⟨rfl, rfl⟩ := e'
      obtain rfl : g = g' := by rw [hs] at hs'; exact Option.some.inj hs'
      have HB : Hid (Below w.heap.size w wr) := hb
      clear hs hs' hb
      have l1 := cell_lt q0
      have l2 := cell_lt p0
      go_wp2_with fail
      go_region_held3 (fun W => W.cell? ⟨b, o + k * 5, none⟩ = some (.int .i64 g.no) ∧ W.cell? ⟨b, o + k * 5 + 1, none⟩ = some (.string g.item) ∧ W.cell? ⟨b, o + k * 5 + 2, none⟩ = some (.int .i64 g.qty) ∧ W.cell? ⟨b, o + k * 5 + 3, none⟩ = some (.int .i64 g.money) ∧ W.cell? ⟨b, o + k * 5 + 4, none⟩ = some (.string g.note) ∧ W.cell? ⟨b', o' + k * 5, none⟩ = some (.int .i64 g.no) ∧ W.cell? ⟨b', o' + k * 5 + 1, none⟩ = some (.string g.item) ∧ W.cell? ⟨b', o' + k * 5 + 2, none⟩ = some (.int .i64 g.qty) ∧ W.cell? ⟨b', o' + k * 5 + 3, none⟩ = some (.int .i64 g.money) ∧ W.cell? ⟨b', o' + k * 5 + 4, none⟩ = some (.string g.note)) (go_keep) (first | (go_at_call 71; refine (eqLi_any g _).mono ?_; rintro e w2 ⟨rfl, hb2⟩; have yb0 := (hb2.cell (p := ⟨b, o + k * 5, none⟩) l1).trans q0; have yb1 := (hb2.cell (p := ⟨b, o + k * 5 + 1, none⟩) l1).trans q1; have yb2 := (hb2.cell (p := ⟨b, o + k * 5 + 2, none⟩) l1).trans q2; have yb3 := (hb2.cell (p := ⟨b, o + k * 5 + 3, none⟩) l1).trans q3; have yb4 := (hb2.cell (p := ⟨b, o + k * 5 + 4, none⟩) l1).trans q4; have yp0 := (hb2.cell (p := ⟨b', o' + k * 5, none⟩) l2).trans p0; have yp1 := (hb2.cell (p := ⟨b', o' + k * 5 + 1, none⟩) l2).trans p1; have yp2 := (hb2.cell (p := ⟨b', o' + k * 5 + 2, none⟩) l2).trans p2; have yp3 := (hb2.cell (p := ⟨b', o' + k * 5 + 3, none⟩) l2).trans p3; have yp4 := (hb2.cell (p := ⟨b', o' + k * 5 + 4, none⟩) l2).trans p4))
      have HB2 : Hid (Below w.heap.size w w2) := HB.out.drew.trans (hb2.mono HB.out.size)
      clear hb2
      rename_i hHeld
      clear hHeld
      go_wp2
      go_roundw
      case rel => exact ⟨k + 1, by go_num, by omega, HB2.out⟩
      case measure => simp [intOf]; omega
    · obtain rfl : k = rs.length := by omega
      have HB : Hid (Below w.heap.size w wr) := hb
      clear hb
      go_wp2
      go_ret
      exact ⟨rfl, HB.out⟩
end Go.Proofs.YtmffigmidlgigaaGreatDoor
namespace Go.Proofs.YtmffigmidlgigaaGreatDoor
open Go.ChangeShapes Go.WideShapes Go.ChangeAt Go.RowKit
set_option maxHeartbeats 1000000 in
theorem eqStrNil  (w : World) : Calls Tryz.prog 32 #[.slice none 0 0, .slice none 0 0] w fun e w' => e = .returned (.bool true) ∧ w' = w := by
  go_enter Tryz.func32, Tryz.ntmps32
  go_wp2
  go_loopw [5] (fun i wr => i = .int .i64 0 ∧ wr = w) (fun _ _ => 0)
  case atStart => exact ⟨rfl, rfl⟩
  case round =>
    obtain ⟨rfl, rfl⟩ := hrel
    go_wp2
    go_ret
    exact ⟨rfl, rfl⟩
set_option maxHeartbeats 1000000 in
theorem markStrNil (k : Nat) (w : World) : Calls Tryz.prog 44 #[.slice none 0 0, .int .i64 (k : Int)] w fun e w' => e = .returned (.int .i64 (k : Int)) ∧ w' = w := by
  go_enter Tryz.func44, Tryz.ntmps44
  go_wp2
  go_loopw [1, 5] (fun q i wr => q = .int .i64 (k : Int) ∧ i = .int .i64 0 ∧ wr = w) (fun _ _ _ => 0)
  case atStart => exact ⟨rfl, rfl, rfl⟩
  case round =>
    obtain ⟨rfl, rfl, rfl⟩ := hrel
    go_wp2
    go_ret
    exact ⟨rfl, rfl⟩
set_option maxHeartbeats 1000000 in
theorem heldStrNil (k : Nat) (w : World) : Calls Tryz.prog 46 #[.slice none 0 0, .int .i64 (k : Int)] w fun e w' => e = .returned (.int .i64 (k : Int)) ∧ w' = w := by
  go_enter Tryz.func46, Tryz.ntmps46
  go_wp2
  go_loopw [1, 5] (fun q i wr => q = .int .i64 (k : Int) ∧ i = .int .i64 0 ∧ wr = w) (fun _ _ _ => 0)
  case atStart => exact ⟨rfl, rfl, rfl⟩
  case round =>
    obtain ⟨rfl, rfl, rfl⟩ := hrel
    go_wp2
    go_ret
    exact ⟨rfl, rfl⟩
set_option maxHeartbeats 2000000 in
theorem eqPa_any (p : PAn) (v v' : Value) (w : World) (h : RowLi w v p.lines) (h' : RowLi w v' p.lines) :
    Calls Tryz.prog 8 #[.agg #[.int .i64 p.kind, .string p.ref, .string ⟨#[]⟩, .int .i64 p.day, .slice none 0 0, v], .agg #[.int .i64 p.kind, .string p.ref, .string ⟨#[]⟩, .int .i64 p.day, .slice none 0 0, v']] w fun e w' => e = .returned (.bool true) ∧ Below w.heap.size w w' := by
  obtain ⟨a, c, rfl⟩ := h.val
  obtain ⟨a', c', rfl⟩ := h'.val
  obtain ⟨W0, hW0⟩ : ∃ W0, (w.alloc (.cells #[.int .i64 p.kind, .string p.ref, .string ⟨#[]⟩, .int .i64 p.day, .slice none 0 0, .slice a p.lines.length c] 36)).alloc (.cells #[.int .i64 p.kind, .string p.ref, .string ⟨#[]⟩, .int .i64 p.day, .slice none 0 0, .slice a' p.lines.length c'] 36) = W0 := ⟨_, rfl⟩
  obtain ⟨k0, k1⟩ := fl_twoG w (.cells #[.int .i64 p.kind, .string p.ref, .string ⟨#[]⟩, .int .i64 p.day, .slice none 0 0, .slice a p.lines.length c] 36) (.cells #[.int .i64 p.kind, .string p.ref, .string ⟨#[]⟩, .int .i64 p.day, .slice none 0 0, .slice a' p.lines.length c'] 36)
  rw [hW0] at k0 k1
  have hb0 : Below w.heap.size w W0 := by rw [← hW0]; exact ((Below.refl _ _).alloc (Nat.le_refl _) _).alloc (by simp) _
  have H0 : Hid (Below w.heap.size w W0 ∧ RowLi W0 (.slice a p.lines.length c) p.lines ∧ RowLi W0 (.slice a' p.lines.length c') p.lines) := ⟨hb0, h.below hb0, h'.below hb0⟩
  clear h h' hb0
  go_enter Tryz.func8, Tryz.ntmps8
  go_upto_region 1 with fail
  try rw [hW0]
  clear hW0
  obtain ⟨x0, x1, x2, x3, x4, x5⟩ := bx6A k0
  obtain ⟨y0, y1, y2, y3, y4, y5⟩ := bx6A k1
  clear k0 k1
  go_wp2_with fail
  refine (eqStrNil _).mono ?_
  rintro e W0 ⟨rfl, rfl⟩
  go_wp2_with fail
  refine (eqLis_any _ _ p.lines _ H0.out.2.1 H0.out.2.2).mono ?_
  rintro e w2 ⟨rfl, hb⟩
  have H2 : Hid (Below w.heap.size w w2) := H0.out.1.trans (hb.mono H0.out.1.size)
  clear hb
  go_wp2
  go_ret
  exact ⟨rfl, H2.out⟩
theorem markLi_p (b : Nat) (v : Value) (rs : List LinR) (k : Nat) (w : World) (h : LLi b w v rs) (hk : 0 < k ∧ k + rs.length * 5 < 1000000000000) :
    Calls Tryz.prog 45 #[v, .int .i64 (k : Int)] w fun e w' => e = .returned (.int .i64 ((k + rs.length * 5 : Nat) : Int)) ∧ LLi b w' v (mkLis k rs.length) ∧ KeepP (fun q => q = b ∧ rs ≠ []) w w' := by
  by_cases hn : rs = []
  · subst hn
    obtain ⟨a, c, e, _⟩ := h.shape
    have h' : LLi w.heap.size w v [] := ⟨⟨a, c, e, fun hn => absurd rfl hn⟩, h.len, h.sizes⟩
    refine (markLi_any w.heap.size v [] k w h' hk).mono ?_
    rintro e' w' ⟨he, hL, hK⟩
    refine ⟨he, ⟨⟨a, c, e, fun hn => absurd rfl hn⟩, hL.len, hL.sizes⟩, ⟨hK.os, hK.tape, hK.output, hK.size, fun q hq _ => hK.block q hq (by omega)⟩⟩
  · refine (markLi_any b v rs k w h hk).mono ?_
    rintro e' w' ⟨he, hL, hK⟩
    exact ⟨he, hL, ⟨hK.os, hK.tape, hK.output, hK.size, fun q hq hs => hK.block q hq (fun e => hs ⟨e, hn⟩)⟩⟩
set_option maxHeartbeats 2000000 in
theorem markPa_any (d : Nat) (v : Value) (p : PAn) (k : Nat) (w : World) (h : LLi d w v p.lines) (hk : 0 < k ∧ k + p.lines.length * 5 < 1000000000000) :
    Calls Tryz.prog 11 #[.agg #[.int .i64 p.kind, .string p.ref, .string ⟨#[]⟩, .int .i64 p.day, .slice none 0 0, v], .int .i64 (k : Int)] w fun e w' => e = .returned (.int .i64 ((k + p.lines.length * 5 : Nat) : Int)) ∧ LLi d w' v (mkPa k p).lines ∧ KeepP (blkA d p) w w' := by
  obtain ⟨a, c, rfl⟩ := h.row.val
  obtain ⟨W0, hW0⟩ : ∃ W0, w.alloc (.cells #[.int .i64 p.kind, .string p.ref, .string ⟨#[]⟩, .int .i64 p.day, .slice none 0 0, .slice a p.lines.length c] 36) = W0 := ⟨_, rfl⟩
  have hb0 : Below w.heap.size w W0 := by rw [← hW0]; exact (Below.refl _ _).alloc (Nat.le_refl _) _
  have k0 : W0.heap[w.heap.size]? = some (.cells #[.int .i64 p.kind, .string p.ref, .string ⟨#[]⟩, .int .i64 p.day, .slice none 0 0, .slice a p.lines.length c] 36) := by rw [← hW0]; exact World.alloc_heap_new _ _
  have H0 : Hid (Below w.heap.size w W0 ∧ LLi d W0 (.slice a p.lines.length c) p.lines) := ⟨hb0, h.below hb0⟩
  clear h hb0
  go_enter Tryz.func11, Tryz.ntmps11
  go_upto_region 1 with fail
  try rw [hW0]
  clear hW0
  obtain ⟨x0, x1, x2, x3, x4, x5⟩ := bx6A k0
  clear k0
  go_wp2_with fail
  refine (markStrNil k _).mono ?_
  rintro e W0 ⟨rfl, rfl⟩
  go_wp2_with fail
  refine (markLi_p d _ p.lines k _ H0.out.2 hk).mono ?_
  rintro e w2 ⟨rfl, hL, hK⟩
  have H2 : Hid (LLi d w2 (.slice a p.lines.length c) (mkPa k p).lines ∧ KeepP (blkA d p) w w2) := ⟨hL, (KeepP.of_below H0.out.1).trans hK⟩
  clear hL hK
  go_wp2
  go_ret
  exact ⟨rfl, H2.out⟩
set_option maxHeartbeats 2000000 in
theorem heldPa_any (v : Value) (p : PAn) (k : Nat) (w : World) (h : RowLi w v (mkPa k p).lines) (hk : 0 < k ∧ k + p.lines.length * 5 < 1000000000000) :
    Calls Tryz.prog 12 #[.agg #[.int .i64 p.kind, .string p.ref, .string ⟨#[]⟩, .int .i64 p.day, .slice none 0 0, v], .int .i64 (k : Int)] w fun e w' => e = .returned (.int .i64 ((k + p.lines.length * 5 : Nat) : Int)) ∧ Below w.heap.size w w' := by
  obtain ⟨a, c, rfl⟩ : ∃ a c, v = .slice a p.lines.length c := by
    obtain ⟨a, c, e⟩ := h.val
    rw [show (mkPa k p).lines.length = p.lines.length from mkLis_len _ _] at e
    exact ⟨a, c, e⟩
  obtain ⟨W0, hW0⟩ : ∃ W0, w.alloc (.cells #[.int .i64 p.kind, .string p.ref, .string ⟨#[]⟩, .int .i64 p.day, .slice none 0 0, .slice a p.lines.length c] 36) = W0 := ⟨_, rfl⟩
  have hb0 : Below w.heap.size w W0 := by rw [← hW0]; exact (Below.refl _ _).alloc (Nat.le_refl _) _
  have k0 : W0.heap[w.heap.size]? = some (.cells #[.int .i64 p.kind, .string p.ref, .string ⟨#[]⟩, .int .i64 p.day, .slice none 0 0, .slice a p.lines.length c] 36) := by rw [← hW0]; exact World.alloc_heap_new _ _
  have H0 : Hid (Below w.heap.size w W0 ∧ RowLi W0 (.slice a p.lines.length c) (mkLis k p.lines.length)) := ⟨hb0, h.below hb0⟩
  have g0 : ¬ (k : Int) < 0 := by omega
  have g1 : ¬ ((k + p.lines.length * 5 : Nat) : Int) < 0 := by omega
  clear h hb0
  go_enter Tryz.func12, Tryz.ntmps12
  go_upto_region 1 with fail
  try rw [hW0]
  clear hW0
  obtain ⟨x0, x1, x2, x3, x4, x5⟩ := bx6A k0
  clear k0
  go_wp2_with fail
  refine (heldStrNil k _).mono ?_
  rintro e W0 ⟨rfl, rfl⟩
  go_wp2_with fail
  refine (heldLi_any _ k p.lines.length _ H0.out.2 hk).mono ?_
  rintro e w2 ⟨rfl, hb⟩
  have H2 : Hid (Below w.heap.size w w2) := H0.out.1.trans (hb.mono H0.out.1.size)
  clear hb
  go_wp2
  go_ret
  exact ⟨rfl, H2.out⟩
end Go.Proofs.YtmffigmidlgigaaGreatDoor
