/- Texts of ours put together: EqSe, EqOo. -/
import Derived.Test.YtagajindaipaeaaGreatG14
import Derived.Deep.RegionHeld3
import Derived.Deep.QuietTactic
import Derived.BigQuiet
import Derived.BigRegion
import Derived.Test.YtagajindaipaeaaGreatG10
namespace Go.Proofs.YtagajindaipaeaaGreat
open Go.ChangeShapes Go.WideShapes Go.ChangeAt Go.RowKit
set_option maxHeartbeats 1000000 in
theorem eqSe_any (g : SenR) (w : World) :
    Calls Tryz.prog 106 #[.agg #[.string g.partner, .int .i64 g.number, .string g.text], .agg #[.string g.partner, .int .i64 g.number, .string g.text]] w fun e w' => e = .returned (.bool true) ∧ Below w.heap.size w w' := by
  obtain ⟨partner, number, text⟩ := g
  dsimp only
  have b0 : Below w.heap.size w ((w.alloc (.cells #[.string partner, .int .i64 number, .string text] 151)).alloc (.cells #[.string partner, .int .i64 number, .string text] 151)) := ((Below.refl _ _).alloc (Nat.le_refl _) _).alloc (by simp) _
  go_enter Tryz.func106, Tryz.ntmps106
  go_wp2
  go_ret
  exact ⟨rfl, b0⟩
set_option maxHeartbeats 2000000 in
theorem eqSes_any (v v' : Value) (rs : List SenR) (w : World) (h : RowSe w v rs) (h' : RowSe w v' rs) :
    Calls Tryz.prog 56 #[v, v'] w fun e w' => e = .returned (.bool true) ∧ Below w.heap.size w w' := by
  have hlen := h.len
  obtain ⟨a, cap, rfl⟩ := h.val
  obtain ⟨a', cap', rfl⟩ := h'.val
  have H : Hid (RowSe w (.slice a rs.length cap) rs ∧ RowSe w (.slice a' rs.length cap') rs) := ⟨h, h'⟩
  clear h h'
  go_enter Tryz.func56, Tryz.ntmps56
  go_wp2
  go_loopw [5] (fun i wr => ∃ k : Nat, i = .int .i64 (k : Int) ∧ k ≤ rs.length ∧ Below w.heap.size w wr) (fun i _ => rs.length - (intOf i).toNat)
  case atStart => exact ⟨0, rfl, by omega, Below.refl _ _⟩
  case round =>
    obtain ⟨k, rfl, hk, hb⟩ := hrel
    by_cases hlt : k < rs.length
    · have hlt' : (k : Int) < (rs.length : Int) := by omega
      obtain ⟨b, o, c1, g, e, hs, ⟨q0, q1, q2⟩, _⟩ := (H.out.1.below hb).at hlt
      obtain ⟨b', o', c2, g', e', hs', ⟨p0, p1, p2⟩, _⟩ := (H.out.2.below hb).at hlt
      simp only [Value.slice.injEq, true_and] at e e'
      obtain ⟨rfl, rfl⟩ := e
      obtain ⟨rfl, rfl⟩ := e'
      obtain rfl : g = g' := by rw [hs] at hs'; exact Option.some.inj hs'
      have HB : Hid (Below w.heap.size w wr) := hb
      clear hs hs' hb
      have l1 := cell_lt q0
      have l2 := cell_lt p0
      go_wp2_with fail
      go_region_held3 (fun W => W.cell? ⟨b, o + k * 3, none⟩ = some (.string g.partner) ∧ W.cell? ⟨b, o + k * 3 + 1, none⟩ = some (.int .i64 g.number) ∧ W.cell? ⟨b, o + k * 3 + 2, none⟩ = some (.string g.text) ∧ W.cell? ⟨b', o' + k * 3, none⟩ = some (.string g.partner) ∧ W.cell? ⟨b', o' + k * 3 + 1, none⟩ = some (.int .i64 g.number) ∧ W.cell? ⟨b', o' + k * 3 + 2, none⟩ = some (.string g.text)) (go_keep) (first | (go_at_call 106; refine (eqSe_any g _).mono ?_; rintro e w2 ⟨rfl, hb2⟩; have yb0 := (hb2.cell (p := ⟨b, o + k * 3, none⟩) l1).trans q0; have yb1 := (hb2.cell (p := ⟨b, o + k * 3 + 1, none⟩) l1).trans q1; have yb2 := (hb2.cell (p := ⟨b, o + k * 3 + 2, none⟩) l1).trans q2; have yp0 := (hb2.cell (p := ⟨b', o' + k * 3, none⟩) l2).trans p0; have yp1 := (hb2.cell (p := ⟨b', o' + k * 3 + 1, none⟩) l2).trans p1; have yp2 := (hb2.cell (p := ⟨b', o' + k * 3 + 2, none⟩) l2).trans p2))
      have HB2 : Hid (Below w.heap.size w w2) := HB.out.drew.trans (hb2.mono HB.out.size)
      clear hb2
      rename_i hHeld
      clear hHeld
      go_wp2
      go_roundw
      case rel => exact ⟨k + 1, by go_num, by omega, HB2.out⟩
      case measure => simp [intOf]; omega
    · obtain rfl : k = rs.length := by omega
      have HB : Hid (Below w.heap.size w wr) := hb
      clear hb
      go_wp2
      go_ret
      exact ⟨rfl, HB.out⟩
end Go.Proofs.YtagajindaipaeaaGreat
namespace Go.Proofs.YtagajindaipaeaaGreat
open Go.ChangeShapes Go.WideShapes Go.ChangeAt Go.RowKit
set_option maxHeartbeats 4000000 in
theorem eqOo_any (p : OOu) (u s l u' s' l' : Value) (w : World) (h : ROo w u s l p) (h' : ROo w u' s' l' p) :
    Calls Tryz.prog 17 #[.agg #[u, s, l, .int .i64 p.code], .agg #[u', s', l', .int .i64 p.code]] w fun e w' => e = .returned (.bool true) ∧ Below w.heap.size w w' := by
  obtain ⟨a, c, a2, c2, a3, c3, rfl, rfl, rfl⟩ := h.val
  obtain ⟨a', c', a2', c2', a3', c3', rfl, rfl, rfl⟩ := h'.val
  obtain ⟨W0, hW0⟩ : ∃ W0, (w.alloc (.cells #[.slice a p.list.length c, .slice a2 p.sent.length c2, .slice a3 p.lost.length c3, .int .i64 p.code] 54)).alloc (.cells #[.slice a' p.list.length c', .slice a2' p.sent.length c2', .slice a3' p.lost.length c3', .int .i64 p.code] 54) = W0 := ⟨_, rfl⟩
  have hb0 : Below w.heap.size w W0 := by rw [← hW0]; exact ((Below.refl _ _).alloc (Nat.le_refl _) _).alloc (by simp) _
  have hx0 : W0.heap[w.heap.size]? = some (.cells #[.slice a p.list.length c, .slice a2 p.sent.length c2, .slice a3 p.lost.length c3, .int .i64 p.code] 54) := by
    rw [← hW0, ((Below.refl (w.alloc (.cells #[.slice a p.list.length c, .slice a2 p.sent.length c2, .slice a3 p.lost.length c3, .int .i64 p.code] 54)).heap.size (w.alloc (.cells #[.slice a p.list.length c, .slice a2 p.sent.length c2, .slice a3 p.lost.length c3, .int .i64 p.code] 54))).alloc (Nat.le_refl _) _).block _ (by simp)]
    exact World.alloc_heap_new _ _
  have hx1 : W0.heap[w.heap.size + 1]? = some (.cells #[.slice a' p.list.length c', .slice a2' p.sent.length c2', .slice a3' p.lost.length c3', .int .i64 p.code] 54) := by
    have := World.alloc_heap_new (w.alloc (.cells #[.slice a p.list.length c, .slice a2 p.sent.length c2, .slice a3 p.lost.length c3, .int .i64 p.code] 54)) (.cells #[.slice a' p.list.length c', .slice a2' p.sent.length c2', .slice a3' p.lost.length c3', .int .i64 p.code] 54)
    rw [hW0] at this
    simpa using this
  have HB : Hid (Below w.heap.size w W0) := hb0
  have HK : Hid (∀ W, Below W0.heap.size W0 W → W.heap[w.heap.size]? = some (.cells #[.slice a p.list.length c, .slice a2 p.sent.length c2, .slice a3 p.lost.length c3, .int .i64 p.code] 54) ∧ W.heap[w.heap.size + 1]? = some (.cells #[.slice a' p.list.length c', .slice a2' p.sent.length c2', .slice a3' p.lost.length c3', .int .i64 p.code] 54)) := fun W hW => ⟨(hW.block _ (Array.getElem?_eq_some_iff.1 hx0).1).trans hx0, (hW.block _ (Array.getElem?_eq_some_iff.1 hx1).1).trans hx1⟩
  have H : Hid (ROo W0 _ _ _ p ∧ ROo W0 _ _ _ p) := ⟨h.below hb0, h'.below hb0⟩
  clear h h' hb0 hx0 hx1
  go_enter Tryz.func17, Tryz.ntmps17
  go_upto_region 1 with fail
  try rw [hW0]
  clear hW0
  obtain ⟨x0, x1, x2, x3⟩ := bx4 (HK.out _ (Below.refl _ _)).1
  obtain ⟨y0, y1, y2, y3⟩ := bx4 (HK.out _ (Below.refl _ _)).2
  go_wp2_with fail
  refine (eqOus_any _ _ p.list _ H.out.1.li H.out.2.li).mono ?_
  rintro e w1 ⟨rfl, hb1⟩
  have H1 : Hid (Below W0.heap.size W0 w1) := hb1
  clear hb1 x0 x1 x2 x3 y0 y1 y2 y3
  obtain ⟨x0, x1, x2, x3⟩ := bx4 (HK.out _ H1.out).1
  obtain ⟨y0, y1, y2, y3⟩ := bx4 (HK.out _ H1.out).2
  go_wp2_with fail
  refine (eqSes_any _ _ p.sent _ (H.out.1.se.below H1.out) (H.out.2.se.below H1.out)).mono ?_
  rintro e w2 ⟨rfl, hb2⟩
  have H2 : Hid (Below W0.heap.size W0 w2) := H1.out.trans (hb2.mono H1.out.size)
  clear hb2 x0 x1 x2 x3 y0 y1 y2 y3
  obtain ⟨x0, x1, x2, x3⟩ := bx4 (HK.out _ H2.out).1
  obtain ⟨y0, y1, y2, y3⟩ := bx4 (HK.out _ H2.out).2
  go_wp2_with fail
  refine (eqOus_any _ _ p.lost _ (H.out.1.lo.below H2.out) (H.out.2.lo.below H2.out)).mono ?_
  rintro e w3 ⟨rfl, hb3⟩
  have H3 : Hid (Below W0.heap.size W0 w3) := H2.out.trans (hb3.mono H2.out.size)
  clear hb3 x0 x1 x2 x3 y0 y1 y2 y3
  obtain ⟨x0, x1, x2, x3⟩ := bx4 (HK.out _ H3.out).1
  obtain ⟨y0, y1, y2, y3⟩ := bx4 (HK.out _ H3.out).2
  go_wp2
  go_ret
  exact ⟨rfl, HB.out.trans (H3.out.mono HB.out.size)⟩
end Go.Proofs.YtagajindaipaeaaGreat
