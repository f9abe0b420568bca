/- The comparison of what an outbox's calls tell: two that read as the same are told to be equal. -/
import Derived.Test.YtfjeaknlooomjaaOoP
import Derived.Test.YtfjeaknlooomjaaEqOu
import Derived.Test.YtfjeaknlooomjaaEqSe
namespace Go.Proofs.Ytfjeaknlooomjaa
open Go.ChangeShapes Go.WideShapes Go.ChangeAt Go.RowKit
set_option maxHeartbeats 4000000 in
theorem eqOo_any (p : OOu) (u s l u' s' l' : Value) (w : World) (h : ROo w u s l p) (h' : ROo w u' s' l' p) :
    Calls Try.prog 17 #[.agg #[u, s, l, .int .i64 p.code], .agg #[u', s', l', .int .i64 p.code]] w fun e w' => e = .returned (.bool true) ∧ Below w.heap.size w w' := by
  obtain ⟨a, c, a2, c2, a3, c3, rfl, rfl, rfl⟩ := h.val
  obtain ⟨a', c', a2', c2', a3', c3', rfl, rfl, rfl⟩ := h'.val
  obtain ⟨W0, hW0⟩ : ∃ W0, (w.alloc (.cells #[.slice a p.list.length c, .slice a2 p.sent.length c2, .slice a3 p.lost.length c3, .int .i64 p.code] 34)).alloc (.cells #[.slice a' p.list.length c', .slice a2' p.sent.length c2', .slice a3' p.lost.length c3', .int .i64 p.code] 34) = W0 := ⟨_, rfl⟩
  have hb0 : Below w.heap.size w W0 := by rw [← hW0]; exact ((Below.refl _ _).alloc (Nat.le_refl _) _).alloc (by simp) _
  have hx0 : W0.heap[w.heap.size]? = some (.cells #[.slice a p.list.length c, .slice a2 p.sent.length c2, .slice a3 p.lost.length c3, .int .i64 p.code] 34) := by
    rw [← hW0, ((Below.refl (w.alloc (.cells #[.slice a p.list.length c, .slice a2 p.sent.length c2, .slice a3 p.lost.length c3, .int .i64 p.code] 34)).heap.size (w.alloc (.cells #[.slice a p.list.length c, .slice a2 p.sent.length c2, .slice a3 p.lost.length c3, .int .i64 p.code] 34))).alloc (Nat.le_refl _) _).block _ (by simp)]
    exact World.alloc_heap_new _ _
  have hx1 : W0.heap[w.heap.size + 1]? = some (.cells #[.slice a' p.list.length c', .slice a2' p.sent.length c2', .slice a3' p.lost.length c3', .int .i64 p.code] 34) := by
    have := World.alloc_heap_new (w.alloc (.cells #[.slice a p.list.length c, .slice a2 p.sent.length c2, .slice a3 p.lost.length c3, .int .i64 p.code] 34)) (.cells #[.slice a' p.list.length c', .slice a2' p.sent.length c2', .slice a3' p.lost.length c3', .int .i64 p.code] 34)
    rw [hW0] at this
    simpa using this
  have HB : Hid (Below w.heap.size w W0) := hb0
  have HK : Hid (∀ W, Below W0.heap.size W0 W → W.heap[w.heap.size]? = some (.cells #[.slice a p.list.length c, .slice a2 p.sent.length c2, .slice a3 p.lost.length c3, .int .i64 p.code] 34) ∧ W.heap[w.heap.size + 1]? = some (.cells #[.slice a' p.list.length c', .slice a2' p.sent.length c2', .slice a3' p.lost.length c3', .int .i64 p.code] 34)) := fun W hW => ⟨(hW.block _ (Array.getElem?_eq_some_iff.1 hx0).1).trans hx0, (hW.block _ (Array.getElem?_eq_some_iff.1 hx1).1).trans hx1⟩
  have H : Hid (ROo W0 _ _ _ p ∧ ROo W0 _ _ _ p) := ⟨h.below hb0, h'.below hb0⟩
  clear h h' hb0 hx0 hx1
  go_enter Try.func17, Try.ntmps17
  go_upto_region 1 with fail
  try rw [hW0]
  clear hW0
  obtain ⟨x0, x1, x2, x3⟩ := bx4 (HK.out _ (Below.refl _ _)).1
  obtain ⟨y0, y1, y2, y3⟩ := bx4 (HK.out _ (Below.refl _ _)).2
  go_wp2_with fail
  refine (eqOus_any _ _ p.list _ H.out.1.li H.out.2.li).mono ?_
  rintro e w1 ⟨rfl, hb1⟩
  have H1 : Hid (Below W0.heap.size W0 w1) := hb1
  clear hb1 x0 x1 x2 x3 y0 y1 y2 y3
  obtain ⟨x0, x1, x2, x3⟩ := bx4 (HK.out _ H1.out).1
  obtain ⟨y0, y1, y2, y3⟩ := bx4 (HK.out _ H1.out).2
  go_wp2_with fail
  refine (eqSes_any _ _ p.sent _ (H.out.1.se.below H1.out) (H.out.2.se.below H1.out)).mono ?_
  rintro e w2 ⟨rfl, hb2⟩
  have H2 : Hid (Below W0.heap.size W0 w2) := H1.out.trans (hb2.mono H1.out.size)
  clear hb2 x0 x1 x2 x3 y0 y1 y2 y3
  obtain ⟨x0, x1, x2, x3⟩ := bx4 (HK.out _ H2.out).1
  obtain ⟨y0, y1, y2, y3⟩ := bx4 (HK.out _ H2.out).2
  go_wp2_with fail
  refine (eqOus_any _ _ p.lost _ (H.out.1.lo.below H2.out) (H.out.2.lo.below H2.out)).mono ?_
  rintro e w3 ⟨rfl, hb3⟩
  have H3 : Hid (Below W0.heap.size W0 w3) := H2.out.trans (hb3.mono H2.out.size)
  clear hb3 x0 x1 x2 x3 y0 y1 y2 y3
  obtain ⟨x0, x1, x2, x3⟩ := bx4 (HK.out _ H3.out).1
  obtain ⟨y0, y1, y2, y3⟩ := bx4 (HK.out _ H3.out).2
  go_wp2
  go_ret
  exact ⟨rfl, HB.out.trans (H3.out.mono HB.out.size)⟩
end Go.Proofs.Ytfjeaknlooomjaa
