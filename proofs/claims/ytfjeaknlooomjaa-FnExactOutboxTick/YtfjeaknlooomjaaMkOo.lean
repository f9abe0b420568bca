/- The marks of what an outbox's calls tell. -/
import Derived.Test.YtfjeaknlooomjaaOoP
import Derived.Test.YtfjeaknlooomjaaMkOu
import Derived.Test.YtfjeaknlooomjaaMkSe
namespace Go.Proofs.Ytfjeaknlooomjaa
open Go.ChangeShapes Go.WideShapes Go.ChangeAt Go.RowKit
theorem markOu_p (b : Nat) (v : Value) (rs : List OutR) (k : Nat) (w : World) (h : LOu b w v rs) (hk : 0 < k ∧ k + rs.length * 5 < 1000000000000) :
    Calls Try.prog 18 #[v, .int .i64 (k : Int)] w fun e w' => e = .returned (.int .i64 ((k + rs.length * 5 : Nat) : Int)) ∧ LOu b w' v (mkOus k rs.length) ∧ KeepP (fun q => q = b ∧ rs ≠ []) w w' := by
  by_cases hn : rs = []
  · subst hn
    obtain ⟨a, c, e, _⟩ := h.shape
    have h' : LOu w.heap.size w v [] := ⟨⟨a, c, e, fun hn => absurd rfl hn⟩, h.len, h.sizes⟩
    refine (markOu_any w.heap.size v [] k w h' hk).mono ?_
    rintro e' w' ⟨he, hL, hK⟩
    refine ⟨he, ⟨⟨a, c, e, fun hn => absurd rfl hn⟩, hL.len, hL.sizes⟩, ⟨hK.os, hK.tape, hK.output, hK.size, fun q hq _ => hK.block q hq (by omega)⟩⟩
  · refine (markOu_any b v rs k w h hk).mono ?_
    rintro e' w' ⟨he, hL, hK⟩
    exact ⟨he, hL, ⟨hK.os, hK.tape, hK.output, hK.size, fun q hq hs => hK.block q hq (fun e => hs ⟨e, hn⟩)⟩⟩
theorem mkOus_ne {k n : Nat} (h : mkOus k n ≠ []) : 0 < n := by
  rcases Nat.eq_zero_or_pos n with rfl | h0
  · exact absurd rfl h
  · exact h0
theorem markSe_p (b : Nat) (v : Value) (rs : List SenR) (k : Nat) (w : World) (h : LSe b w v rs) (hk : 0 < k ∧ k + rs.length * 3 < 1000000000000) :
    Calls Try.prog 43 #[v, .int .i64 (k : Int)] w fun e w' => e = .returned (.int .i64 ((k + rs.length * 3 : Nat) : Int)) ∧ LSe b w' v (mkSes k rs.length) ∧ KeepP (fun q => q = b ∧ rs ≠ []) w w' := by
  by_cases hn : rs = []
  · subst hn
    obtain ⟨a, c, e, _⟩ := h.shape
    have h' : LSe w.heap.size w v [] := ⟨⟨a, c, e, fun hn => absurd rfl hn⟩, h.len, h.sizes⟩
    refine (markSe_any w.heap.size v [] k w h' hk).mono ?_
    rintro e' w' ⟨he, hL, hK⟩
    refine ⟨he, ⟨⟨a, c, e, fun hn => absurd rfl hn⟩, hL.len, hL.sizes⟩, ⟨hK.os, hK.tape, hK.output, hK.size, fun q hq _ => hK.block q hq (by omega)⟩⟩
  · refine (markSe_any b v rs k w h hk).mono ?_
    rintro e' w' ⟨he, hL, hK⟩
    exact ⟨he, hL, ⟨hK.os, hK.tape, hK.output, hK.size, fun q hq hs => hK.block q hq (fun e => hs ⟨e, hn⟩)⟩⟩
theorem mkSes_ne {k n : Nat} (h : mkSes k n ≠ []) : 0 < n := by
  rcases Nat.eq_zero_or_pos n with rfl | h0
  · exact absurd rfl h
  · exact h0
def mkOo (k : Nat) (p : OOu) : OOu := ⟨mkOus k p.list.length, mkSes (k + p.list.length * 5) p.sent.length, mkOus (k + p.list.length * 5 + p.sent.length * 3) p.lost.length, p.code⟩
theorem ne_of_pos {α : Type} {l : List α} (h : 0 < l.length) : l ≠ [] := fun e => by rw [e] at h; simp at h
set_option maxHeartbeats 4000000 in
theorem markOo_any (b1 b2 b3 : Nat) (u s l : Value) (p : OOu) (k : Nat) (w : World) (h : LOo b1 b2 b3 w u s l p) (hk : 0 < k ∧ k + p.list.length * 5 + p.sent.length * 3 + p.lost.length * 5 < 100000000000) :
    Calls Try.prog 19 #[.agg #[u, s, l, .int .i64 p.code], .int .i64 (k : Int)] w fun e w' => e = .returned (.int .i64 ((k + p.list.length * 5 + p.sent.length * 3 + p.lost.length * 5 : Nat) : Int)) ∧ LOo b1 b2 b3 w' u s l (mkOo k p) ∧ KeepP (blkO b1 b2 b3 p) w w' := by
  obtain ⟨a, c, a2, c2, a3, c3, rfl, rfl, rfl⟩ := h.row.val
  obtain ⟨W0, hW0⟩ : ∃ W0, w.alloc (.cells #[.slice a p.list.length c, .slice a2 p.sent.length c2, .slice a3 p.lost.length c3, .int .i64 p.code] 34) = W0 := ⟨_, rfl⟩
  have hb0 : Below w.heap.size w W0 := by rw [← hW0]; exact (Below.refl _ _).alloc (Nat.le_refl _) _
  have hx0 : W0.heap[w.heap.size]? = some (.cells #[.slice a p.list.length c, .slice a2 p.sent.length c2, .slice a3 p.lost.length c3, .int .i64 p.code] 34) := by rw [← hW0]; exact World.alloc_heap_new _ _
  obtain ⟨B, hB⟩ : ∃ B, B = w.heap.size := ⟨_, rfl⟩
  rw [← hB] at hx0
  have HL : Hid (LOo b1 b2 b3 W0 (.slice a p.list.length c) (.slice a2 p.sent.length c2) (.slice a3 p.lost.length c3) p ∧ KeepP (blkO b1 b2 b3 p) w W0) := ⟨h.below hb0, .of_below hb0⟩
  have HN : Hid (¬ blkO b1 b2 b3 p B) := fun hx => by have := h.blk_lt hx; omega
  have HX : Hid (W0.heap[B]? = some (.cells #[.slice a p.list.length c, .slice a2 p.sent.length c2, .slice a3 p.lost.length c3, .int .i64 p.code] 34)) := hx0
  have HS : Hid (p.sent ≠ [] → (p.list ≠ [] → b1 ≠ b2) ∧ (p.lost ≠ [] → b2 ≠ b3)) := fun hs => h.ne_se hs
  have HE : Hid (p.list ≠ [] → p.lost ≠ [] → b1 ≠ b3) := h.ne
  clear h hb0
  go_enter Try.func19, Try.ntmps19
  go_upto_region 1 with fail
  try rw [hW0]
  try rw [← hB]
  clear hW0 hB
  obtain ⟨x0, x1, x2, x3⟩ := bx4 hx0
  clear hx0
  go_wp2_with fail
  refine (markOu_p b1 _ p.list k _ HL.out.1.li ⟨by omega, by omega⟩).mono ?_
  rintro e w1 ⟨rfl, l1, k1⟩
  have hx1 : w1.heap[B]? = some (.cells #[.slice a p.list.length c, .slice a2 p.sent.length c2, .slice a3 p.lost.length c3, .int .i64 p.code] 34) := (k1.block B (Array.getElem?_eq_some_iff.1 HX.out).1 (fun ⟨e, hn⟩ => HN.out (.inl ⟨e, hn⟩))).trans HX.out
  have H1 : Hid (LOu b1 w1 (.slice a p.list.length c) (mkOus k p.list.length) ∧ LSe b2 w1 (.slice a2 p.sent.length c2) p.sent ∧ LOu b3 w1 (.slice a3 p.lost.length c3) p.lost ∧ KeepP (blkO b1 b2 b3 p) w w1 ∧ w1.heap[B]? = some (.cells #[.slice a p.list.length c, .slice a2 p.sent.length c2, .slice a3 p.lost.length c3, .int .i64 p.code] 34)) :=
    ⟨l1, HL.out.1.se.of_block fun hn => k1.block b2 (HL.out.1.se.lt hn) (fun ⟨e, hl⟩ => ((HS.out hn).1 hl) e.symm), HL.out.1.lo.of_block fun hn => k1.block b3 (HL.out.1.lo.lt hn) (fun ⟨e, hl⟩ => (HE.out hl hn) e.symm), HL.out.2.trans (k1.mono fun q hq => .inl hq), hx1⟩
  clear l1 k1 x0 x1 x2 x3
  obtain ⟨x0, x1, x2, x3⟩ := bx4 hx1
  clear hx1
  go_wp2_with fail
  refine (markSe_p b2 _ p.sent (k + p.list.length * 5) _ H1.out.2.1 ⟨by omega, by omega⟩).mono ?_
  rintro e w2 ⟨rfl, l2, k2⟩
  have hx2 : w2.heap[B]? = some (.cells #[.slice a p.list.length c, .slice a2 p.sent.length c2, .slice a3 p.lost.length c3, .int .i64 p.code] 34) := (k2.block B (Array.getElem?_eq_some_iff.1 H1.out.2.2.2.2).1 (fun ⟨e, hn⟩ => HN.out (.inr (.inl ⟨e, hn⟩)))).trans H1.out.2.2.2.2
  have H2 : Hid (LOu b1 w2 (.slice a p.list.length c) (mkOus k p.list.length) ∧ LSe b2 w2 (.slice a2 p.sent.length c2) (mkSes (k + p.list.length * 5) p.sent.length) ∧ LOu b3 w2 (.slice a3 p.lost.length c3) p.lost ∧ KeepP (blkO b1 b2 b3 p) w w2 ∧ w2.heap[B]? = some (.cells #[.slice a p.list.length c, .slice a2 p.sent.length c2, .slice a3 p.lost.length c3, .int .i64 p.code] 34)) :=
    ⟨H1.out.1.of_block fun hn => k2.block b1 (H1.out.1.lt hn) (fun ⟨e, hl⟩ => ((HS.out hl).1 (ne_of_pos (mkOus_ne hn))) e), l2, H1.out.2.2.1.of_block fun hn => k2.block b3 (H1.out.2.2.1.lt hn) (fun ⟨e, hl⟩ => ((HS.out hl).2 hn) e.symm), H1.out.2.2.2.1.trans (k2.mono fun q hq => .inr (.inl hq)), hx2⟩
  clear l2 k2 x0 x1 x2 x3
  obtain ⟨x0, x1, x2, x3⟩ := bx4 hx2
  clear hx2
  go_wp2_with fail
  refine (markOu_p b3 _ p.lost (k + p.list.length * 5 + p.sent.length * 3) _ H2.out.2.2.1 ⟨by omega, by omega⟩).mono ?_
  rintro e w3 ⟨rfl, l3, k3⟩
  have H3 : Hid (LOo b1 b2 b3 w3 (.slice a p.list.length c) (.slice a2 p.sent.length c2) (.slice a3 p.lost.length c3) (mkOo k p) ∧ KeepP (blkO b1 b2 b3 p) w w3) :=
    ⟨⟨H2.out.1.of_block fun hn => k3.block b1 (H2.out.1.lt hn) (fun ⟨e, hl⟩ => (HE.out (ne_of_pos (mkOus_ne hn)) hl) e), H2.out.2.1.of_block fun hn => k3.block b2 (H2.out.2.1.lt hn) (fun ⟨e, hl⟩ => ((HS.out (ne_of_pos (mkSes_ne hn))).2 hl) e), l3, fun h1 h3 => HE.out (ne_of_pos (mkOus_ne h1)) (ne_of_pos (mkOus_ne h3))⟩, H2.out.2.2.2.1.trans (k3.mono fun q hq => .inr (.inr hq))⟩
  clear l3 k3
  go_wp2
  go_ret
  exact ⟨rfl, H3.out.1, H3.out.2⟩
set_option maxHeartbeats 4000000 in
theorem heldOo_any (u s l : Value) (p : OOu) (k : Nat) (w : World) (h : ROo w u s l (mkOo k p)) (hk : 0 < k ∧ k + p.list.length * 5 + p.sent.length * 3 + p.lost.length * 5 < 100000000000) :
    Calls Try.prog 20 #[.agg #[u, s, l, .int .i64 p.code], .int .i64 (k : Int)] w fun e w' => e = .returned (.int .i64 ((k + p.list.length * 5 + p.sent.length * 3 + p.lost.length * 5 : Nat) : Int)) ∧ Below w.heap.size w w' := by
  obtain ⟨a, c, a2, c2, a3, c3, rfl, rfl, rfl⟩ := h.val
  have e1 : (mkOo k p).list.length = p.list.length := mkOus_len _ _
  have e2 : (mkOo k p).sent.length = p.sent.length := mkSes_len _ _
  have e3 : (mkOo k p).lost.length = p.lost.length := mkOus_len _ _
  rw [e1, e2, e3] at h ⊢
  obtain ⟨W0, hW0⟩ : ∃ W0, w.alloc (.cells #[.slice a p.list.length c, .slice a2 p.sent.length c2, .slice a3 p.lost.length c3, .int .i64 p.code] 34) = W0 := ⟨_, rfl⟩
  have hb0 : Below w.heap.size w W0 := by rw [← hW0]; exact (Below.refl _ _).alloc (Nat.le_refl _) _
  have hx0 : W0.heap[w.heap.size]? = some (.cells #[.slice a p.list.length c, .slice a2 p.sent.length c2, .slice a3 p.lost.length c3, .int .i64 p.code] 34) := by rw [← hW0]; exact World.alloc_heap_new _ _
  have HL : Hid (ROo W0 (.slice a p.list.length c) (.slice a2 p.sent.length c2) (.slice a3 p.lost.length c3) (mkOo k p) ∧ Below w.heap.size w W0 ∧ W0.heap[w.heap.size]? = some (.cells #[.slice a p.list.length c, .slice a2 p.sent.length c2, .slice a3 p.lost.length c3, .int .i64 p.code] 34)) := ⟨h.below hb0, hb0, hx0⟩
  clear h hb0 e1 e2 e3
  go_enter Try.func20, Try.ntmps20
  go_upto_region 1 with fail
  try rw [hW0]
  clear hW0
  obtain ⟨x0, x1, x2, x3⟩ := bx4 hx0
  clear hx0
  go_wp2_with fail
  refine (heldOu_any _ k p.list.length _ HL.out.1.li ⟨by omega, by omega⟩).mono ?_
  rintro e w1 ⟨rfl, hb1⟩
  have H1 : Hid (Below W0.heap.size W0 w1) := hb1
  obtain ⟨y0, y1, y2, y3⟩ := bx4 ((hb1.block _ (Array.getElem?_eq_some_iff.1 HL.out.2.2).1).trans HL.out.2.2)
  clear hb1 x0 x1 x2 x3
  have g1 : ¬ ((k + p.list.length * 5 : Nat) : Int) < 0 := by omega
  go_wp2_with fail
  refine (heldSe_any _ (k + p.list.length * 5) p.sent.length _ (HL.out.1.se.below H1.out) ⟨by omega, by omega⟩).mono ?_
  rintro e w2 ⟨rfl, hb2⟩
  have H2 : Hid (Below W0.heap.size W0 w2) := H1.out.trans (hb2.mono H1.out.size)
  clear hb2 y0 y1 y2 y3
  obtain ⟨y0, y1, y2, y3⟩ := bx4 ((H2.out.block _ (Array.getElem?_eq_some_iff.1 HL.out.2.2).1).trans HL.out.2.2)
  have g2 : ¬ ((k + p.list.length * 5 + p.sent.length * 3 : Nat) : Int) < 0 := by omega
  go_wp2_with fail
  refine (heldOu_any _ (k + p.list.length * 5 + p.sent.length * 3) p.lost.length _ (HL.out.1.lo.below H2.out) ⟨by omega, by omega⟩).mono ?_
  rintro e w3 ⟨rfl, hb3⟩
  have H3 : Hid (Below w.heap.size w w3) := HL.out.2.1.trans ((H2.out.trans (hb3.mono H2.out.size)).mono HL.out.2.1.size)
  clear hb3 y0 y1 y2 y3
  have g3 : ¬ ((k + p.list.length * 5 + p.sent.length * 3 + p.lost.length * 5 : Nat) : Int) < 0 := by omega
  go_wp2
  go_ret
  exact ⟨rfl, H3.out⟩
end Go.Proofs.Ytfjeaknlooomjaa
