/- Texts of ours put together: OoP, OoS. -/
import Derived.Test.YtiakkpglnijapaaG11
import Derived.Test.YtiakkpglnijapaaG01
namespace Go.Proofs.Ytiakkpglnijapaa
open Go.ChangeShapes Go.WideShapes Go.ChangeAt Go.RowKit
/-- What an outbox's calls tell. -/
structure OOu where
  list : List OutR
  sent : List SenR
  lost : List OutR
  code : Int
def errO (z : Int) : OOu := ⟨[], [], [], z⟩
structure ROo (W : World) (u s l : Value) (p : OOu) : Prop where
  li : RowOu W u p.list
  se : RowSe W s p.sent
  lo : RowOu W l p.lost
theorem ROo.below {W W' : World} {u s l : Value} {p : OOu} (h : ROo W u s l p) (hb : Below W.heap.size W W') : ROo W' u s l p := ⟨h.li.below hb, h.se.below hb, h.lo.below hb⟩
theorem ROo.val {W : World} {u s l : Value} {p : OOu} (h : ROo W u s l p) : ∃ a c a2 c2 a3 c3, u = .slice a p.list.length c ∧ s = .slice a2 p.sent.length c2 ∧ l = .slice a3 p.lost.length c3 := by
  obtain ⟨a, c, e⟩ := h.li.val
  obtain ⟨a2, c2, e2⟩ := h.se.val
  obtain ⟨a3, c3, e3⟩ := h.lo.val
  exact ⟨a, c, a2, c2, a3, c3, e, e2, e3⟩
theorem ROo.err (W : World) (z : Int) : ROo W (.slice none 0 0) (.slice none 0 0) (.slice none 0 0) (errO z) := ⟨RowOu.nil W, RowSe.nil W, RowOu.nil W⟩
/-- The lists lie in blocks of their own. -/
structure LOo (b1 b2 b3 : Nat) (W : World) (u s l : Value) (p : OOu) : Prop where
  li : LOu b1 W u p.list
  se : LSe b2 W s p.sent
  lo : LOu b3 W l p.lost
  ne : p.list ≠ [] → p.lost ≠ [] → b1 ≠ b3
theorem LOo.row {b1 b2 b3 : Nat} {W : World} {u s l : Value} {p : OOu} (h : LOo b1 b2 b3 W u s l p) : ROo W u s l p := ⟨h.li.row, h.se.row, h.lo.row⟩
theorem LOo.below {b1 b2 b3 : Nat} {W W' : World} {u s l : Value} {p : OOu} (h : LOo b1 b2 b3 W u s l p) (hb : Below W.heap.size W W') : LOo b1 b2 b3 W' u s l p := ⟨h.li.below hb, h.se.below hb, h.lo.below hb, h.ne⟩
theorem LOo.err (b1 b2 b3 : Nat) (W : World) (z : Int) : LOo b1 b2 b3 W (.slice none 0 0) (.slice none 0 0) (.slice none 0 0) (errO z) := ⟨LOu.nil _ W, LSe.nil _ W, LOu.nil _ W, fun h => absurd rfl h⟩
/-- Its blocks. -/
def blkO (b1 b2 b3 : Nat) (p : OOu) (k : Nat) : Prop := (k = b1 ∧ p.list ≠ []) ∨ (k = b2 ∧ p.sent ≠ []) ∨ (k = b3 ∧ p.lost ≠ [])
theorem LOo.keepP {b1 b2 b3 : Nat} {S : Nat → Prop} {W W' : World} {u s l : Value} {p : OOu} (h : LOo b1 b2 b3 W u s l p) (hk : KeepP S W W') (hs : ∀ k, blkO b1 b2 b3 p k → ¬ S k) : LOo b1 b2 b3 W' u s l p :=
  ⟨h.li.of_block fun hn => hk.block b1 (h.li.lt hn) (hs b1 (.inl ⟨rfl, hn⟩)), h.se.of_block fun hn => hk.block b2 (h.se.lt hn) (hs b2 (.inr (.inl ⟨rfl, hn⟩))), h.lo.of_block fun hn => hk.block b3 (h.lo.lt hn) (hs b3 (.inr (.inr ⟨rfl, hn⟩))), h.ne⟩
theorem LOo.blk_lt {b1 b2 b3 : Nat} {W : World} {u s l : Value} {p : OOu} (h : LOo b1 b2 b3 W u s l p) {k : Nat} (hk : blkO b1 b2 b3 p k) : k < W.heap.size := by
  rcases hk with ⟨rfl, hn⟩ | ⟨rfl, hn⟩ | ⟨rfl, hn⟩
  · exact h.li.lt hn
  · exact h.se.lt hn
  · exact h.lo.lt hn
theorem LOo.ne_se {b1 b2 b3 : Nat} {W : World} {u s l : Value} {p : OOu} (h : LOo b1 b2 b3 W u s l p) (hs : p.sent ≠ []) : (p.list ≠ [] → b1 ≠ b2) ∧ (p.lost ≠ [] → b2 ≠ b3) := by
  obtain ⟨_, _, _, c2⟩ := h.se.shape
  obtain ⟨_, _, _, r2, _⟩ := c2 hs
  obtain ⟨x2, y2, _⟩ := r2
  refine ⟨fun hn e => ?_, fun hn e => ?_⟩
  · subst e
    obtain ⟨_, _, _, c1⟩ := h.li.shape
    obtain ⟨_, _, _, r1, _⟩ := c1 hn
    obtain ⟨x1, y1, _⟩ := r1
    have y3 := y1.symm.trans y2
    simp at y3
  · subst e
    obtain ⟨_, _, _, c1⟩ := h.lo.shape
    obtain ⟨_, _, _, r1, _⟩ := c1 hn
    obtain ⟨x1, y1, _⟩ := r1
    have y3 := y1.symm.trans y2
    simp at y3
theorem bx4 {W : World} {b t : Nat} {x0 x1 x2 x3 : Value} (h : W.heap[b]? = some (.cells #[x0, x1, x2, x3] t)) : W.cell? ⟨b, 0, none⟩ = some x0 ∧ W.cell? ⟨b, 1, none⟩ = some x1 ∧ W.cell? ⟨b, 2, none⟩ = some x2 ∧ W.cell? ⟨b, 3, none⟩ = some x3 := by
  refine ⟨?_, ?_, ?_, ?_⟩ <;> simp [World.cell?, h]
theorem st4 {W : World} {b t : Nat} {x0 x1 x2 x3 y0 y1 y2 y3 : Value} (h : W.heap[b]? = some (.cells #[x0, x1, x2, x3] t)) :
    ((((W.setCell ⟨b, 0, none⟩ y0).setCell ⟨b, 1, none⟩ y1).setCell ⟨b, 2, none⟩ y2).setCell ⟨b, 3, none⟩ y3).heap[b]? = some (.cells #[y0, y1, y2, y3] t) := by
  simp [World.setCell, Array.getElem?_modify, h]
/-- What the program's call leaves. -/
def AnsI (w : World) (p : OOu) (e : Ending) (w' : World) : Prop := ∃ u s l b1 b2 b3, e = .returned (.agg #[u, s, l, .int .i64 p.code]) ∧ w.heap.size ≤ b1 ∧ w.heap.size ≤ b2 ∧ w.heap.size ≤ b3 ∧ LOo b1 b2 b3 w' u s l p ∧ Below w.heap.size w w'
/-- What the model's call leaves. -/
def AnsS (w : World) (p : OOu) (e : Ending) (w' : World) : Prop := ∃ u s l, e = .returned (.agg #[u, s, l, .int .i64 p.code]) ∧ ROo w' u s l p ∧ Below w.heap.size w w'
theorem ansI_err {w w' : World} (z : Int) (h : Below w.heap.size w w') : AnsI w (errO z) (.returned (.agg #[.slice none 0 0, .slice none 0 0, .slice none 0 0, .int .i64 z])) w' := ⟨_, _, _, w.heap.size, w.heap.size, w.heap.size, rfl, Nat.le_refl _, Nat.le_refl _, Nat.le_refl _, LOo.err _ _ _ _ _, h⟩
theorem ansS_err {w w' : World} (z : Int) (h : Below w.heap.size w w') : AnsS w (errO z) (.returned (.agg #[.slice none 0 0, .slice none 0 0, .slice none 0 0, .int .i64 z])) w' := ⟨_, _, _, rfl, ROo.err _ _, h⟩
theorem ansI_list {w w' : World} {u : Value} {L : List OutR} {b : Nat} (hL : LOu b w' u L) (hb : w.heap.size ≤ b) (h : Below w.heap.size w w') : AnsI w ⟨L, [], [], 0⟩ (.returned (.agg #[u, .slice none 0 0, .slice none 0 0, .int .i64 0])) w' := ⟨_, _, _, b, b, b, rfl, hb, hb, hb, ⟨hL, LSe.nil _ _, LOu.nil _ _, fun _ h => absurd rfl h⟩, h⟩
theorem ansS_list {w w' : World} {u : Value} {L : List OutR} (hL : RowOu w' u L) (h : Below w.heap.size w w') : AnsS w ⟨L, [], [], 0⟩ (.returned (.agg #[u, .slice none 0 0, .slice none 0 0, .int .i64 0])) w' := ⟨_, _, _, rfl, ⟨hL, RowSe.nil _, RowOu.nil _⟩, h⟩
theorem ansI_of {w w' : World} {e : Ending} {p : OOu} (hr : p.sent = [] ∧ p.lost = []) (h : ∃ u b, e = .returned (.agg #[u, .slice none 0 0, .slice none 0 0, .int .i64 p.code]) ∧ w.heap.size ≤ b ∧ LOu b w' u p.list ∧ Below w.heap.size w w') : AnsI w p e w' := by
  obtain ⟨u, b, he, hb, hL, hB⟩ := h
  obtain ⟨li, se, lo, c⟩ := p
  obtain ⟨rfl, rfl⟩ := hr
  exact ⟨u, _, _, b, b, b, he, hb, hb, hb, ⟨hL, LSe.nil _ _, LOu.nil _ _, fun _ h => absurd rfl h⟩, hB⟩
theorem ansS_of {w w' : World} {e : Ending} {p : OOu} (hr : p.sent = [] ∧ p.lost = []) (h : ∃ u, e = .returned (.agg #[u, .slice none 0 0, .slice none 0 0, .int .i64 p.code]) ∧ RowOu w' u p.list ∧ Below w.heap.size w w') : AnsS w p e w' := by
  obtain ⟨u, he, hL, hB⟩ := h
  obtain ⟨li, se, lo, c⟩ := p
  obtain ⟨rfl, rfl⟩ := hr
  exact ⟨u, _, _, he, ⟨hL, RowSe.nil _, RowOu.nil _⟩, hB⟩
end Go.Proofs.Ytiakkpglnijapaa
namespace Go.Proofs.Ytiakkpglnijapaa
open Go.ChangeShapes Go.WideShapes Go.ChangeAt Go.RowKit
theorem LOu.setR {b R : Nat} {W : World} {v : Value} {rs : List OutR} (h : LOu b W v rs) (hne : b ≠ R) (i : Nat) (x : Value) : LOu b (W.setCell ⟨R, i, none⟩ x) v rs := h.of_block fun _ => by
  simp only [World.setCell, Array.getElem?_modify]
  rw [if_neg (fun e => hne e.symm)]
theorem set_other (W : World) (b R i : Nat) (x : Value) (hne : b ≠ R) : (W.setCell ⟨R, i, none⟩ x).heap[b]? = W.heap[b]? := by
  simp only [World.setCell, Array.getElem?_modify]
  rw [if_neg (fun e => hne e.symm)]
end Go.Proofs.Ytiakkpglnijapaa
