/- Contract of the model's l10Copy. -/
import Derived.Test.YtiaclnldeimbhaaAppYSt
import Derived.Test.YtiaclnldeimbhaaAppYOl
import Derived.Test.YtiaclnldeimbhaaRowBk
import Derived.Test.YtiaclnldeimbhaaLnC
import Derived.Deep.RegionLaw
import Derived.Deep.RegionHeld3
namespace Go.Proofs.Ytiaclnldeimbhaa
open Go.ChangeShapes Go.WideShapes Go.ChangeAt Go.RowKit
theorem cell_al {W : World} {b i : Nat} {v : Value} (h : W.cell? ⟨b, i, none⟩ = some v) (o : Obj) : (W.alloc o).cell? ⟨b, i, none⟩ = some v := (World.cell?_alloc_lt _ _ _ (cell_lt h)).trans h
theorem bel_alloc {W0 X : World} (h : Below W0.heap.size W0 X) (o : Obj) : Below W0.heap.size W0 (X.alloc o) := h.alloc h.size o
theorem bel_drew {W0 X : World} (h : Below W0.heap.size W0 X) : Below W0.heap.size W0 X.drew := h.drew
theorem hp_new {X : World} {o : Obj} {b : Nat} (h : b = X.heap.size) : (X.alloc o).heap[b]? = some o := by rw [h]; exact World.alloc_heap_new X o
theorem hp_old {X : World} {o : Obj} {b : Nat} (h : X.heap[b]? = some o) (o' : Obj) : (X.alloc o').heap[b]? = some o := (((Below.refl _ X).alloc (Nat.le_refl _) o').block b (Array.getElem?_eq_some_iff.1 h).1).trans h
theorem gbk {X w' : World} {b c : Nat} {o : Obj} (hg : X.grownBy w' (some c)) (h : X.heap[b]? = some o) (hne : b ≠ c) : w'.heap[b]? = some o := (hg.block b (Array.getElem?_eq_some_iff.1 h).1 (by simp; exact hne)).trans h
theorem hp_drew {X : World} {o : Obj} {b : Nat} (h : X.heap[b]? = some o) : X.drew.heap[b]? = some o := h
theorem owns_drew {X : World} {base : Nat} {e : TypeId} {size : Nat} {v : Value} {k : Nat} {xs : List Value} (h : X.ownsRow base e size v k xs) : X.drew.ownsRow base e size v k xs := h
theorem cp_below {W0 X w' : World} {b : Nat} (h : Below W0.heap.size W0 X) (hg : X.grownBy w' (some b)) (hb : W0.heap.size ≤ b) : Below W0.heap.size W0 w' :=
  h.trans ⟨hg.os, hg.tape, hg.output, hg.size, fun j hj => hg.block j (by have := h.size; omega) (by simp; omega)⟩
/-- A row of another type is not touched. -/
theorem kr {X w' : World} {base b : Nat} {e e' : TypeId} {size : Nat} {v : Value} {k : Nat} {xs : List Value} (h : X.ownsRow base e size v k xs) (hb : X.heap[b]? = some (.cells #[] e')) (hne : e ≠ e') (hg : X.grownBy w' (some b)) : w'.ownsRow base e size v k xs := by
  refine h.kept hg ?_
  rcases h.2 with ⟨e1, _⟩ | ⟨g, cap, cur, e1, _, h2, _⟩
  · exact .inl (by rw [e1]; rfl)
  · refine .inr ?_
    rw [e1]
    intro e2
    simp only [Value.ownBlock, Option.some.injEq] at e2
    rw [e2, hb] at h2
    simp only [Option.some.injEq, Obj.cells.injEq] at h2
    exact hne h2.2.1.symm
theorem cp_set2 {W : World} {base c : Nat} {e : TypeId} {size : Nat} {v x y : Value} {k : Nat} {xs : List Value} (h : W.ownsRow base e size v k xs) (hc : c < base) : ((W.setCell ⟨c, 0, none⟩ x).setCell ⟨c, 1, none⟩ y).ownsRow base e size v k xs := by
  refine h.kept (row := some c) ⟨rfl, rfl, rfl, by simp, fun j hj hne => (setNe y (fun e => hne (by rw [e]))).trans (setNe x (fun e => hne (by rw [e])))⟩ ?_
  rcases h.2 with ⟨e1, _⟩ | ⟨g, cap, cur, e1, h1, _⟩
  · exact .inl (by rw [e1]; rfl)
  · refine .inr ?_
    rw [e1]
    simp [Value.ownBlock]
    omega
set_option maxRecDepth 20000 in
set_option maxHeartbeats 16000000 in
theorem l10Copy_any (p : Bk) (us ul : Value) (w : World) (h : RBk w us ul p) (hP : BdBk 1048576 p) : Calls Try.prog 45 #[.agg #[us, ul]] w fun e w' => ∃ us' ul', e = .returned (.agg #[us', ul']) ∧ w'.ownsRow (w.heap.size + 2) 49 2 us' p.stocks.length (clSts p.stocks) ∧ w'.ownsRow (w.heap.size + 2) 32 8 ul' p.lines.length (clOls p.lines) ∧ Below w.heap.size w w' := by
  obtain ⟨a, c, a', c', rfl, rfl⟩ := h.val
  have hl0' := hP.1.len
  have hl1' := hP.2.len
  have hl0 : p.stocks.length ≤ 2000000 := by omega
  have hl1 : p.lines.length ≤ 2000000 := by omega
  obtain ⟨W0, hW0⟩ : ∃ W0, (w.alloc (.cells #[.slice a p.stocks.length c, .slice a' p.lines.length c'] 26)).alloc (.cells #[.slice none 0 0, .slice none 0 0] 26) = W0 := ⟨_, rfl⟩
  have hb0 : Below w.heap.size w W0 := by rw [← hW0]; exact ((Below.refl _ _).alloc (Nat.le_refl _) _).alloc (by simp) _
  obtain ⟨x0, x1⟩ := fl_two w (.cells #[.slice a p.stocks.length c, .slice a' p.lines.length c'] 26) (.cells #[.slice none 0 0, .slice none 0 0] 26)
  rw [hW0] at x0 x1
  have hs0 : W0.heap.size = w.heap.size + 2 := by rw [← hW0]; simp
  have H0 : Hid (Below w.heap.size w W0 ∧ RBk W0 (.slice a p.stocks.length c) (.slice a' p.lines.length c') p ∧ W0.heap[w.heap.size]? = some (.cells #[.slice a p.stocks.length c, .slice a' p.lines.length c'] 26) ∧ W0.heap[w.heap.size + 1]? = some (.cells #[.slice none 0 0, .slice none 0 0] 26) ∧ W0.heap.size = w.heap.size + 2) := ⟨hb0, h.below hb0, x0, x1, hs0⟩
  obtain ⟨c0, c1⟩ := box2 x0
  have hlt0 := (Array.getElem?_eq_some_iff.1 x0).1
  have hlt1 := (Array.getElem?_eq_some_iff.1 x1).1
  have HR : Hid (∀ W, Below W0.heap.size W0 W → RBk W (.slice a p.stocks.length c) (.slice a' p.lines.length c') p) := fun W hW => H0.out.2.1.below hW
  have e0 := cell_al c0
  have e1 := cell_al c1
  have e2 := fun o o' => cell_al (cell_al c0 o) o'
  have e3 := fun o o' => cell_al (cell_al c1 o) o'
  clear h hb0 x0 x1 hP hs0 hl0' hl1'
  go_enter Try.func45, Try.ntmps45
  go_upto_region 1 with fail
  try rw [hW0]
  clear hW0
  go_region_held3 (fun W => W.cell? ⟨w.heap.size, 0, none⟩ = some (.slice a p.stocks.length c) ∧ W.cell? ⟨w.heap.size, 1, none⟩ = some (.slice a' p.lines.length c')) (go_keep) (first | (have _g := ho5; refine step_cpyOl (base := W0.heap.size) (ms := p.lines) (by rfl) _ _ (by rfl) (by rfl) (by rfl) (by with_reducible repeat (first | exact hp_new rfl | exact hp_new (World.size_alloc _ _).symm | refine gbk hg5 ?_ (Nat.succ_ne_self _) | refine gbk hg5 ?_ (Nat.succ_ne_self _).symm | refine hp_old ?_ _ | refine hp_drew ?_)) (HR.out _ (by with_reducible repeat (first | exact hb5 | exact hb9 | exact Below.refl _ _ | refine bel_alloc ?_ _ | refine bel_drew ?_))).ln hl1 (by with_reducible first | exact Nat.le_refl _ | exact Nat.le_succ _ | exact hb5.size | exact hb9.size | fail) ?_; intro A9 C9 w9 ho9 hg9; have hb9 : Below W0.heap.size W0 w9 := cp_below (by with_reducible repeat (first | exact hb5 | exact hb9 | exact Below.refl _ _ | refine bel_alloc ?_ _ | refine bel_drew ?_)) hg9 (by with_reducible first | exact Nat.le_refl _ | exact Nat.le_succ _ | exact hb5.size | exact hb9.size | fail); have ho59 : w9.ownsRow W0.heap.size 49 2 (.slice A5 p.stocks.length C5) p.stocks.length (clSts p.stocks) := kr (by with_reducible repeat (first | exact ho5 | refine World.ownsRow.alloc ?_ _ | refine owns_drew ?_)) (by with_reducible repeat (first | exact hp_new rfl | exact hp_new (World.size_alloc _ _).symm | refine gbk hg5 ?_ (Nat.succ_ne_self _) | refine gbk hg5 ?_ (Nat.succ_ne_self _).symm | refine hp_old ?_ _ | refine hp_drew ?_)) (by decide) hg9; have HE : Hid (Below W0.heap.size W0 w9 ∧ w9.ownsRow W0.heap.size 49 2 (.slice A5 p.stocks.length C5) p.stocks.length (clSts p.stocks) ∧ w9.ownsRow W0.heap.size 32 8 (.slice A9 p.lines.length C9) p.lines.length (clOls p.lines)) := ⟨hb9, ho59, ho9⟩; have zr := (hb9.block _ hlt1).trans H0.out.2.2.2.1; obtain ⟨z0, z1⟩ := box2 zr; have zf := frz2 zr; clear zr; obtain ⟨t0, t1⟩ := box2 ((hb9.block _ hlt0).trans H0.out.2.2.1); clear hg9 ho59 _g; try dsimp only) | (refine step_cpySt (base := W0.heap.size) (ms := p.stocks) (by rfl) _ _ (by rfl) (by rfl) (by rfl) (by with_reducible repeat (first | exact hp_new rfl | exact hp_new (World.size_alloc _ _).symm | refine gbk hg5 ?_ (Nat.succ_ne_self _) | refine gbk hg5 ?_ (Nat.succ_ne_self _).symm | refine hp_old ?_ _ | refine hp_drew ?_)) (HR.out _ (by with_reducible repeat (first | exact hb5 | exact hb9 | exact Below.refl _ _ | refine bel_alloc ?_ _ | refine bel_drew ?_))).st hl0 (by with_reducible first | exact Nat.le_refl _ | exact Nat.le_succ _ | exact hb5.size | exact hb9.size | fail) ?_; intro A5 C5 w5 ho5 hg5; have hb5 : Below W0.heap.size W0 w5 := cp_below (by with_reducible repeat (first | exact hb5 | exact hb9 | exact Below.refl _ _ | refine bel_alloc ?_ _ | refine bel_drew ?_)) hg5 (by with_reducible first | exact Nat.le_refl _ | exact Nat.le_succ _ | exact hb5.size | exact hb9.size | fail); obtain ⟨v0, v1⟩ := box2 ((hb5.block _ hlt0).trans H0.out.2.2.1); have v2 := cell_al v0; have v3 := cell_al v1; try dsimp only) | fail)
  all_goals
    try go_wp2
    obtain ⟨k1, k2, k3⟩ := HE.out
    have s0 := H0.out.2.2.2.2
    refine bodyPost_ret (v := .agg #[.slice A5 p.stocks.length C5, .slice A9 p.lines.length C9]) (by simp [results, Try.results45, go_sem, z0, z1]) rfl ⟨_, _, rfl, ?_, ?_, ?_⟩
    · exact cp_set2 (s0 ▸ k2) (by omega)
    · exact cp_set2 (s0 ▸ k3) (by omega)
    · exact ((H0.out.1.trans (k1.mono (by omega))).setCell (show w.heap.size ≤ w.heap.size + 1 by omega) _).setCell (show w.heap.size ≤ w.heap.size + 1 by omega) _
end Go.Proofs.Ytiaclnldeimbhaa
