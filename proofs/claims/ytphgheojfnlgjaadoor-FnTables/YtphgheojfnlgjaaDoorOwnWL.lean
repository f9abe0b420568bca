/- Drawn segments in rows of the call's own. -/
import Derived.Test.YtphgheojfnlgjaaDoorBdW
import Derived.Test.YtphgheojfnlgjaaDoorOwnB
import Derived.Test.YtphgheojfnlgjaaDoorRowG
namespace Go.Proofs.YtphgheojfnlgjaaDoor
open Go.ChangeShapes Go.WideShapes Go.ChangeAt Go.RowKit Go.Shelf
theorem rowz_mono {n₀ n₁ t z k : Nat} {W : World} {v : Value} {xs : List Value} (h : W.ownsRow n₁ t z v k xs) (hn : n₀ ≤ n₁) : W.ownsRow n₀ t z v k xs := by
  refine ⟨h.1, ?_⟩
  rcases h.2 with q | ⟨g, cap, cur, e, hb, r⟩
  · exact .inl q
  · exact .inr ⟨g, cap, cur, e, Nat.le_trans hn hb, r⟩
/-- Segments in rows from n₀ on, each one's elements too. -/
structure OwnWL (n₀ : Nat) (W : World) (v : Value) (ps : List (Value × List Value)) (gs : List Seg) : Prop where
  len : ps.length = gs.length
  row : W.ownsRow n₀ 36 2 v gs.length (cellsL gs ps)
  segs : ∀ (i : Nat) (p : Value × List Value) (g : Seg), ps[i]? = some p → gs[i]? = some g → OwnW n₀ W p.1 p.2 g.2
theorem OwnWL.same {n₀ : Nat} {W W' : World} {v : Value} {ps : List (Value × List Value)} {gs : List Seg} (h : OwnWL n₀ W v ps gs) (hs : ∀ g, n₀ ≤ g → g < W.heap.size → W'.heap[g]? = W.heap[g]?) : OwnWL n₀ W' v ps gs :=
  ⟨h.len, row_sameW h.row fun g h1 h2 _ => hs g h1 h2, fun i p g hp hg => (h.segs i p g hp hg).same hs⟩
theorem OwnWL.keep {n₀ B : Nat} {W W' : World} {v : Value} {ps : List (Value × List Value)} {gs : List Seg} (h : OwnWL n₀ W v ps gs) (hk : Keep B W W') (hB : B < n₀) : OwnWL n₀ W' v ps gs :=
  h.same fun g h1 h2 => hk.block g h2 (by omega)
theorem OwnWL.below {n₀ : Nat} {W W' : World} {v : Value} {ps : List (Value × List Value)} {gs : List Seg} (h : OwnWL n₀ W v ps gs) (hb : Below W.heap.size W W') : OwnWL n₀ W' v ps gs :=
  h.same fun g _ h2 => hb.block g h2
theorem OwnWL.set {n₀ B : Nat} {W : World} {v : Value} {ps : List (Value × List Value)} {gs : List Seg} (h : OwnWL n₀ W v ps gs) (hB : B < n₀) (i : Nat) (x : Value) : OwnWL n₀ (W.setCell ⟨B, i, none⟩ x) v ps gs :=
  h.same fun g h1 _ => Below.heap_setCell W ⟨B, i, none⟩ x g (show g ≠ B by omega)
theorem OwnWL.mono {n₀ n₁ : Nat} {W : World} {v : Value} {ps : List (Value × List Value)} {gs : List Seg} (h : OwnWL n₁ W v ps gs) (hn : n₀ ≤ n₁) : OwnWL n₀ W v ps gs :=
  ⟨h.len, rowz_mono h.row hn, fun i p g hp hg => (h.segs i p g hp hg).mono hn⟩
theorem OwnWL.slice {n₀ : Nat} {W : World} {v : Value} {ps : List (Value × List Value)} {gs : List Seg} (h : OwnWL n₀ W v ps gs) : ∃ A C, v = .slice A gs.length C := by
  rcases h.row.2 with ⟨rfl, h0⟩ | ⟨g, cap, cur, rfl, _⟩
  · exact ⟨none, 0, by rw [h0]⟩
  · exact ⟨_, _, rfl⟩
theorem OwnWL.cap {n₀ N C : Nat} {W : World} {A : Option Addr} {ps : List (Value × List Value)} {gs : List Seg} (h : OwnWL n₀ W (.slice A N C) ps gs) : gs.length ≤ C := by
  rcases h.row.2 with ⟨e, h0⟩ | ⟨g, cap, cur, e, _, _, h1, _⟩
  · omega
  · simp only [Value.slice.injEq] at e
    omega
theorem obj_apart' {W : World} {n₀ n₁ e e' z z' k k' : Nat} {v v' : Value} {xs xs' : List Value} (h : W.ownsRow n₀ e z v k xs) (h' : W.ownsRow n₁ e' z' v' k' xs') (hne : e ≠ e') : v.ownBlock = none ∨ v.ownBlock ≠ v'.ownBlock := by
  cases hv : v.ownBlock with
  | none => exact .inl rfl
  | some g => exact .inr fun e => obj_apart h h' hne g hv e.symm
theorem OwnW.grow {n₀ n₁ k : Nat} {W W' : World} {v lv : Value} {vals xs : List Value} {es : List (List ByteArray)} (h : OwnW n₀ W v vals es) (hg : W.grownBy W' lv.ownBlock) (hl : W.ownsRow n₁ 36 2 lv k xs) : OwnW n₀ W' v vals es := by
  refine ⟨h.len, h.row.kept hg (obj_apart' h.row hl (by decide)), fun i u e hu he => ?_⟩
  have p1 := h.parts i u e hu he
  exact p1.kept hg (obj_apart' p1 hl (by decide))
/-- One segment more. -/
theorem OwnWL.push {n₀ : Nat} {W w4 : World} {v v' u : Value} {vals : List Value} {ps : List (Value × List Value)} {gs : List Seg} {g : Seg} (h : OwnWL n₀ W v ps gs) (hu : OwnW n₀ W u vals g.2)
    (hown : w4.ownsRow n₀ 36 2 v' (gs.length + 1) (cellsL gs ps ++ [.string g.1, u])) (hg : W.grownBy w4 v.ownBlock) : OwnWL n₀ w4 v' (ps ++ [(u, vals)]) (gs ++ [g]) := by
  refine ⟨by simp [h.len], ?_, fun i x y hx hy => ?_⟩
  · rw [cellsL_snoc h.len]
    simpa using hown
  · rcases Nat.lt_or_ge i ps.length with q | q
    · rw [List.getElem?_append_left q] at hx
      rw [List.getElem?_append_left (by rw [← h.len]; exact q)] at hy
      exact (h.segs i x y hx hy).grow hg h.row
    · have hi : i = ps.length := by
        have := (List.getElem?_eq_some_iff.1 hx).1
        simp at this
        omega
      subst hi
      rw [List.getElem?_append_right (Nat.le_refl _)] at hx
      rw [h.len, List.getElem?_append_right (Nat.le_refl _)] at hy
      simp at hx hy
      subst hx hy
      exact hu.grow hg h.row
def BdGs (gs : List Seg) : Prop := ∀ g ∈ gs, g.1.size ≤ 100 ∧ g.2.length ≤ 12 ∧ BdW g.2
theorem OwnWL.rowG {n₀ : Nat} {W : World} {v : Value} {ps : List (Value × List Value)} {gs : List Seg} (h : OwnWL n₀ W v ps gs) (hX : BdGs gs) (hl : gs.length ≤ 1048576) : RowG W v gs := by
  refine ⟨?_, by omega, fun i g hi => Nat.le_trans (hX g (List.mem_of_getElem? hi)).1 (by omega)⟩
  rcases h.row.2 with ⟨rfl, h0⟩ | ⟨g, cap, cur, rfl, _⟩
  · exact ⟨none, 0, by rw [h0], fun hn => absurd (List.length_eq_zero_iff.1 h0) hn⟩
  · refine ⟨_, _, rfl, fun _ => ⟨g, 0, rfl, fun i e hi => ?_⟩⟩
    have hlt := (List.getElem?_eq_some_iff.1 hi).1
    have hv : ps[i]? = some (ps[i]'(by rw [h.len]; exact hlt)) := List.getElem?_eq_getElem _
    obtain ⟨g1, g2⟩ := cellsL_get hi hv
    have h1 := h.row.cells (g := g) rfl _ _ g1
    have h2 := h.row.cells (g := g) rfl _ _ g2
    have e1 : ∀ i, (⟨g, 0, none⟩ : Addr).add i = ⟨g, 0 + i, none⟩ := fun i => by unfold Addr.add; split <;> simp_all
    rw [e1] at h1 h2
    obtain ⟨b1, b2, b3⟩ := hX e (List.mem_of_getElem? hi)
    exact ⟨h1, _, h2, (h.segs i _ e hv hi).rowE b3 (by omega)⟩
theorem bdGs_bdG {gs : List Seg} (h : BdGs gs) (hl : gs.length ≤ 1048576) : BdG 1048576 gs := by
  refine ⟨hl, fun i g hi => ?_⟩
  obtain ⟨b1, b2, b3⟩ := h g (List.mem_of_getElem? hi)
  refine ⟨by omega, by omega, fun j e hj => ?_⟩
  have hm := b3 e (List.mem_of_getElem? hj)
  exact ⟨by omega, fun k t hk => Nat.le_trans (hm.2 t (List.mem_of_getElem? hk)) (by omega)⟩
theorem bdE_of {es : List (List ByteArray)} (h : BdW es) (hl : es.length ≤ 12) : BdE 1048576 es := by
  refine ⟨by omega, fun j e hj => ?_⟩
  have hm := h e (List.mem_of_getElem? hj)
  exact ⟨by omega, fun k t hk => Nat.le_trans (hm.2 t (List.mem_of_getElem? hk)) (by omega)⟩
theorem cell_two_to (w : World) (x y : Value) (t : TypeId) (g : Nat) (hg : g = w.heap.size) : ∀ j u, [x, y][j]? = some u → (w.alloc (.cells #[x, y] t)).cell? ((⟨g, 0, none⟩ : Addr).add j) = some u := by
  subst hg
  intro j u hu
  have e1 : (⟨w.heap.size, 0, none⟩ : Addr).add j = ⟨w.heap.size, 0 + j, none⟩ := by unfold Addr.add; split <;> simp_all
  rw [e1]
  rcases j with _ | _ | j
  · simp at hu
    simp [go_sem, hu]
  · simp at hu
    simp [go_sem, hu]
  · simp at hu
theorem cell_three_to (w : World) (x y z : Value) (t : TypeId) (g : Nat) (hg : g = w.heap.size) : ∀ j u, [x, y, z][j]? = some u → (w.alloc (.cells #[x, y, z] t)).cell? ((⟨g, 0, none⟩ : Addr).add j) = some u := by
  subst hg
  intro j u hu
  have e1 : (⟨w.heap.size, 0, none⟩ : Addr).add j = ⟨w.heap.size, 0 + j, none⟩ := by unfold Addr.add; split <;> simp_all
  rw [e1]
  rcases j with _ | _ | _ | j
  · simp at hu
    simp [go_sem, hu]
  · simp at hu
    simp [go_sem, hu]
  · simp at hu
    simp [go_sem, hu]
  · simp at hu
end Go.Proofs.YtphgheojfnlgjaaDoor
