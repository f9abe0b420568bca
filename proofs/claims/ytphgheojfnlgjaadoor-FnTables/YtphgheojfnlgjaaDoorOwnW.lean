/- Elements in rows of the call's own while a segment is drawn: what keeps them, one more, one less, how they read. -/
import Derived.Test.YtphgheojfnlgjaaDoorDrawPick
import Derived.Test.YtphgheojfnlgjaaDoorOwnB
namespace Go.Proofs.YtphgheojfnlgjaaDoor
open Go.ChangeShapes Go.WideShapes Go.ChangeAt Go.RowKit
/-- Elements in rows from n₀ on; each one's parts in a row of texts. -/
structure OwnW (n₀ : Nat) (W : World) (v : Value) (vals : List Value) (es : List (List ByteArray)) : Prop where
  len : vals.length = es.length
  row : W.ownsRow n₀ 55 1 v es.length vals
  parts : ∀ (i : Nat) (u : Value) (e : List ByteArray), vals[i]? = some u → es[i]? = some e → W.ownsRow n₀ 9 1 u e.length (e.map Value.string)
theorem OwnW.nil (n₀ : Nat) (W : World) : OwnW n₀ W (.slice none 0 0) [] [] := ⟨rfl, World.ownsRow_nil _ _ _ _, fun i u e h => by simp at h⟩
theorem row_sameW {t z n₀ k : Nat} {W W' : World} {v : Value} {xs : List Value} (h : W.ownsRow n₀ t z v k xs) (hs : ∀ g, n₀ ≤ g → g < W.heap.size → v.ownBlock = some g → W'.heap[g]? = W.heap[g]?) : W'.ownsRow n₀ t z v k xs := by
  refine ⟨h.1, ?_⟩
  rcases h.2 with hn | ⟨g, cap, cur, rfl, hb, hgg, rest⟩
  · exact .inl hn
  · exact .inr ⟨g, cap, cur, rfl, hb, (hs g hb (Array.getElem?_eq_some_iff.1 hgg).1 rfl).trans hgg, rest⟩
theorem OwnW.same {n₀ : Nat} {W W' : World} {v : Value} {vals : List Value} {es : List (List ByteArray)} (h : OwnW n₀ W v vals es) (hs : ∀ g, n₀ ≤ g → g < W.heap.size → W'.heap[g]? = W.heap[g]?) : OwnW n₀ W' v vals es :=
  ⟨h.len, row_sameW h.row fun g h1 h2 _ => hs g h1 h2, fun i u e hu he => row_sameW (h.parts i u e hu he) fun g h1 h2 _ => hs g h1 h2⟩
theorem OwnW.keep {n₀ B : Nat} {W W' : World} {v : Value} {vals : List Value} {es : List (List ByteArray)} (h : OwnW n₀ W v vals es) (hk : Keep B W W') (hB : B < n₀) : OwnW n₀ W' v vals es :=
  h.same fun g h1 h2 => hk.block g h2 (by omega)
theorem OwnW.below {n₀ : Nat} {W W' : World} {v : Value} {vals : List Value} {es : List (List ByteArray)} (h : OwnW n₀ W v vals es) (hb : Below W.heap.size W W') : OwnW n₀ W' v vals es :=
  h.same fun g _ h2 => hb.block g h2
theorem OwnW.set {n₀ B : Nat} {W : World} {v : Value} {vals : List Value} {es : List (List ByteArray)} (h : OwnW n₀ W v vals es) (hB : B < n₀) (i : Nat) (x : Value) : OwnW n₀ (W.setCell ⟨B, i, none⟩ x) v vals es :=
  h.same fun g h1 _ => Below.heap_setCell W ⟨B, i, none⟩ x g (show g ≠ B by omega)
theorem OwnW.mono {n₀ n₁ : Nat} {W : World} {v : Value} {vals : List Value} {es : List (List ByteArray)} (h : OwnW n₁ W v vals es) (hn : n₀ ≤ n₁) : OwnW n₀ W v vals es :=
  ⟨h.len, row_mono h.row hn, fun i u e hu he => row_mono (h.parts i u e hu he) hn⟩
/-- One element more. -/
theorem OwnW.push {n₀ : Nat} {W w4 : World} {v v' u : Value} {vals : List Value} {es : List (List ByteArray)} {e : List ByteArray} (h : OwnW n₀ W v vals es) (hu : W.ownsRow n₀ 9 1 u e.length (e.map Value.string))
    (hown : w4.ownsRow n₀ 55 1 v' (es.length + 1) (vals ++ [u])) (hg : W.grownBy w4 v.ownBlock) : OwnW n₀ w4 v' (vals ++ [u]) (es ++ [e]) := by
  refine ⟨by simp [h.len], by simpa using hown, fun i x y hx hy => ?_⟩
  rcases Nat.lt_or_ge i vals.length with q | q
  · rw [List.getElem?_append_left q] at hx
    rw [List.getElem?_append_left (by rw [← h.len]; exact q)] at hy
    have p1 := h.parts i x y hx hy
    exact p1.kept hg (rows_apart p1 h.row (by decide))
  · have hi : i = vals.length := by
      have := (List.getElem?_eq_some_iff.1 hx).1
      simp at this
      omega
    subst hi
    rw [List.getElem?_append_right (Nat.le_refl _)] at hx
    rw [h.len, List.getElem?_append_right (Nat.le_refl _)] at hy
    simp at hx hy
    subst hx hy
    exact hu.kept hg (rows_apart hu h.row (by decide))
/-- The last one less. -/
theorem OwnW.less {n₀ g n cap : Nat} {W : World} {vals : List Value} {es : List (List ByteArray)} (h : OwnW n₀ W (.slice (some ⟨g, 0, none⟩) (n + 1) cap) vals es) (hn : es.length = n + 1) : OwnW n₀ W (.slice (some ⟨g, 0, none⟩) n cap) (vals.take n) (es.take n) := by
  have hl : (es.take n).length = n := by rw [List.length_take]; omega
  refine ⟨by rw [List.length_take, List.length_take, h.len], ?_, fun i u e hu he => ?_⟩
  · rw [hl]
    have hr := h.row
    refine ⟨by rw [List.length_take, h.len]; omega, .inr ?_⟩
    rcases hr.2 with ⟨e1, _⟩ | ⟨g1, cap1, cur, e1, hb, hgg, h1, h2, h3, h4⟩
    · simp at e1
    · simp at e1
      obtain ⟨rfl, _, rfl⟩ := e1
      refine ⟨g, cap, cur, rfl, hb, hgg, by omega, h2, h3, ?_⟩
      rw [← h4, List.take_take]
      congr 1
      omega
  · have hi := (List.getElem?_eq_some_iff.1 hu).1
    rw [List.length_take] at hi
    rw [List.getElem?_take_of_lt (by omega)] at hu he
    exact h.parts i u e hu he
theorem OwnW.rowE {n₀ : Nat} {W : World} {v : Value} {vals : List Value} {es : List (List ByteArray)} (h : OwnW n₀ W v vals es) (hX : ∀ e ∈ es, e.length ≤ 10 ∧ ∀ t ∈ e, t.size ≤ 100) (hl : es.length ≤ 1048576) : RowE W v es := by
  refine ⟨?_, by omega⟩
  rcases h.row.2 with ⟨rfl, h0⟩ | ⟨g, cap, cur, rfl, _⟩
  · exact ⟨none, 0, by rw [h0], fun hn => absurd (List.length_eq_zero_iff.1 h0) hn⟩
  · refine ⟨_, _, rfl, fun _ => ⟨g, 0, rfl, fun i e hi => ?_⟩⟩
    have hlt := (List.getElem?_eq_some_iff.1 hi).1
    have hv : vals[i]? = some (vals[i]'(by rw [h.len]; exact hlt)) := List.getElem?_eq_getElem _
    have h1 := h.row.cells (g := g) rfl i _ hv
    have e1 : (⟨g, 0, none⟩ : Addr).add i = ⟨g, 0 + i, none⟩ := by unfold Addr.add; split <;> simp_all
    rw [e1] at h1
    have hx := hX e (List.mem_of_getElem? hi)
    have hp := h.parts i _ e hv hi
    refine ⟨_, h1, ?_, by omega, fun j t ht => Nat.le_trans (hx.2 t (List.mem_of_getElem? ht)) (by omega)⟩
    rcases hp.2 with ⟨e2, h0⟩ | ⟨g2, cap2, cur2, e2, _⟩
    · exact ⟨none, 0, by rw [e2, h0], fun hn => absurd (List.length_eq_zero_iff.1 h0) hn⟩
    · refine ⟨_, _, e2, fun _ => ⟨g2, 0, rfl, fun j t ht => ?_⟩⟩
      rw [e2] at hp
      have h2 := hp.cells (g := g2) rfl j (.string t) (by simp [ht])
      have e3 : (⟨g2, 0, none⟩ : Addr).add j = ⟨g2, 0 + j, none⟩ := by unfold Addr.add; split <;> simp_all
      rwa [e3] at h2
end Go.Proofs.YtphgheojfnlgjaaDoor
