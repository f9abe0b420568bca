/- Elements and segments in rows of the call's own: what keeps them, what lies apart, how they read. -/
import Derived.Test.YtphgheojfnlgjaaDoorRowG
import Derived.Deep.OwnRows
namespace Go.Proofs.YtphgheojfnlgjaaDoor
open Go.ChangeShapes Go.WideShapes Go.ChangeAt Go.RowKit
theorem row_mono {W : World} {n₀ n₁ e k : Nat} {v : Value} {xs : List Value} (h : W.ownsRow n₁ e 1 v k xs) (hn : n₀ ≤ n₁) : W.ownsRow n₀ e 1 v k xs := by
  rcases h.2 with h1 | ⟨g, cap, cur, h1, h2, h3⟩
  · exact ⟨h.1, .inl h1⟩
  · exact ⟨h.1, .inr ⟨g, cap, cur, h1, Nat.le_trans hn h2, h3⟩⟩
/-- Two rows of unlike elements lie apart. -/
theorem rows_apart {W : World} {n₀ n₁ e e' k k' : Nat} {v v' : Value} {xs xs' : List Value} (h : W.ownsRow n₀ e 1 v k xs) (h' : W.ownsRow n₁ e' 1 v' k' xs') (hne : e ≠ e') : v.ownBlock = none ∨ v.ownBlock ≠ v'.ownBlock := by
  rcases h.2 with ⟨rfl, _⟩ | ⟨g, cap, cur, rfl, _, hgb, _⟩
  · exact .inl rfl
  · refine .inr fun e1 => ?_
    rcases h'.2 with ⟨rfl, _⟩ | ⟨g', cap', cur', rfl, _, hgb', _⟩
    · simp [Value.ownBlock] at e1
    · obtain rfl : g = g' := by simpa [Value.ownBlock] using e1
      rw [hgb] at hgb'
      cases hgb'
      exact hne rfl
theorem row_lt {W : World} {n₁ e k : Nat} {v : Value} {xs : List Value} (h : W.ownsRow n₁ e 1 v k xs) {b : Nat} (hb : b < n₁) : some b ≠ v.ownBlock := by
  intro e1
  rcases h.2 with ⟨rfl, _⟩ | ⟨g, cap, cur, rfl, hg, _⟩
  · simp [Value.ownBlock] at e1
  · obtain rfl : b = g := by simpa [Value.ownBlock] using e1
    omega
theorem row_base {W : World} {n₀ e k : Nat} {v : Value} {xs : List Value} (h : W.ownsRow n₀ e 1 v k xs) : ∀ j, v.ownBlock = some j → n₀ ≤ j := by
  intro j ej
  rcases h.2 with ⟨rfl, _⟩ | ⟨g, cap, cur, rfl, hb, _, _⟩
  · simp [Value.ownBlock] at ej
  · obtain rfl : g = j := by simpa [Value.ownBlock] using ej
    exact hb
/-- A row of texts of the call's own reads as the list. -/
theorem own_rowS {W : World} {n₀ n : Nat} {v : Value} {ss : List ByteArray} (h : W.ownsRow n₀ 9 1 v n (ss.map Value.string)) (hn : n = ss.length) (hl : ss.length ≤ 1048576) (hz : ∀ t ∈ ss, t.size ≤ 40) : RowS W v ss := by
  subst hn
  refine ⟨?_, by omega, fun i t hi => Nat.le_trans (hz t (List.mem_of_getElem? hi)) (by omega)⟩
  rcases h.2 with ⟨rfl, h0⟩ | ⟨g, cap, cur, rfl, _⟩
  · exact ⟨none, 0, by rw [h0], fun hn => absurd (List.length_eq_zero_iff.1 h0) hn⟩
  · refine ⟨_, _, rfl, fun _ => ⟨g, 0, rfl, fun i t hi => ?_⟩⟩
    have h1 := h.cells (g := g) rfl i (.string t) (by simp [hi])
    have e : (⟨g, 0, none⟩ : Addr).add i = ⟨g, 0 + i, none⟩ := by unfold Addr.add; split <;> simp_all
    rwa [e] at h1
/-- Elements in rows of the call's own, each in a block for itself. -/
structure OwnV (n₀ : Nat) (W : World) (v : Value) (vals : List Value) (es : List (List ByteArray)) : Prop where
  len : vals.length = es.length
  row : W.ownsRow n₀ 55 1 v es.length vals
  parts : ∀ (i : Nat) (u : Value) (e : List ByteArray), vals[i]? = some u → es[i]? = some e → W.ownsRow n₀ 9 1 u e.length (e.map Value.string) ∧ 0 < e.length
  apart : ∀ (i j : Nat) (u x : Value), i < j → vals[i]? = some u → vals[j]? = some x → u.ownBlock ≠ x.ownBlock
def OwnEs (n₀ : Nat) (W : World) (v : Value) (es : List (List ByteArray)) : Prop := ∃ vals, OwnV n₀ W v vals es
theorem row_keep {n₀ t k : Nat} {W W' : World} {v : Value} {xs : List Value} (h : W.ownsRow n₀ t 1 v k xs) (hb : Below W.heap.size W W') : W'.ownsRow n₀ t 1 v k xs := by
  refine h.kept (show W.grownBy W' none from ⟨hb.os, hb.tape, hb.output, hb.size, fun k hk _ => hb.block k hk⟩) ?_
  cases v.ownBlock with
  | none => exact .inl rfl
  | some k => exact .inr (by simp)
theorem OwnV.below {n₀ : Nat} {W W' : World} {v : Value} {vals : List Value} {es : List (List ByteArray)} (h : OwnV n₀ W v vals es) (hb : Below W.heap.size W W') : OwnV n₀ W' v vals es :=
  ⟨h.len, row_keep h.row hb, fun i u e hu he => ⟨row_keep (h.parts i u e hu he).1 hb, (h.parts i u e hu he).2⟩, h.apart⟩
theorem OwnV.set {n₀ B : Nat} {W : World} {v : Value} {vals : List Value} {es : List (List ByteArray)} (h : OwnV n₀ W v vals es) (hB : B < n₀) (i : Nat) (x : Value) : OwnV n₀ (W.setCell ⟨B, i, none⟩ x) v vals es := by
  have k : ∀ {t k : Nat} {u : Value} {xs : List Value}, W.ownsRow n₀ t 1 u k xs → (W.setCell ⟨B, i, none⟩ x).ownsRow n₀ t 1 u k xs := fun hr => hr.kept (show W.grownBy (W.setCell ⟨B, i, none⟩ x) (some B) from ⟨rfl, rfl, rfl, by simp, fun k _ hk => Below.heap_setCell W ⟨B, i, none⟩ x k (fun e => hk (by rw [e]))⟩) (.inr (row_lt hr hB).symm)
  exact ⟨h.len, k h.row, fun i u e hu he => ⟨k (h.parts i u e hu he).1, (h.parts i u e hu he).2⟩, h.apart⟩
theorem OwnV.mono {n₀ n₁ : Nat} {W : World} {v : Value} {vals : List Value} {es : List (List ByteArray)} (h : OwnV n₁ W v vals es) (hn : n₀ ≤ n₁) : OwnV n₀ W v vals es :=
  ⟨h.len, row_mono h.row hn, fun i u e hu he => ⟨row_mono (h.parts i u e hu he).1 hn, (h.parts i u e hu he).2⟩, h.apart⟩
theorem row_own {n₀ t k : Nat} {W : World} {v : Value} {xs : List Value} (h : W.ownsRow n₀ t 1 v k xs) (hk : 0 < k) : ∃ g, v.ownBlock = some g ∧ g < W.heap.size ∧ n₀ ≤ g := by
  rcases h.2 with ⟨rfl, h0⟩ | ⟨g, cap, cur, rfl, hg, hgb, _⟩
  · omega
  · exact ⟨g, rfl, (Array.getElem?_eq_some_iff.1 hgb).1, hg⟩
/-- One element more. -/
theorem OwnV.push {n₀ : Nat} {W W2 W3 w4 : World} {v v' u : Value} {vals : List Value} {es : List (List ByteArray)} {e : List ByteArray} (h : OwnV n₀ W v vals es) (hn : n₀ ≤ W.heap.size) (hb2 : Below W.heap.size W W2) (hu : W2.ownsRow W.heap.size 9 1 u e.length (e.map Value.string)) (he : 0 < e.length) (hb3 : Below W2.heap.size W2 W3)
    (hown : w4.ownsRow n₀ 55 1 v' (es.length + 1) (vals ++ [u])) (hg : W3.grownBy w4 v.ownBlock) : OwnV n₀ w4 v' (vals ++ [u]) (es ++ [e]) := by
  have h3 := (h.below hb2).below hb3
  have u3 := row_keep hu hb3
  refine ⟨by simp [h.len], by simpa using hown, fun i x y hx hy => ?_, fun i j x y hij hx hy => ?_⟩
  · rcases Nat.lt_or_ge i vals.length with q | q
    · rw [List.getElem?_append_left q] at hx
      rw [List.getElem?_append_left (by rw [← h.len]; exact q)] at hy
      obtain ⟨p1, p2⟩ := h3.parts i x y hx hy
      exact ⟨p1.kept hg (rows_apart p1 h3.row (by decide)), p2⟩
    · have hi : i = vals.length := by
        have := (List.getElem?_eq_some_iff.1 hx).1
        simp at this
        omega
      subst hi
      rw [List.getElem?_append_right (Nat.le_refl _)] at hx
      rw [h.len, List.getElem?_append_right (Nat.le_refl _)] at hy
      simp at hx hy
      subst hx hy
      exact ⟨(row_mono u3 hn).kept hg (rows_apart u3 h3.row (by decide)), he⟩
  · rcases Nat.lt_or_ge j vals.length with q | q
    · rw [List.getElem?_append_left q] at hy
      rw [List.getElem?_append_left (by omega)] at hx
      exact h.apart i j x y hij hx hy
    · have hj : j = vals.length := by
        have := (List.getElem?_eq_some_iff.1 hy).1
        simp at this
        omega
      subst hj
      rw [List.getElem?_append_left hij] at hx
      rw [List.getElem?_append_right (Nat.le_refl _)] at hy
      simp at hy
      subst hy
      have hie : i < es.length := by rw [← h.len]; exact hij
      obtain ⟨p1, p2⟩ := h.parts i x _ hx (List.getElem?_eq_getElem hie)
      obtain ⟨g1, e1, l1, _⟩ := row_own p1 p2
      obtain ⟨g2, e2, _, l2⟩ := row_own hu he
      rw [e1, e2]
      simp
      omega
/-- Bounds of elements that were read. -/
def BdX (es : List (List ByteArray)) : Prop := ∀ e ∈ es, e.length ≤ 4 ∧ ∀ t ∈ e, t.size ≤ 40
theorem BdX.bdE {es : List (List ByteArray)} (h : BdX es) (hl : es.length ≤ 1048576) : BdE 1048576 es :=
  ⟨hl, fun i e hi => ⟨Nat.le_trans (h e (List.mem_of_getElem? hi)).1 (by omega), fun j t ht => Nat.le_trans ((h e (List.mem_of_getElem? hi)).2 t (List.mem_of_getElem? ht)) (by omega)⟩⟩
theorem OwnV.rowE {n₀ : Nat} {W : World} {v : Value} {vals : List Value} {es : List (List ByteArray)} (h : OwnV n₀ W v vals es) (hX : BdX es) (hl : es.length ≤ 1048576) : RowE W v es := by
  refine ⟨?_, by omega⟩
  rcases h.row.2 with ⟨rfl, h0⟩ | ⟨g, cap, cur, rfl, _⟩
  · exact ⟨none, 0, by rw [h0], fun hn => absurd (List.length_eq_zero_iff.1 h0) hn⟩
  · refine ⟨_, _, rfl, fun _ => ⟨g, 0, rfl, fun i e hi => ?_⟩⟩
    have hlt := (List.getElem?_eq_some_iff.1 hi).1
    have hv : vals[i]? = some (vals[i]'(by rw [h.len]; exact hlt)) := List.getElem?_eq_getElem _
    have h1 := h.row.cells (g := g) rfl i _ hv
    have e1 : (⟨g, 0, none⟩ : Addr).add i = ⟨g, 0 + i, none⟩ := by unfold Addr.add; split <;> simp_all
    rw [e1] at h1
    have hx := hX e (List.mem_of_getElem? hi)
    exact ⟨_, h1, own_rowS (h.parts i _ e hv hi).1 rfl (by omega) hx.2⟩
theorem infoElm : (Tryd.prog.info? 55).map (fun i => (i.zero, i.size, i.bytes)) = some (some (.agg #[.slice none 0 0]), 1, 24) := by kernel_rfl
theorem row_slice {n₀ t k : Nat} {W : World} {v : Value} {xs : List Value} (h : W.ownsRow n₀ t 1 v k xs) : ∃ A N C, v = .slice A N C := by
  rcases h.2 with ⟨rfl, _⟩ | ⟨g, cap, cur, rfl, _⟩
  · exact ⟨_, _, _, rfl⟩
  · exact ⟨_, _, _, rfl⟩
theorem row2_ne {W : World} {n₁ e k : Nat} {v : Value} {xs : List Value} (h : W.ownsRow n₁ e 2 v k xs) {b : Nat} (hb : b < n₁) : v.ownBlock ≠ some b := by
  intro e1
  rcases h.2 with ⟨rfl, _⟩ | ⟨g, cap, cur, rfl, hg, _⟩
  · simp [Value.ownBlock] at e1
  · have : g = b := by simpa [Value.ownBlock] using e1
    omega
theorem row2_below {n₀ t k : Nat} {W W' : World} {v : Value} {xs : List Value} (h : W.ownsRow n₀ t 2 v k xs) (hb : Below W.heap.size W W') : W'.ownsRow n₀ t 2 v k xs := by
  refine h.kept (show W.grownBy W' none from ⟨hb.os, hb.tape, hb.output, hb.size, fun k hk _ => hb.block k hk⟩) ?_
  cases v.ownBlock with
  | none => exact .inl rfl
  | some k => exact .inr (by simp)
theorem row2_lt {n₀ t k : Nat} {W : World} {v : Value} {xs : List Value} (h : W.ownsRow n₀ t 2 v k xs) : ∀ j, v.ownBlock = some j → j < W.heap.size := by
  intro j e1
  rcases h.2 with ⟨rfl, _⟩ | ⟨g, cap, cur, rfl, _, hgb, _⟩
  · simp [Value.ownBlock] at e1
  · have : g = j := by simpa [Value.ownBlock] using e1
    subst this
    exact (Array.getElem?_eq_some_iff.1 hgb).1
theorem row_grow {n₀ t k : Nat} {W W' : World} {v : Value} {xs : List Value} {row : Option Nat} (h : W.ownsRow n₀ t 1 v k xs) (hg : W.grownBy W' row) (hr : ∀ j, row = some j → j < n₀) : W'.ownsRow n₀ t 1 v k xs := by
  refine h.kept hg ?_
  cases hv : v.ownBlock with
  | none => exact .inl rfl
  | some j =>
    refine .inr fun e => ?_
    have h1 := hr j e.symm
    have h2 := row_base h j hv
    omega
theorem OwnV.grow {n₀ : Nat} {W W' : World} {v : Value} {vals : List Value} {es : List (List ByteArray)} {row : Option Nat} (h : OwnV n₀ W v vals es) (hg : W.grownBy W' row) (hr : ∀ j, row = some j → j < n₀) : OwnV n₀ W' v vals es :=
  ⟨h.len, row_grow h.row hg hr, fun i u e hu he => ⟨row_grow (h.parts i u e hu he).1 hg hr, (h.parts i u e hu he).2⟩, h.apart⟩
theorem row_same {t z n₀ k : Nat} {W W' : World} {v : Value} {xs : List Value} (h : W.ownsRow n₀ t z v k xs) (hs : ∀ g, v.ownBlock = some g → W'.heap[g]? = W.heap[g]?) : W'.ownsRow n₀ t z v k xs := by
  refine ⟨h.1, ?_⟩
  rcases h.2 with hn | ⟨g, cap, cur, rfl, hb, hgg, rest⟩
  · exact .inl hn
  · exact .inr ⟨g, cap, cur, rfl, hb, (hs g rfl).trans hgg, rest⟩
theorem row_at {t z n₀ k g : Nat} {W : World} {v : Value} {xs : List Value} (h : W.ownsRow n₀ t z v k xs) (hg : v.ownBlock = some g) : n₀ ≤ g ∧ g < W.heap.size ∧ ∃ c, W.heap[g]? = some (.cells c t (0, 0)) := by
  rcases h.2 with ⟨rfl, _⟩ | ⟨g1, cap, cur, rfl, hb, hg1, _⟩
  · simp [Value.ownBlock] at hg
  · have a1 : g1 = g := by simpa [Value.ownBlock] using hg
    subst a1
    exact ⟨hb, (Array.getElem?_eq_some_iff.1 hg1).1, cur, hg1⟩
theorem obj_apart {W : World} {n₀ n₁ e e' z z' k k' : Nat} {v v' : Value} {xs xs' : List Value} (h : W.ownsRow n₀ e z v k xs) (h' : W.ownsRow n₁ e' z' v' k' xs') (hne : e ≠ e') : ∀ g, v.ownBlock = some g → v'.ownBlock ≠ some g := by
  intro g e1 e2
  obtain ⟨_, _, c1, h1⟩ := row_at h e1
  obtain ⟨_, _, c2, h2⟩ := row_at h' e2
  rw [h1] at h2
  simp at h2
  exact hne h2.2
theorem OwnV.same {n₀ : Nat} {W W' : World} {v : Value} {vals : List Value} {es : List (List ByteArray)} (h : OwnV n₀ W v vals es) (hs : ∀ g, n₀ ≤ g → g < W.heap.size → (∃ c t, W.heap[g]? = some (.cells c t (0, 0)) ∧ t ≠ 36) → W'.heap[g]? = W.heap[g]?) : OwnV n₀ W' v vals es := by
  refine ⟨h.len, row_same h.row fun g hg => ?_, fun i u e hu he => ⟨row_same (h.parts i u e hu he).1 fun g hg => ?_, (h.parts i u e hu he).2⟩, h.apart⟩
  · obtain ⟨h1, h2, c, h3⟩ := row_at h.row hg
    exact hs g h1 h2 ⟨c, _, h3, by decide⟩
  · obtain ⟨h1, h2, c, h3⟩ := row_at (h.parts i u e hu he).1 hg
    exact hs g h1 h2 ⟨c, _, h3, by decide⟩
theorem OwnV.grow2 {n₀ n1 k : Nat} {W W' : World} {v lv : Value} {vals xs : List Value} {es : List (List ByteArray)} (h : OwnV n₀ W v vals es) (hg : W.grownBy W' lv.ownBlock) (hl : W.ownsRow n1 36 2 lv k xs) : OwnV n₀ W' v vals es :=
  h.same fun g _ hlt ⟨c, t, hc, ht⟩ => hg.block g hlt (fun e => by
    obtain ⟨_, _, c2, h2⟩ := row_at hl e.symm
    rw [hc] at h2
    simp at h2
    exact ht h2.2)
theorem OwnV.base {n₀ : Nat} {W : World} {v : Value} {vals : List Value} {es : List (List ByteArray)} (h : OwnV n₀ W v vals es) : ∀ x ∈ v :: vals, ∀ b, x.ownBlock = some b → n₀ ≤ b ∧ b < W.heap.size := by
  intro x hx b hb
  rcases List.mem_cons.1 hx with rfl | hx
  · obtain ⟨h1, h2, _⟩ := row_at h.row hb
    exact ⟨h1, h2⟩
  · obtain ⟨i, hi⟩ := List.getElem?_of_mem hx
    have hlt := (List.getElem?_eq_some_iff.1 hi).1
    rw [h.len] at hlt
    obtain ⟨h1, h2, _⟩ := row_at (h.parts i x _ hi (List.getElem?_eq_getElem hlt)).1 hb
    exact ⟨h1, h2⟩
/-- The cells of a list of segments. -/
def cellsL (gs : List Seg) (ps : List (Value × List Value)) : List Value := (gs.zip ps).flatMap fun x => [.string x.1.1, x.2.1]
theorem cellsL_snoc {gs : List Seg} {ps : List (Value × List Value)} (h : ps.length = gs.length) (g : Seg) (p : Value × List Value) : cellsL (gs ++ [g]) (ps ++ [p]) = cellsL gs ps ++ [.string g.1, p.1] := by
  unfold cellsL
  rw [List.zip_append h.symm]
  simp
theorem cellsL_get {gs : List Seg} {ps : List (Value × List Value)} {i : Nat} {g : Seg} {p : Value × List Value} (hg : gs[i]? = some g) (hp : ps[i]? = some p) : (cellsL gs ps)[i * 2]? = some (.string g.1) ∧ (cellsL gs ps)[i * 2 + 1]? = some p.1 := by
  induction gs generalizing ps i with
  | nil => simp at hg
  | cons g1 gs ih =>
    cases ps with
    | nil => simp at hp
    | cons p1 ps =>
      have e : cellsL (g1 :: gs) (p1 :: ps) = .string g1.1 :: p1.1 :: cellsL gs ps := by simp [cellsL]
      rw [e]
      cases i with
      | zero =>
        simp at hg hp
        subst hg hp
        simp
      | succ i =>
        simp at hg hp
        have := ih hg hp
        rw [show (i + 1) * 2 = i * 2 + 1 + 1 by omega]
        simpa using this
/-- Segments in rows of the call's own, no two of which share a block. -/
structure OwnL (n₀ : Nat) (W : World) (v : Value) (ps : List (Value × List Value)) (gs : List Seg) : Prop where
  len : ps.length = gs.length
  row : W.ownsRow n₀ 36 2 v gs.length (cellsL gs ps)
  segs : ∀ (i : Nat) (p : Value × List Value) (g : Seg), ps[i]? = some p → gs[i]? = some g → OwnV n₀ W p.1 p.2 g.2
  sep : ∀ (i j : Nat) (p q : Value × List Value), i < j → ps[i]? = some p → ps[j]? = some q → ∀ x ∈ p.1 :: p.2, ∀ y ∈ q.1 :: q.2, ∀ b, x.ownBlock = some b → y.ownBlock ≠ some b
theorem OwnL.nil (n₀ : Nat) (W : World) : OwnL n₀ W (.slice none 0 0) [] [] := ⟨rfl, World.ownsRow_nil _ _ _ _, fun i p g h => by simp at h, fun i j p q _ h => by simp at h⟩
theorem OwnL.below {n₀ : Nat} {W W' : World} {v : Value} {ps : List (Value × List Value)} {gs : List Seg} (h : OwnL n₀ W v ps gs) (hb : Below W.heap.size W W') : OwnL n₀ W' v ps gs :=
  ⟨h.len, row2_below h.row hb, fun i p g hp hg => (h.segs i p g hp hg).below hb, h.sep⟩
theorem OwnL.mono {n₀ n₁ : Nat} {W : World} {v : Value} {ps : List (Value × List Value)} {gs : List Seg} (h : OwnL n₁ W v ps gs) (hn : n₀ ≤ n₁) : OwnL n₀ W v ps gs := by
  refine ⟨h.len, ⟨h.row.1, ?_⟩, fun i p g hp hg => (h.segs i p g hp hg).mono hn, h.sep⟩
  rcases h.row.2 with h1 | ⟨g, cap, cur, e, hb, rest⟩
  · exact .inl h1
  · exact .inr ⟨g, cap, cur, e, by omega, rest⟩
theorem OwnL.keepB {n₀ : Nat} {W W' : World} {v : Value} {ps : List (Value × List Value)} {gs : List Seg} (h : OwnL n₀ W v ps gs) (hs : ∀ g, n₀ ≤ g → g < W.heap.size → W'.heap[g]? = W.heap[g]?) : OwnL n₀ W' v ps gs :=
  ⟨h.len, row_same h.row fun g hg => hs g (row_at h.row hg).1 (row_at h.row hg).2.1, fun i p g hp hg => (h.segs i p g hp hg).same fun k h1 h2 _ => hs k h1 h2, h.sep⟩
theorem OwnL.set {n₀ B : Nat} {W : World} {v : Value} {ps : List (Value × List Value)} {gs : List Seg} (h : OwnL n₀ W v ps gs) (hB : B < n₀) (i : Nat) (x : Value) : OwnL n₀ (W.setCell ⟨B, i, none⟩ x) v ps gs :=
  h.keepB fun g hg _ => Below.heap_setCell W ⟨B, i, none⟩ x g (show g ≠ B by omega)
theorem OwnL.slice {n₀ : Nat} {W : World} {v : Value} {ps : List (Value × List Value)} {gs : List Seg} (h : OwnL n₀ W v ps gs) : ∃ A C, v = .slice A gs.length C := by
  rcases h.row.2 with ⟨rfl, h0⟩ | ⟨g, cap, cur, rfl, _⟩
  · exact ⟨none, 0, by rw [h0]⟩
  · exact ⟨_, _, rfl⟩
end Go.Proofs.YtphgheojfnlgjaaDoor
