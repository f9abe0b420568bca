/- Lists of segments in rows of the call's own: what keeps them, and one segment more. -/
import Derived.Test.YtbdjaohfnbnacaaNext
namespace Go.Proofs.Ytbdjaohfnbnacaa
open Go.ChangeShapes Go.WideShapes Go.ChangeAt Go.RowKit Go.Shelf
theorem row_same {t z n₀ k : Nat} {W W' : World} {v : Value} {xs : List Value} (h : W.ownsRow n₀ t z v k xs) (hs : ∀ g, v.ownBlock = some g → W'.heap[g]? = W.heap[g]?) : W'.ownsRow n₀ t z v k xs := by
  refine ⟨h.1, ?_⟩
  rcases h.2 with hn | ⟨g, cap, cur, rfl, hb, hgg, rest⟩
  · exact .inl hn
  · exact .inr ⟨g, cap, cur, rfl, hb, (hs g rfl).trans hgg, rest⟩
theorem row_at {t z n₀ k g : Nat} {W : World} {v : Value} {xs : List Value} (h : W.ownsRow n₀ t z v k xs) (hg : v.ownBlock = some g) : n₀ ≤ g ∧ g < W.heap.size ∧ ∃ c, W.heap[g]? = some (.cells c t (0, 0)) := by
  rcases h.2 with ⟨rfl, _⟩ | ⟨g1, cap, cur, rfl, hb, hg1, _⟩
  · simp [Value.ownBlock] at hg
  · have a1 : g1 = g := by simpa [Value.ownBlock] using hg
    subst a1
    exact ⟨hb, (Array.getElem?_eq_some_iff.1 hg1).1, cur, hg1⟩
theorem obj_apart {W : World} {n₀ n₁ e e' z z' k k' : Nat} {v v' : Value} {xs xs' : List Value} (h : W.ownsRow n₀ e z v k xs) (h' : W.ownsRow n₁ e' z' v' k' xs') (hne : e ≠ e') : ∀ g, v.ownBlock = some g → v'.ownBlock ≠ some g := by
  intro g e1 e2
  obtain ⟨_, _, c1, h1⟩ := row_at h e1
  obtain ⟨_, _, c2, h2⟩ := row_at h' e2
  rw [h1] at h2
  simp at h2
  exact hne h2.2
theorem OwnV.same {n₀ : Nat} {W W' : World} {v : Value} {vals : List Value} {es : List (List ByteArray)} (h : OwnV n₀ W v vals es) (hs : ∀ g, n₀ ≤ g → g < W.heap.size → (∃ c t, W.heap[g]? = some (.cells c t (0, 0)) ∧ t ≠ 44) → W'.heap[g]? = W.heap[g]?) : OwnV n₀ W' v vals es := by
  refine ⟨h.len, row_same h.row fun g hg => ?_, fun i u e hu he => ⟨row_same (h.parts i u e hu he).1 fun g hg => ?_, (h.parts i u e hu he).2⟩, h.apart⟩
  · obtain ⟨h1, h2, c, h3⟩ := row_at h.row hg
    exact hs g h1 h2 ⟨c, _, h3, by decide⟩
  · obtain ⟨h1, h2, c, h3⟩ := row_at (h.parts i u e hu he).1 hg
    exact hs g h1 h2 ⟨c, _, h3, by decide⟩
theorem OwnV.keep2 {n₀ n1 k R : Nat} {W W' : World} {v lv : Value} {vals xs : List Value} {es : List (List ByteArray)} (h : OwnV n₀ W v vals es) (hk : Keep2 R lv.ownBlock W W') (hR : R < n₀) (hl : W.ownsRow n1 44 2 lv k xs) : OwnV n₀ W' v vals es :=
  h.same fun g hg hlt ⟨c, t, hc, ht⟩ => hk.block g hlt (by omega) (fun e => by
    obtain ⟨_, _, c2, h2⟩ := row_at hl e.symm
    rw [hc] at h2
    simp at h2
    exact ht h2.2)
theorem OwnV.grow2 {n₀ n1 k : Nat} {W W' : World} {v lv : Value} {vals xs : List Value} {es : List (List ByteArray)} (h : OwnV n₀ W v vals es) (hg : W.grownBy W' lv.ownBlock) (hl : W.ownsRow n1 44 2 lv k xs) : OwnV n₀ W' v vals es :=
  h.same fun g _ hlt ⟨c, t, hc, ht⟩ => hg.block g hlt (fun e => by
    obtain ⟨_, _, c2, h2⟩ := row_at hl e.symm
    rw [hc] at h2
    simp at h2
    exact ht h2.2)
theorem OwnV.base {n₀ : Nat} {W : World} {v : Value} {vals : List Value} {es : List (List ByteArray)} (h : OwnV n₀ W v vals es) : ∀ x ∈ v :: vals, ∀ b, x.ownBlock = some b → n₀ ≤ b ∧ b < W.heap.size := by
  intro x hx b hb
  rcases List.mem_cons.1 hx with rfl | hx
  · obtain ⟨h1, h2, _⟩ := row_at h.row hb
    exact ⟨h1, h2⟩
  · obtain ⟨i, hi⟩ := List.getElem?_of_mem hx
    have hlt := (List.getElem?_eq_some_iff.1 hi).1
    rw [h.len] at hlt
    obtain ⟨h1, h2, _⟩ := row_at (h.parts i x _ hi (List.getElem?_eq_getElem hlt)).1 hb
    exact ⟨h1, h2⟩
/-- The cells of a list of segments. -/
def cellsL (gs : List Seg) (ps : List (Value × List Value)) : List Value := (gs.zip ps).flatMap fun x => [.string x.1.1, x.2.1]
theorem cellsL_snoc {gs : List Seg} {ps : List (Value × List Value)} (h : ps.length = gs.length) (g : Seg) (p : Value × List Value) : cellsL (gs ++ [g]) (ps ++ [p]) = cellsL gs ps ++ [.string g.1, p.1] := by
  unfold cellsL
  rw [List.zip_append h.symm]
  simp
theorem cellsL_get {gs : List Seg} {ps : List (Value × List Value)} {i : Nat} {g : Seg} {p : Value × List Value} (hg : gs[i]? = some g) (hp : ps[i]? = some p) : (cellsL gs ps)[i * 2]? = some (.string g.1) ∧ (cellsL gs ps)[i * 2 + 1]? = some p.1 := by
  induction gs generalizing ps i with
  | nil => simp at hg
  | cons g1 gs ih =>
    cases ps with
    | nil => simp at hp
    | cons p1 ps =>
      have e : cellsL (g1 :: gs) (p1 :: ps) = .string g1.1 :: p1.1 :: cellsL gs ps := by simp [cellsL]
      rw [e]
      cases i with
      | zero =>
        simp at hg hp
        subst hg hp
        simp
      | succ i =>
        simp at hg hp
        have := ih hg hp
        rw [show (i + 1) * 2 = i * 2 + 1 + 1 by omega]
        simpa using this
/-- Segments in rows of the call's own, no two of which share a block. -/
structure OwnL (n₀ : Nat) (W : World) (v : Value) (ps : List (Value × List Value)) (gs : List Seg) : Prop where
  len : ps.length = gs.length
  row : W.ownsRow n₀ 44 2 v gs.length (cellsL gs ps)
  segs : ∀ (i : Nat) (p : Value × List Value) (g : Seg), ps[i]? = some p → gs[i]? = some g → OwnV n₀ W p.1 p.2 g.2
  sep : ∀ (i j : Nat) (p q : Value × List Value), i < j → ps[i]? = some p → ps[j]? = some q → ∀ x ∈ p.1 :: p.2, ∀ y ∈ q.1 :: q.2, ∀ b, x.ownBlock = some b → y.ownBlock ≠ some b
theorem OwnL.nil (n₀ : Nat) (W : World) : OwnL n₀ W (.slice none 0 0) [] [] := ⟨rfl, World.ownsRow_nil _ _ _ _, fun i p g h => by simp at h, fun i j p q _ h => by simp at h⟩
theorem OwnL.below {n₀ : Nat} {W W' : World} {v : Value} {ps : List (Value × List Value)} {gs : List Seg} (h : OwnL n₀ W v ps gs) (hb : Below W.heap.size W W') : OwnL n₀ W' v ps gs :=
  ⟨h.len, row2_below h.row hb, fun i p g hp hg => (h.segs i p g hp hg).below hb, h.sep⟩
theorem OwnL.mono {n₀ n₁ : Nat} {W : World} {v : Value} {ps : List (Value × List Value)} {gs : List Seg} (h : OwnL n₁ W v ps gs) (hn : n₀ ≤ n₁) : OwnL n₀ W v ps gs := by
  refine ⟨h.len, ⟨h.row.1, ?_⟩, fun i p g hp hg => (h.segs i p g hp hg).mono hn, h.sep⟩
  rcases h.row.2 with h1 | ⟨g, cap, cur, e, hb, rest⟩
  · exact .inl h1
  · exact .inr ⟨g, cap, cur, e, by omega, rest⟩
theorem OwnL.push {n₀ R : Nat} {W W' : World} {lv lv' u : Value} {vals : List Value} {ps : List (Value × List Value)} {gs : List Seg} {g : Seg} (h : OwnL n₀ W lv ps gs) (hk : Keep2 R lv.ownBlock W W') (hR : R < n₀) (hn : n₀ ≤ W.heap.size)
    (hrow : W'.ownsRow n₀ 44 2 lv' (gs.length + 1) (cellsL gs ps ++ [.string g.1, u])) (hO : OwnV W.heap.size W' u vals g.2) : OwnL n₀ W' lv' (ps ++ [(u, vals)]) (gs ++ [g]) := by
  refine ⟨by simp [h.len], ?_, fun i p y hp hy => ?_, fun i j p q hij hp hq => ?_⟩
  · rw [cellsL_snoc h.len]
    simpa using hrow
  · rcases Nat.lt_or_ge i ps.length with k | k
    · rw [List.getElem?_append_left k] at hp
      rw [List.getElem?_append_left (by rw [← h.len]; exact k)] at hy
      exact (h.segs i p y hp hy).keep2 hk hR h.row
    · have hi : i = ps.length := by
        have := (List.getElem?_eq_some_iff.1 hp).1
        simp at this
        omega
      subst hi
      rw [List.getElem?_append_right (Nat.le_refl _)] at hp
      rw [h.len, List.getElem?_append_right (Nat.le_refl _)] at hy
      simp at hp hy
      subst hp hy
      exact hO.mono hn
  · have hjl := (List.getElem?_eq_some_iff.1 hq).1
    simp at hjl
    rw [List.getElem?_append_left (show i < ps.length by omega)] at hp
    rcases Nat.lt_or_ge j ps.length with k | k
    · rw [List.getElem?_append_left k] at hq
      exact h.sep i j p q hij hp hq
    · obtain rfl : j = ps.length := by omega
      rw [List.getElem?_append_right (Nat.le_refl _)] at hq
      simp at hq
      subst hq
      intro x hx y hy b hb hb'
      have hi : i < gs.length := by rw [← h.len]; omega
      have h1 := (h.segs i p _ hp (List.getElem?_eq_getElem hi)).base x hx b hb
      have h2 := hO.base y hy b hb'
      omega
theorem sgScan_facts {a b c d : Int} : ∀ (L : List ByteArray) (i : Nat) (y : Int) (acc es : List (List ByteArray)), sgScan a b c d L i y acc = .inr es → acc.length = i → i ≤ 10 → BdX acc → BdX es ∧ es.length ≤ 10 := by
  intro L
  induction L with
  | nil =>
    intro i y acc es h hi h10 hX
    simp only [sgScan, Sum.inr.injEq] at h
    subst h
    exact ⟨hX, by omega⟩
  | cons p t ih =>
    intro i y acc es h hi h10 hX
    simp only [sgScan] at h
    split at h
    · cases h
    · next h1 =>
      cases he : elemR a b c d p with
      | inl x => rw [he] at h; cases h
      | inr q =>
        rw [he] at h
        obtain ⟨_, hq4, hq40⟩ := elemR_facts he
        refine ih _ _ _ _ h (by simp [hi]) (by omega) fun e hm => ?_
        rcases List.mem_append.1 hm with k | k
        · exact hX e k
        · simp only [List.mem_cons, List.not_mem_nil, or_false] at k
          rw [k]
          exact ⟨hq4, hq40⟩
theorem segR_facts {a b c d : Int} {s : ByteArray} {g : Seg} (h : segR a b c d s = .inr g) : g.1.size = 3 ∧ BdX g.2 ∧ g.2.length ≤ 10 := by
  unfold segR at h
  simp only at h
  split at h
  · next ht =>
    cases he : sgScan a b c d ((piecesS d b s).drop 1) 0 (((piecesS d b s)[0]?.getD (⟨#[]⟩ : ByteArray)).size + 1) [] with
    | inl x => rw [he] at h; cases h
    | inr es =>
      rw [he] at h
      simp only at h
      split at h
      · cases h
      · simp only [Sum.inr.injEq] at h
        subst h
        have := sgScan_facts _ _ _ _ _ he rfl (by omega) (fun e he => by simp at he)
        refine ⟨?_, this.1, this.2⟩
        unfold tagB at ht
        simp only [Bool.and_eq_true, decide_eq_true_eq] at ht
        exact ht.1
  · cases h
end Go.Proofs.Ytbdjaohfnbnacaa
