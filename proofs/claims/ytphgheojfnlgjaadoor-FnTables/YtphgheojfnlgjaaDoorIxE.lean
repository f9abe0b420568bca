/- Lists of segments in rows of the call's own, one behind the other. -/
import Derived.Test.YtphgheojfnlgjaaDoorOwnB
import Derived.Test.YtphgheojfnlgjaaDoorInfoSg
import Derived.Deep.AppendLies
namespace Go.Proofs.YtphgheojfnlgjaaDoor
open Go.ChangeShapes Go.WideShapes Go.ChangeAt Go.RowKit
theorem cellsL_app {gs : List Seg} {ps : List (Value × List Value)} (h : ps.length = gs.length) (hs : List Seg) (qs : List (Value × List Value)) : cellsL (gs ++ hs) (ps ++ qs) = cellsL gs ps ++ cellsL hs qs := by
  unfold cellsL
  rw [List.zip_append h.symm, List.flatMap_append]
theorem cellsL_len {gs : List Seg} {ps : List (Value × List Value)} (h : ps.length = gs.length) : (cellsL gs ps).length = gs.length * 2 := by
  induction gs generalizing ps with
  | nil => simp [cellsL]
  | cons g gs ih =>
    cases ps with
    | nil => simp at h
    | cons p ps =>
      have e : cellsL (g :: gs) (p :: ps) = .string g.1 :: p.1 :: cellsL gs ps := by simp [cellsL]
      rw [e]
      simp at h
      simp [ih h]
      omega
theorem OwnL.one {n : Nat} {W : World} {tag : ByteArray} {u : Value} {vals : List Value} {es : List (List ByteArray)} (h : OwnV n W u vals es) (hn : n ≤ W.heap.size) :
    OwnL n (W.alloc (.cells #[.string tag, u] 36)) (.slice (some ⟨W.heap.size, 0, none⟩) 1 1) [(u, vals)] [(tag, es)] := by
  have hb : Below W.heap.size W (W.alloc (.cells #[.string tag, u] 36)) := (Below.refl _ _).alloc (Nat.le_refl _) _
  refine ⟨rfl, ⟨by simp [cellsL], .inr ⟨W.heap.size, 1, #[.string tag, u], rfl, hn, World.alloc_heap_new W _, Nat.le_refl _, by unfold maxLen; omega, rfl, by simp [cellsL]⟩⟩, fun i p g hp hg => ?_, fun i j p q hij hp hq => ?_⟩
  · rcases i with _ | i
    · simp at hp hg
      subst hp hg
      exact h.below hb
    · simp at hp
  · rcases j with _ | j
    · omega
    · simp at hq
/-- Two lists, one behind the other. -/
theorem OwnL.app {n₀ : Nat} {W W2 w4 : World} {lv lv' mv : Value} {ps qs : List (Value × List Value)} {gs hs : List Seg} (h : OwnL n₀ W lv ps gs) (hn : n₀ ≤ W.heap.size) (hb2 : Below W.heap.size W W2) (h2 : OwnL W.heap.size W2 mv qs hs)
    (hown : w4.ownsRow n₀ 36 2 lv' (gs.length + hs.length) (cellsL gs ps ++ cellsL hs qs)) (hg : W2.grownBy w4 lv.ownBlock) : OwnL n₀ w4 lv' (ps ++ qs) (gs ++ hs) := by
  have h' := h.below hb2
  have hl := h.len
  have hl2 := h2.len
  refine ⟨by simp [hl, hl2], by rw [cellsL_app hl, List.length_append]; exact hown, fun i p g hp hg' => ?_, fun i j p q hij hp hq => ?_⟩
  · rcases Nat.lt_or_ge i ps.length with k | k
    · rw [List.getElem?_append_left k] at hp
      rw [List.getElem?_append_left (by omega)] at hg'
      exact (h'.segs i p g hp hg').grow2 hg h'.row
    · rw [List.getElem?_append_right k] at hp
      rw [List.getElem?_append_right (by omega), ← hl] at hg'
      exact ((h2.segs _ p g hp hg').mono hn).grow2 hg h'.row
  · rcases Nat.lt_or_ge j ps.length with k | k
    · rw [List.getElem?_append_left k] at hq
      rw [List.getElem?_append_left (by omega)] at hp
      exact h.sep i j p q hij hp hq
    · rw [List.getElem?_append_right k] at hq
      rcases Nat.lt_or_ge i ps.length with k' | k'
      · rw [List.getElem?_append_left k'] at hp
        intro x hx y hy b hb hb'
        have hi : i < gs.length := by omega
        have q1 := (h.segs i p _ hp (List.getElem?_eq_getElem hi)).base x hx b hb
        have hjl := (List.getElem?_eq_some_iff.1 hq).1
        have q2 := (h2.segs _ q _ hq (List.getElem?_eq_getElem (show j - ps.length < hs.length by omega))).base y hy b hb'
        omega
      · rw [List.getElem?_append_right k'] at hp
        exact h2.sep (i - ps.length) (j - ps.length) p q (by omega) hp hq
theorem cells_of_own {n : Nat} {W : World} {mv : Value} {qs : List (Value × List Value)} {hs : List Seg} (h : OwnL n W mv qs hs) (hpos : 0 < hs.length) : ∃ ad c, mv = .slice (some ad) hs.length c ∧ ∀ j u, (cellsL hs qs)[j]? = some u → W.cell? (ad.add j) = some u := by
  rcases h.row.2 with ⟨_, h0⟩ | ⟨g, cap, cur, e, _⟩
  · omega
  · subst e
    exact ⟨⟨g, 0, none⟩, cap, rfl, h.row.cells (g := g) rfl⟩
theorem cellsL_oneCell {n : Nat} {W : World} {mv : Value} {qs : List (Value × List Value)} {hs : List Seg} (h : OwnL n W mv qs hs) : ∀ u ∈ cellsL hs qs, u.oneCell' = true := by
  intro u hu
  unfold cellsL at hu
  rw [List.mem_flatMap] at hu
  obtain ⟨⟨g, p⟩, hx, hu⟩ := hu
  simp only [List.mem_cons, List.not_mem_nil, or_false] at hu
  rcases hu with rfl | rfl
  · simp [Value.oneCell']
  · obtain ⟨i, hi⟩ := List.mem_iff_getElem?.1 hx
    rw [List.getElem?_zip_eq_some] at hi
    obtain ⟨A, N, C, e⟩ := row_slice (h.segs i p g hi.2 hi.1).row
    rw [e]
    simp [Value.oneCell']
/-- An append of segments, at the list of a plain region's operations. -/
theorem wpList_app {ops : Array Oper} {rest : List Oper} {o : Oper} {a : Act} {Q : Exit → Act → World → Prop} {n₀ : Nat} {W W2 : World} {lv mv : Value} {ps qs : List (Value × List Value)} {gs hs : List Seg} (hgd : o.guard = none) (s x : Operand)
    (ho : o.op = .call { callee := .builtin .append, args := #[s, x], argTypes := #[23, 23] })
    (hs' : a.eval s = lv) (hx : a.eval x = mv) (h : OwnL n₀ W lv ps gs) (hn : n₀ ≤ W.heap.size) (hb2 : Below W.heap.size W W2) (h2 : OwnL W.heap.size W2 mv qs hs) (hl : gs.length + hs.length ≤ 3000000) (hpos : 0 < hs.length)
    (k : ∀ A C w4, OwnL n₀ w4 (.slice A (gs.length + hs.length) C) (ps ++ qs) (gs ++ hs) → Below n₀ W2 w4 → wpList Tryd.prog ops Q rest (a.put o.dst (.slice A (gs.length + hs.length) C)) w4) : wpList Tryd.prog ops Q (o :: rest) a W2 := by
  obtain ⟨i0, hi, hz0, hz1, hz2⟩ := info_parts infoSg
  obtain ⟨ad, c, e, hc⟩ := cells_of_own h2 hpos
  have h' := h.below hb2
  refine wpList_append_own W2 hgd s x 23 ho n₀ 36 i0 (.agg #[.string ⟨#[]⟩, .slice none 0 0]) 2 40 Tryd.underlying23 hi hz0 hz1 hz2 rfl (by decide) lv gs.length (cellsL gs ps) hs' h'.row ad hs.length c (cellsL hs qs) (by rw [hx, e]) (cellsL_len h2.len) hc (cellsL_oneCell h2) (by unfold maxLen; omega) (by omega) (Nat.le_trans hn hb2.size) ?_
  intro v' w4 hown hgrow _
  obtain ⟨A, C, hv⟩ : ∃ A C, v' = .slice A (gs.length + hs.length) C := by
    rcases hown.2 with ⟨rfl, h0⟩ | ⟨g, cap, cur, rfl, _⟩
    · exact ⟨none, 0, by rw [h0]⟩
    · exact ⟨_, _, rfl⟩
  subst hv
  refine k A C w4 (h.app hn hb2 h2 hown hgrow) ⟨hgrow.os, hgrow.tape, hgrow.output, hgrow.size, fun q hq => hgrow.block q (by have := hb2.size; omega) (row2_ne h'.row hq).symm⟩
end Go.Proofs.YtphgheojfnlgjaaDoor
