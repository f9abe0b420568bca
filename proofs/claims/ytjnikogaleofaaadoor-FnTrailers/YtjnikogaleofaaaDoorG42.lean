/- Texts of ours put together: IxBd, TrR. -/
import Derived.Test.YtjnikogaleofaaaDoorG39
import Derived.Test.YtjnikogaleofaaaDoorG40
import Derived.Test.YtjnikogaleofaaaDoorG41
import Derived.Test.YtjnikogaleofaaaDoorG31
import Derived.Test.YtjnikogaleofaaaDoorG37
namespace Go.Proofs.YtjnikogaleofaaaDoor
open Go.ChangeShapes Go.WideShapes Go.ChangeAt Go.RowKit
theorem hdS_bd {tag : ByteArray} {ws : List ByteArray} (ht : tag.size = 3) (hl : ws.length ≤ 10) (hw : ∀ t ∈ ws, t.size ≤ 40) : BdX (hdS tag ws).2 ∧ (hdS tag ws).2.length ≤ 10 ∧ (hdS tag ws).1.size = 3 := by
  refine ⟨fun e he => ?_, by simpa [hdS] using hl, ht⟩
  simp only [hdS, List.mem_map] at he
  obtain ⟨t, h1, rfl⟩ := he
  exact ⟨by simp, fun s hs => by simp only [List.mem_cons, List.not_mem_nil, or_false] at hs; rw [hs]; exact hw t h1⟩
theorem msgSegs_bd {m : Msg} (h : msgB m = true) : BdLg (msgSegs m) := by
  obtain ⟨h1, h2, h3, h4⟩ := msgB_facts h
  intro g hg
  simp only [msgSegs, List.mem_cons, List.mem_append, List.not_mem_nil, or_false] at hg
  rcases hg with rfl | hg | rfl
  · exact hdS_bd (by decide) (by simp) (fun t ht => by simp only [List.mem_cons, List.not_mem_nil, or_false] at ht; rw [ht]; exact Nat.le_trans (decS_size (m.num) (by omega) (by omega)) (by decide))
  · obtain ⟨k1, k2, k3⟩ := right_bounds (h4 g hg)
    exact ⟨fun e he => ⟨(k3 e he).2.1, (k3 e he).2.2⟩, k2, k1⟩
  · refine hdS_bd (by decide) (by simp) (fun t ht => ?_)
    simp only [List.mem_cons, List.not_mem_nil, or_false] at ht
    rcases ht with rfl | rfl
    · exact Nat.le_trans (decS_size (m.body.length) (by omega) (by omega)) (by decide)
    · exact Nat.le_trans (decS_size (m.num) (by omega) (by omega)) (by decide)
theorem bunSegs_bd {m : Bun} (h : bunB m = true) : BdLg (bunSegs m) := by
  obtain ⟨i1, i2, i3, i4, i5, i6, i7⟩ := bunB_facts h
  intro g hg
  simp only [bunSegs, List.mem_cons, List.mem_append, List.mem_flatMap, List.not_mem_nil, or_false] at hg
  rcases hg with rfl | ⟨x, hx, hg⟩ | rfl
  · refine hdS_bd (by decide) (by simp) (fun t ht => ?_)
    simp only [List.mem_cons, List.not_mem_nil, or_false] at ht
    rcases ht with rfl | rfl
    · exact Nat.le_trans (decS_size (m.kind) (by omega) (by omega)) (by decide)
    · exact Nat.le_trans (decS_size (m.num) (by omega) (by omega)) (by decide)
  · exact msgSegs_bd (i7 x hx) g hg
  · refine hdS_bd (by decide) (by simp) (fun t ht => ?_)
    simp only [List.mem_cons, List.not_mem_nil, or_false] at ht
    rcases ht with rfl | rfl
    · exact Nat.le_trans (decS_size (m.msgs.length) (by omega) (by omega)) (by decide)
    · exact Nat.le_trans (decS_size (m.num) (by omega) (by omega)) (by decide)
theorem ixSegsR_bd (m : Ixc) : BdLg (ixSegsR m) ∧ (ixSegsR m).length ≤ 2400 := by
  unfold ixSegsR
  cases h : ixB m
  · exact ⟨fun g hg => by simp at hg, by simp⟩
  · obtain ⟨h1, h2, h3, h4, h5, h6, h7⟩ := ixB_facts h
    simp only [cond_true]
    refine ⟨fun g hg => ?_, ?_⟩
    · simp only [ixSegs, List.mem_cons, List.mem_append, List.mem_flatMap, List.not_mem_nil, or_false] at hg
      rcases hg with rfl | ⟨x, hx, hg⟩ | rfl
      · refine hdS_bd (by decide) (by simp) (fun t ht => ?_)
        simp only [List.mem_cons, List.not_mem_nil, or_false] at ht
        rcases ht with rfl | rfl | rfl
        · omega
        · omega
        · exact Nat.le_trans (decS_size (m.num) (by omega) (by omega)) (by decide)
      · exact bunSegs_bd (h7 x hx) g hg
      · refine hdS_bd (by decide) (by simp) (fun t ht => ?_)
        simp only [List.mem_cons, List.not_mem_nil, or_false] at ht
        rcases ht with rfl | rfl
        · exact Nat.le_trans (decS_size (m.buns.length) (by omega) (by omega)) (by decide)
        · exact Nat.le_trans (decS_size (m.num) (by omega) (by omega)) (by decide)
    · have := flat_len2 h7
      simp only [ixSegs, List.length_cons, List.length_append, List.length_nil]
      omega
end Go.Proofs.YtjnikogaleofaaaDoor
namespace Go.Proofs.YtjnikogaleofaaaDoor
open Go.ChangeShapes Go.WideShapes Go.ChangeAt Go.RowKit
theorem cellsL_cut {gs : List Seg} {ps : List (Value × List Value)} (h : ps.length = gs.length) (k : Nat) : cellsL gs ps = cellsL (gs.take k) (ps.take k) ++ cellsL (gs.drop k) (ps.drop k) := by
  rw [← cellsL_app (by rw [List.length_take, List.length_take, h]), List.take_append_drop, List.take_append_drop]
theorem cellsL_takeAt {gs : List Seg} {ps : List (Value × List Value)} (h : ps.length = gs.length) {k : Nat} {j : Nat} {u : Value} (hu : (cellsL (gs.take k) (ps.take k))[j]? = some u) : (cellsL gs ps)[j]? = some u := by
  rw [cellsL_cut h k, List.getElem?_append_left (List.getElem?_eq_some_iff.1 hu).1]
  exact hu
theorem cellsL_dropAt {gs : List Seg} {ps : List (Value × List Value)} (h : ps.length = gs.length) {k : Nat} (hk : k ≤ gs.length) {j : Nat} {u : Value} (hu : (cellsL (gs.drop k) (ps.drop k))[j]? = some u) : (cellsL gs ps)[k * 2 + j]? = some u := by
  have hl : (cellsL (gs.take k) (ps.take k)).length = k * 2 := by
    rw [cellsL_len (by rw [List.length_take, List.length_take, h]), List.length_take]
    omega
  rw [cellsL_cut h k, List.getElem?_append_right (by omega), hl]
  have e : k * 2 + j - k * 2 = j := by omega
  rw [e]
  exact hu
/-- A row of segments whose elements read. -/
theorem rowG_of {N : Nat} {W : World} {v : Value} {ps : List (Value × List Value)} {gs : List Seg} (hr : W.ownsRow N 33 2 v gs.length (cellsL gs ps)) (hl : ps.length = gs.length)
    (hE : ∀ (i : Nat) (p : Value × List Value) (g : Seg), ps[i]? = some p → gs[i]? = some g → RowE W p.1 g.2 ∧ g.1.size ≤ 100) (hn : gs.length ≤ 1048576) : RowG W v gs := by
  have hp : ∀ i, i < gs.length → ∃ p, ps[i]? = some p := fun i hi => ⟨_, List.getElem?_eq_getElem (by rw [hl]; exact hi)⟩
  refine ⟨?_, by omega, fun i g hi => ?_⟩
  · rcases hr.2 with ⟨rfl, h0⟩ | ⟨g, cap, cur, rfl, _⟩
    · exact ⟨none, 0, by rw [h0], fun hn => absurd (List.length_eq_zero_iff.1 h0) hn⟩
    · refine ⟨_, _, rfl, fun _ => ⟨g, 0, rfl, fun i y hi => ?_⟩⟩
      obtain ⟨p, hpi⟩ := hp i (List.getElem?_eq_some_iff.1 hi).1
      obtain ⟨k1, k2⟩ := cellsL_get hi hpi
      have h1 := hr.cells (g := g) rfl _ _ k1
      have h2 := hr.cells (g := g) rfl _ _ k2
      have e1 : ∀ i, (⟨g, 0, none⟩ : Addr).add i = ⟨g, 0 + i, none⟩ := fun i => by unfold Addr.add; split <;> simp_all
      rw [e1] at h1 h2
      exact ⟨h1, _, h2, (hE i p y hpi hi).1⟩
  · obtain ⟨p, hpi⟩ := hp i (List.getElem?_eq_some_iff.1 hi).1
    have := (hE i p g hpi hi).2
    omega
/-- The turned list, its values. -/
def turnP (ps : List (Value × List Value)) (k : Nat) (u : Value) : List (Value × List Value) := ps.take (k + 1) ++ (u, []) :: ps.drop (k + 2)
theorem turn_cells {gs : List Seg} {ps : List (Value × List Value)} (h : ps.length = gs.length) {k : Nat} (t : ByteArray) (es : List (List ByteArray)) (u : Value) :
    cellsL (gs.take (k + 1) ++ (t, es) :: gs.drop (k + 2)) (turnP ps k u) = cellsL (gs.take (k + 1)) (ps.take (k + 1)) ++ [.string t, u] ++ cellsL (gs.drop (k + 2)) (ps.drop (k + 2)) := by
  unfold turnP
  rw [cellsL_app (by rw [List.length_take, List.length_take, h]), List.append_assoc]
  rfl
theorem turn_row {N : Nat} {W : World} {v u : Value} {ps : List (Value × List Value)} {gs : List Seg} {k : Nat} {t : ByteArray} {es : List (List ByteArray)} (h : ps.length = gs.length) (hk : k + 1 < gs.length) (hn : gs.length ≤ 2400)
    (hr : W.ownsRow N 33 2 v gs.length (cellsL (gs.take (k + 1)) (ps.take (k + 1)) ++ [.string t, u] ++ cellsL (gs.drop (k + 2)) (ps.drop (k + 2))))
    (hE : ∀ (i : Nat) (p : Value × List Value) (g : Seg), ps[i]? = some p → gs[i]? = some g → RowE W p.1 g.2 ∧ g.1.size ≤ 100) (hu : RowE W u es) (ht : t.size ≤ 100) : RowG W v (gs.take (k + 1) ++ (t, es) :: gs.drop (k + 2)) := by
  have hl : (gs.take (k + 1) ++ (t, es) :: gs.drop (k + 2)).length = gs.length := by
    rw [List.length_append, List.length_take, List.length_cons, List.length_drop]
    omega
  have hl2 : (turnP ps k u).length = gs.length := by
    unfold turnP
    rw [List.length_append, List.length_take, List.length_cons, List.length_drop]
    omega
  refine rowG_of (ps := turnP ps k u) (by rw [hl, turn_cells h]; exact hr) (by rw [hl, hl2]) (fun i p g hp hg => ?_) (by omega)
  have lt : (gs.take (k + 1)).length = k + 1 := by rw [List.length_take]; omega
  have lp : (ps.take (k + 1)).length = k + 1 := by rw [List.length_take]; omega
  unfold turnP at hp
  rcases Nat.lt_trichotomy i (k + 1) with hi | hi | hi
  · rw [List.getElem?_append_left (by omega), List.getElem?_take_of_lt hi] at hp hg
    exact hE i p g hp hg
  · subst hi
    rw [List.getElem?_append_right (by omega), lp] at hp
    rw [List.getElem?_append_right (by omega), lt] at hg
    simp at hp hg
    subst hp hg
    exact ⟨hu, ht⟩
  · obtain ⟨d, rfl⟩ : ∃ d, i = k + 1 + (d + 1) := ⟨i - (k + 1) - 1, by omega⟩
    rw [List.getElem?_append_right (by omega), lp] at hp
    rw [List.getElem?_append_right (by omega), lt] at hg
    have e : k + 1 + (d + 1) - (k + 1) = d + 1 := by omega
    rw [e, List.getElem?_cons_succ, List.getElem?_drop] at hp hg
    exact hE _ p g hp hg
/-- All of the turned list is within bounds. -/
theorem turn_bd {gs : List Seg} (hb : BdLg gs) (k : Nat) {t : ByteArray} {es : List (List ByteArray)} (ht : t.size ≤ 100) (he : BdE 1048576 es) : ∀ g ∈ gs.take (k + 1) ++ (t, es) :: gs.drop (k + 2), g.1.size ≤ 1048576 ∧ BdE 1048576 g.2 := by
  have key : ∀ g ∈ gs, g.1.size ≤ 1048576 ∧ BdE 1048576 g.2 := fun g hg => by
    obtain ⟨h1, h2, h3⟩ := hb g hg
    refine ⟨by omega, by omega, fun i e hi => ?_⟩
    obtain ⟨h4, h5⟩ := h1 e (List.mem_of_getElem? hi)
    exact ⟨by omega, fun j s hj => Nat.le_trans (h5 s (List.mem_of_getElem? hj)) (by omega)⟩
  intro g hg
  rcases List.mem_append.1 hg with h | h
  · exact key g (List.mem_of_mem_take h)
  · rcases List.mem_cons.1 h with rfl | h
    · exact ⟨by dsimp only; omega, he⟩
    · exact key g (List.mem_of_mem_drop h)
/-- Two elements of one part each. -/
theorem rowE_two {W : World} {P1 P2 : Nat} {v1 : Value} {t s : ByteArray} (h1 : W.heap[P1]? = some (.cells #[.string t] 9)) (h2 : W.heap[P2]? = some (.cells #[.slice (some ⟨P1, 0, none⟩) 1 1, v1] 36)) (hs : RowS W v1 [s]) (ht : t.size ≤ 100) : RowE W (.slice (some ⟨P2, 0, none⟩) 2 2) [[t], [s]] := by
  refine ⟨⟨_, _, rfl, fun _ => ⟨P2, 0, rfl, fun i e hi => ?_⟩⟩, by simp⟩
  rcases i with _ | _ | i
  · simp only [List.getElem?_cons_zero, Option.some.injEq] at hi
    subst hi
    refine ⟨.slice (some ⟨P1, 0, none⟩) 1 1, by rw [cell_of_row _ _ _ _ _ _ h2]; rfl, ⟨_, _, rfl, fun _ => ⟨P1, 0, rfl, fun i e hi => ?_⟩⟩, by simp, fun i e hi => ?_⟩
    · rcases i with _ | i
      · simp only [List.getElem?_cons_zero, Option.some.injEq] at hi
        subst hi
        rw [cell_of_row _ _ _ _ _ _ h1]; rfl
      · simp at hi
    · rcases i with _ | i
      · simp only [List.getElem?_cons_zero, Option.some.injEq] at hi
        subst hi
        omega
      · simp at hi
  · simp only [List.getElem?_cons_succ, List.getElem?_cons_zero, Option.some.injEq] at hi
    subst hi
    exact ⟨v1, by rw [cell_of_row _ _ _ _ _ _ h2]; rfl, hs⟩
  · simp at hi
theorem own_empty {W : World} {N E t s : Nat} (h : W.heap[E]? = some (.cells #[] t)) (hN : N ≤ E) : W.ownsRow N t s (.slice (some ⟨E, 0, none⟩) 0 0) 0 [] := by
  refine ⟨by simp, .inr ⟨E, 0, #[], rfl, hN, h, Nat.le_refl _, Nat.zero_le _, by simp, by simp⟩⟩
theorem cellsL_one {ps : List (Value × List Value)} {gs : List Seg} (h : ∀ p ∈ ps, ∃ A N C, p.1 = .slice A N C) : ∀ u ∈ cellsL gs ps, u.oneCell' = true := by
  intro u hu
  unfold cellsL at hu
  obtain ⟨x, hx, hu⟩ := List.mem_flatMap.1 hu
  simp only [List.mem_cons, List.not_mem_nil, or_false] at hu
  rcases hu with rfl | rfl
  · rfl
  · obtain ⟨A, N, C, e⟩ := h x.2 (List.of_mem_zip hx).2
    rw [e]
    rfl
end Go.Proofs.YtjnikogaleofaaaDoor
