/- Contract of the model's DrawPartnerRun: a short name and a list of at most 1001 numbers. -/
import Derived.Test.YtcnkjibcjleleaaNumD
import Derived.Test.YtcnkjibcjleleaaEdge
namespace Go.Proofs.Ytcnkjibcjleleaa
open Go.ChangeShapes Go.WideShapes Go.ChangeAt Go.RowKit
theorem four_cells (w : World) (a b c d : ByteArray) (g : Nat) (hg : g = w.heap.size) : ∀ (i : Nat) (t : ByteArray), [a, b, c, d][i]? = some t → (w.alloc (.cells #[.string a, .string b, .string c, .string d] 9)).cell? ⟨g, i, none⟩ = some (.string t) := by
  subst hg
  intro i t ht
  have h1 := World.alloc_heap_new w (.cells #[.string a, .string b, .string c, .string d] 9)
  have hi := (List.getElem?_eq_some_iff.1 ht).1
  simp at hi
  have hc : i = 0 ∨ i = 1 ∨ i = 2 ∨ i = 3 := by omega
  rcases hc with rfl | rfl | rfl | rfl <;> simp at ht <;> subst ht <;> simp [go_sem]
theorem NI.appBelow {B : Nat} {w W w1 : World} {v : Value} {xs : List Int} {tmp : Obj} (h : NI B w W v xs)
    (hgrow : (W.alloc tmp).grownBy w1 v.ownBlock) : Below w.heap.size W w1 := appN_below (Below.refl _ _) h.kp.size h.row hgrow
/-- A list that is drawn, as the draw's end wants it. -/
structure DR (B : Nat) (w W : World) (v : Value) (xs : List Int) : Prop where
  ni : ∃ u, NI B u W v xs
  bel : Below B w W
  le : B ≤ w.heap.size
theorem DR.keep {B : Nat} {w W W' : World} {v : Value} {xs : List Int} (h : DR B w W v xs) (hk : Keep B W W') (hs : IsSrc B W') : DR B w W' v xs := by
  obtain ⟨u, hu⟩ := h.ni
  have := h.bel.size
  have := h.le
  exact ⟨⟨u, hu.keep hk hs⟩, h.bel.trans (hk.below (Nat.le_refl _) (by omega)), h.le⟩
theorem DR.src {B : Nat} {w W : World} {v : Value} {xs : List Int} (h : DR B w W v xs) : IsSrc B W := by
  obtain ⟨u, hu⟩ := h.ni
  exact hu.src
theorem DR.new {B : Nat} {w W W' : World} {v v' : Value} {xs xs' : List Int} (h : DR B w W v xs) (hN : NI B W W' v' xs') : DR B w W' v' xs' := by
  have := h.bel.size
  have := h.le
  exact ⟨⟨_, hN⟩, h.bel.trans (hN.kp.below (Nat.le_refl _) (by omega)), h.le⟩
theorem DR.row {B : Nat} {w W : World} {v : Value} {xs : List Int} (h : DR B w W v xs) (hl : xs.length ≤ 9223372036854775807) : (∃ ad C, v = .slice (some ad) xs.length C) ∧ RowN W v xs := by
  obtain ⟨u, hu⟩ := h.ni
  obtain ⟨b, _, hb⟩ := LN.of_owns hu.row hl
  exact ⟨hu.nn, hb.row⟩
set_option maxRecDepth 100000 in
set_option maxHeartbeats 4000000 in
theorem drawRun_any (a : Option Addr) (len cap : Nat) (zs : List Int) (w : World) (hl : len ≤ 1048576) (hr : BytesAt w a len zs) :
    Calls Try.prog 5 #[.slice a len cap] w fun e w' => ∃ s v xs, e = .returned (.tuple #[.string s, v]) ∧ s.size ≤ 4 ∧ xs.length ≤ 1001 ∧ (∃ ad C, v = .slice (some ad) xs.length C) ∧ RowN w' v xs ∧ Below w.heap.size w w' := by
  have HR : Hid (BytesAt w a len zs) := hr
  clear hr
  go_enter Try.func5, Try.ntmps5
  go_wp2_with fail
  refine (source_any a len cap zs _ hl HR.out).mono ?_
  rintro e w1 ⟨rfl, hs1, hb1⟩
  clear HR
  have hs1' := hs1
  obtain ⟨_, _, _, _, _, _, size, hS⟩ := hs1'
  have c3 := hS.c3
  have z0 := hS.size0
  have z1 := hS.size1
  clear hS
  have hsz1 := hb1.size
  go_wp2_with fail
  refine (n_any w.heap.size (8 + 3 * size) _ (by omega) (by omega) hs1).mono ?_
  rintro e w2 ⟨q, rfl, q0, q1, hs2, hk2⟩
  have hb2 : Below w.heap.size w w2 := hb1.trans (hk2.below (Nat.le_refl _) hsz1)
  have hsz2 := hb2.size
  clear c3 hs1 hk2 hb1
  go_wp2_with fail
  refine (l07Numbers_z w.heap.size q _ q0 (by omega) hs2).mono ?_
  rintro e w3 ⟨v, xs, rfl, hx, hN⟩
  have h3 : DR w.heap.size w w3 v xs := ⟨⟨_, hN⟩, hb2.trans (hN.kp.below (Nat.le_refl _) hsz2), Nat.le_refl _⟩
  have hx1 : xs.length ≤ 1001 := by omega
  have HW2 : Hid (w.heap.size ≤ w2.heap.size) := hsz2
  clear hs2 hb2 hsz2 q0 q1 z0 z1 hsz1
  go_wp2_with fail
  refine (one_any w.heap.size 20 _ (by omega) (by omega) h3.src).mono ?_
  rintro e w4 ⟨b4, rfl, hs4, hk4⟩
  have h4 := h3.keep hk4 hs4
  have n4 := hN.keep hk4 hs4
  clear hs4 hk4 h3 hN
  cases b4
  · clear n4
    go_wp2_with fail
    refine (one_any w.heap.size 50 _ (by omega) (by omega) h4.src).mono ?_
    rintro e w6 ⟨b6, rfl, hs6, hk6⟩
    have h6 := h4.keep hk6 hs6
    clear hs6 hk6 h4
    cases b6
    · have hltB := h6.src.lt
      go_wp2_with fail
      refine (pick_any w.heap.size _ 4 4 [⟨#[65, 67, 77, 69]⟩, ⟨#[65, 67, 77, 69]⟩, ⟨#[65, 67, 77, 69]⟩, ⟨#[97]⟩] _ (by omega) (by omega) rfl (by omega) (four_cells _ _ _ _ _ _ rfl) (h6.src.below ((Below.refl _ _).alloc (by omega) _))).mono ?_
      rintro e w9 ⟨s, rfl, hs, hs9, hk9⟩
      have h9 := h6.keep (((Keep.refl _ _).alloc _).trans hk9) hs9
      obtain ⟨hv, hr⟩ := h9.row (by omega)
      have hsz : s.size ≤ 4 := by
        simp only [List.mem_cons, List.not_mem_nil, or_false] at hs
        rcases hs with rfl | rfl | rfl | rfl <;> decide
      have HF : Hid (s.size ≤ 4 ∧ (xs).length ≤ 1001 ∧ (∃ ad C, _ = Value.slice (some ad) (xs).length C) ∧ RowN w9 _ (xs) ∧ Below w.heap.size w w9) := ⟨hsz, by assumption, hv, hr, h9.bel⟩
      clear hs hs9 hk9 h9 hv hr hsz h6
      go_wp2
      exact bodyPost_ret (v := .tuple #[.string s, v]) (by simp [results, Try.results5, go_sem]) rfl ⟨s, _, xs, rfl, HF.out⟩
    · go_wp2_with fail
      refine (n_any w.heap.size 3 _ (by omega) (by omega) h6.src).mono ?_
      rintro e w7 ⟨p, rfl, p0, p1, hs7, hk7⟩
      have h7 := h6.keep hk7 hs7
      clear hs7 hk7 h6
      go_wp2_with fail
      refine (l07Numbers_z w.heap.size (399 + p) _ (by omega) (by omega) h7.src).mono ?_
      rintro e w8 ⟨v8, ys, rfl, hy, hN8⟩
      have h8 := h7.new hN8
      have hx9 : ys.length ≤ 1001 := by omega
      clear h7 hN8
      have hltB := h8.src.lt
      go_wp2_with fail
      refine (pick_any w.heap.size _ 4 4 [⟨#[65, 67, 77, 69]⟩, ⟨#[65, 67, 77, 69]⟩, ⟨#[65, 67, 77, 69]⟩, ⟨#[97]⟩] _ (by omega) (by omega) rfl (by omega) (four_cells _ _ _ _ _ _ rfl) (h8.src.below ((Below.refl _ _).alloc (by omega) _))).mono ?_
      rintro e w9 ⟨s, rfl, hs, hs9, hk9⟩
      have h9 := h8.keep (((Keep.refl _ _).alloc _).trans hk9) hs9
      obtain ⟨hv, hr⟩ := h9.row (by omega)
      have hsz : s.size ≤ 4 := by
        simp only [List.mem_cons, List.not_mem_nil, or_false] at hs
        rcases hs with rfl | rfl | rfl | rfl <;> decide
      have HF : Hid (s.size ≤ 4 ∧ (ys).length ≤ 1001 ∧ (∃ ad C, _ = Value.slice (some ad) (ys).length C) ∧ RowN w9 _ (ys) ∧ Below w.heap.size w w9) := ⟨hsz, by assumption, hv, hr, h9.bel⟩
      clear hs hs9 hk9 h9 hv hr hsz h8
      go_wp2
      exact bodyPost_ret (v := .tuple #[.string s, v8]) (by simp [results, Try.results5, go_sem]) rfl ⟨s, _, ys, rfl, HF.out⟩
  · go_wp2_with fail
    refine (edge_any w.heap.size _ h4.src).mono ?_
    rintro e w5 ⟨z, rfl, hs5, hk5⟩
    have h5 := h4.keep hk5 hs5
    have n5 := n4.keep hk5 hs5
    clear hs5 hk5 h4 n4
    have tok1 : True := trivial
    go_wp2_with (at_builtin; have _t := tok1; refine wpList_appN (z := z) (zs := xs) (base := w2.heap.size) rfl _ _ rfl rfl rfl (n5.row.alloc _) (cell_newN _ _) (by omega) (by have h9 := n5.kp.size; simp only [World.size_alloc]; omega) ?_; rintro v5 w5b hown5 hgrow5 _; have n5b := n5.app hown5 hgrow5 (by simp); have h5b : DR w.heap.size w w5b v5 (xs ++ [z]) := ⟨⟨_, n5b⟩, h5.bel.trans ((n5.appBelow hgrow5).mono HW2.out), Nat.le_refl _⟩; clear tok1 hown5 hgrow5)
    have hx5 : (xs ++ [z]).length ≤ 1001 := by simp; omega
    clear n5 n5b h5
    refine (one_any w.heap.size 50 _ (by omega) (by omega) h5b.src).mono ?_
    rintro e w6 ⟨b6, rfl, hs6, hk6⟩
    have h6 := h5b.keep hk6 hs6
    clear hs6 hk6 h5b
    cases b6
    · have hltB := h6.src.lt
      go_wp2_with fail
      refine (pick_any w.heap.size _ 4 4 [⟨#[65, 67, 77, 69]⟩, ⟨#[65, 67, 77, 69]⟩, ⟨#[65, 67, 77, 69]⟩, ⟨#[97]⟩] _ (by omega) (by omega) rfl (by omega) (four_cells _ _ _ _ _ _ rfl) (h6.src.below ((Below.refl _ _).alloc (by omega) _))).mono ?_
      rintro e w9 ⟨s, rfl, hs, hs9, hk9⟩
      have h9 := h6.keep (((Keep.refl _ _).alloc _).trans hk9) hs9
      obtain ⟨hv, hr⟩ := h9.row (by omega)
      have hsz : s.size ≤ 4 := by
        simp only [List.mem_cons, List.not_mem_nil, or_false] at hs
        rcases hs with rfl | rfl | rfl | rfl <;> decide
      have HF : Hid (s.size ≤ 4 ∧ (xs ++ [z]).length ≤ 1001 ∧ (∃ ad C, _ = Value.slice (some ad) (xs ++ [z]).length C) ∧ RowN w9 _ (xs ++ [z]) ∧ Below w.heap.size w w9) := ⟨hsz, by assumption, hv, hr, h9.bel⟩
      clear hs hs9 hk9 h9 hv hr hsz h6
      go_wp2
      exact bodyPost_ret (v := .tuple #[.string s, v5]) (by simp [results, Try.results5, go_sem]) rfl ⟨s, _, (xs ++ [z]), rfl, HF.out⟩
    · go_wp2_with fail
      refine (n_any w.heap.size 3 _ (by omega) (by omega) h6.src).mono ?_
      rintro e w7 ⟨p, rfl, p0, p1, hs7, hk7⟩
      have h7 := h6.keep hk7 hs7
      clear hs7 hk7 h6
      go_wp2_with fail
      refine (l07Numbers_z w.heap.size (399 + p) _ (by omega) (by omega) h7.src).mono ?_
      rintro e w8 ⟨v8, ys, rfl, hy, hN8⟩
      have h8 := h7.new hN8
      have hx9 : ys.length ≤ 1001 := by omega
      clear h7 hN8
      have hltB := h8.src.lt
      go_wp2_with fail
      refine (pick_any w.heap.size _ 4 4 [⟨#[65, 67, 77, 69]⟩, ⟨#[65, 67, 77, 69]⟩, ⟨#[65, 67, 77, 69]⟩, ⟨#[97]⟩] _ (by omega) (by omega) rfl (by omega) (four_cells _ _ _ _ _ _ rfl) (h8.src.below ((Below.refl _ _).alloc (by omega) _))).mono ?_
      rintro e w9 ⟨s, rfl, hs, hs9, hk9⟩
      have h9 := h8.keep (((Keep.refl _ _).alloc _).trans hk9) hs9
      obtain ⟨hv, hr⟩ := h9.row (by omega)
      have hsz : s.size ≤ 4 := by
        simp only [List.mem_cons, List.not_mem_nil, or_false] at hs
        rcases hs with rfl | rfl | rfl | rfl <;> decide
      have HF : Hid (s.size ≤ 4 ∧ (ys).length ≤ 1001 ∧ (∃ ad C, _ = Value.slice (some ad) (ys).length C) ∧ RowN w9 _ (ys) ∧ Below w.heap.size w w9) := ⟨hsz, by assumption, hv, hr, h9.bel⟩
      clear hs hs9 hk9 h9 hv hr hsz h8
      go_wp2
      exact bodyPost_ret (v := .tuple #[.string s, v8]) (by simp [results, Try.results5, go_sem]) rfl ⟨s, _, ys, rfl, HF.out⟩
end Go.Proofs.Ytcnkjibcjleleaa
