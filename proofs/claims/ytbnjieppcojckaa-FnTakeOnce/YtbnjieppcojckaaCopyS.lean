/- Contracts of the model's l07Copy and l01Max. -/
import Derived.Test.YtbnjieppcojckaaAskS
import Derived.Test.YtbnjieppcojckaaTakeP
import Derived.Test.YtbnjieppcojckaaAppSn
import Derived.Laws.AppendOwnNone
namespace Go.Proofs.Ytbnjieppcojckaa
open Go.ChangeShapes Go.WideShapes Go.ChangeAt Go.RowKit
theorem l01Max_any (a b : Int) (w : World) : Calls Try.prog 27 #[.int .i64 a, .int .i64 b] w fun e w' => e = .returned (.int .i64 (max a b)) ∧ w' = w := by
  by_cases h : b < a
  · go_enter Try.func27, Try.ntmps27
    go_wp2
    go_ret
    exact ⟨ret_i64 (by omega), rfl⟩
  · go_enter Try.func27, Try.ntmps27
    go_wp2
    go_ret
    exact ⟨ret_i64 (by omega), rfl⟩
/-- A slice that is nil, or lies somewhere. -/
def Fair (v : Value) : Prop := v = .slice none 0 0 ∨ ∃ x n C, v = .slice (some x) n C
theorem fl_three4 (w : World) (a b c : Obj) : (((w.alloc a).alloc b).alloc c).heap[w.heap.size]? = some a ∧ (((w.alloc a).alloc b).alloc c).heap[w.heap.size + 1]? = some b ∧ (((w.alloc a).alloc b).alloc c).heap[w.heap.size + 2]? = some c := by
  have h := fl_three w a b c
  exact ⟨h.1, h.2.1, h.2.2⟩
set_option maxHeartbeats 4000000 in
theorem l07Copy_any (p : Ptn) (v : Value) (w : World) (h : RPt w v p) (hv : Fair v) (hlen : p.seen.length ≤ 400) : Calls Try.prog 30 #[.agg #[.string p.name, .int .i64 p.low, .int .i64 p.next, v]] w fun e w' => ∃ u, e = .returned (.agg #[.string p.name, .int .i64 p.low, .int .i64 p.next, u]) ∧ Fair u ∧ (∃ b, w.heap.size ≤ b ∧ LSn b w' u p.seen) ∧ Below w.heap.size w w' := by
  obtain ⟨A, C, rfl⟩ := h.ls.val
  obtain ⟨W0, hW0⟩ : ∃ W0, (((w.alloc (.cells #[.string p.name, .int .i64 p.low, .int .i64 p.next, .slice A p.seen.length C] 30)).alloc (.cells #[.string ⟨#[]⟩, .int .i64 0, .int .i64 0, .slice none 0 0] 30)).alloc (.cells #[] 34)) = W0 := ⟨_, rfl⟩
  have hb0 : Below w.heap.size w W0 := by rw [← hW0]; exact (((Below.refl _ _).alloc (Nat.le_refl _) _).alloc (by simp) _).alloc (by simp; omega) _
  have hs0 : W0.heap.size = w.heap.size + 3 := by rw [← hW0]; simp
  have h3 := fl_three4 w (.cells #[.string p.name, .int .i64 p.low, .int .i64 p.next, .slice A p.seen.length C] 30) (.cells #[.string ⟨#[]⟩, .int .i64 0, .int .i64 0, .slice none 0 0] 30) (.cells #[] 34)
  rw [hW0] at h3
  obtain ⟨b1, b2, b3⟩ := h3
  have hown : W0.ownsRow (w.heap.size + 2) 34 3 (.slice (some ⟨w.heap.size + 2, 0, none⟩) 0 0) ([] : List Sn).length (clSns []) := ⟨rfl, .inr ⟨_, 0, #[], rfl, Nat.le_refl _, b3, Nat.le_refl _, by simp [maxLen], rfl, rfl⟩⟩
  have c3 : W0.cell? ⟨w.heap.size, 3, none⟩ = some (.slice A p.seen.length C) := by simp [World.cell?, b1]
  have hrow : RowSn W0 (.slice A p.seen.length C) p.seen := h.ls.below hb0
  have HB : Hid (Below w.heap.size w W0 ∧ W0.heap[w.heap.size]? = some (.cells #[.string p.name, .int .i64 p.low, .int .i64 p.next, .slice A p.seen.length C] 30) ∧ W0.heap[w.heap.size + 1]? = some (.cells #[.string ⟨#[]⟩, .int .i64 0, .int .i64 0, .slice none 0 0] 30)) := ⟨hb0, b1, b2⟩
  clear h hb0 b1 b2 b3
  have hz0 : ∀ (w4 : World) (g : Option Nat), W0.grownBy w4 g → (∀ j, g = some j → w.heap.size + 2 ≤ j) → w4.heap[w.heap.size]? = some (.cells #[.string p.name, .int .i64 p.low, .int .i64 p.next, .slice A p.seen.length C] 30) ∧ w4.heap[w.heap.size + 1]? = some (.cells #[.string ⟨#[]⟩, .int .i64 0, .int .i64 0, .slice none 0 0] 30) ∧ Below w.heap.size w w4 := fun w4 g hg hj => by
    have hne : ∀ k, k < w.heap.size + 2 → some k ≠ g := fun k hk e => by have := hj k e.symm; omega
    exact ⟨(hg.block _ (by omega) (hne _ (by omega))).trans HB.out.2.1, (hg.block _ (by omega) (hne _ (by omega))).trans HB.out.2.2, HB.out.1.trans ⟨hg.os, hg.tape, hg.output, hg.size, fun k hk => hg.block k (by omega) (hne k (by omega))⟩⟩
  have HZ : Hid (∀ (w4 : World) (g : Option Nat), W0.grownBy w4 g → (∀ j, g = some j → w.heap.size + 2 ≤ j) → w4.heap[w.heap.size]? = some (.cells #[.string p.name, .int .i64 p.low, .int .i64 p.next, .slice A p.seen.length C] 30) ∧ w4.heap[w.heap.size + 1]? = some (.cells #[.string ⟨#[]⟩, .int .i64 0, .int .i64 0, .slice none 0 0] 30) ∧ Below w.heap.size w w4) := hz0
  clear hz0
  subst hW0
  obtain ⟨i0, hi, hq0, hq1, hq2⟩ := info_parts infoSnA
  have HI : Hid (Try.prog.info? 34 = some i0) := hi
  clear hi hq0 hq1 hq2
  rcases hv with hv | ⟨x, n, C', hv⟩
  · obtain ⟨name, low, next, rs⟩ := p
    simp only [Value.slice.injEq] at hv
    obtain ⟨rfl, hl0, rfl⟩ := hv
    have hnil : rs = [] := List.eq_nil_of_length_eq_zero hl0
    subst hnil
    dsimp only [List.length_nil] at c3 hrow HB HZ hown ⊢
    go_enter Try.func30, Try.ntmps30
    go_wp2_with (first | (at_builtin; refine wpList_append_own_none rfl _ _ 28 rfl (w.heap.size + 2) 34 i0 3 Try.underlying28 HI.out _ _ _ rfl hown rfl ?_))
    exact bodyPost_ret (v := .agg #[.string name, .int .i64 low, .int .i64 next, .slice (some ⟨w.heap.size + 1 + 1, 0, none⟩) 0 0]) (by simp [results, Try.results30, go_sem]) rfl ⟨_, rfl, .inr ⟨_, _, _, rfl⟩, ⟨w.heap.size, Nat.le_refl _, ⟨_, _, rfl, fun hn => absurd rfl hn⟩, by simp⟩, (((Below.refl _ _).alloc (Nat.le_refl _) _).alloc (by simp) _).alloc (by simp; omega) _⟩
  · simp only [Value.slice.injEq] at hv
    obtain ⟨rfl, rfl, rfl⟩ := hv
    go_enter Try.func30, Try.ntmps30
    go_wp2_with (first | (at_builtin; refine wpList_appsSn rfl _ _ rfl rfl rfl hown hrow (by simp; omega) (by simp) ?_; rintro v4 w4 hown4 hgrow4 ⟨A4, C4, rfl⟩; obtain ⟨b1, b2, bb⟩ := HZ.out w4 _ hgrow4 (fun j hj => by cases hj; exact Nat.le_refl _); have x0 : w4.cell? ⟨w.heap.size, 0, none⟩ = some (.string p.name) := (by simp [World.cell?, b1]); have x1 : w4.cell? ⟨w.heap.size, 1, none⟩ = some (.int .i64 p.low) := (by simp [World.cell?, b1]); have x2 : w4.cell? ⟨w.heap.size, 2, none⟩ = some (.int .i64 p.next) := (by simp [World.cell?, b1]); have x3 : w4.cell? ⟨w.heap.size, 3, none⟩ = some (.slice (some x) p.seen.length C) := (by simp [World.cell?, b1]); have xf : ∀ o, w4.frozen? ⟨w.heap.size, o, none⟩ = false := (fun o => by simp [World.frozen?, b1]); have y0 : w4.cell? ⟨w.heap.size + 1, 0, none⟩ = some (.string ⟨#[]⟩) := (by simp [World.cell?, b2]); have y1 : w4.cell? ⟨w.heap.size + 1, 1, none⟩ = some (.int .i64 0) := (by simp [World.cell?, b2]); have y2 : w4.cell? ⟨w.heap.size + 1, 2, none⟩ = some (.int .i64 0) := (by simp [World.cell?, b2]); have y3 : w4.cell? ⟨w.heap.size + 1, 3, none⟩ = some (.slice none 0 0) := (by simp [World.cell?, b2]); have yf : ∀ o, w4.frozen? ⟨w.heap.size + 1, o, none⟩ = false := (fun o => by simp [World.frozen?, b2]); have H4 : Hid (w4.ownsRow (w.heap.size + 2) 34 3 (.slice A4 ([] ++ p.seen).length C4) ([] ++ p.seen).length (clSns ([] ++ p.seen)) ∧ Below w.heap.size w w4) := ⟨hown4, bb⟩; clear hown4 hgrow4 b1 b2 bb))
    have h4 := H4.out.1
    rw [List.nil_append] at h4
    obtain ⟨b4, hb4, hL4⟩ := LSn.of_owns h4 (by omega)
    refine bodyPost_ret (v := .agg #[.string p.name, .int .i64 p.low, .int .i64 p.next, .slice A4 p.seen.length C4]) (by simp [results, Try.results30, go_sem, y0, y1, y2, y3]) rfl ⟨_, rfl, ?_, ?_, ?_⟩
    · rcases h4.2 with ⟨e, _⟩ | ⟨_, _, _, e, _⟩
      · exact .inl e
      · exact .inr ⟨_, _, _, e⟩
    · refine ⟨b4, by omega, hL4.of_block fun _ => ?_⟩
      rw [Below.heap_setCell _ _ _ _ (show b4 ≠ w.heap.size + 1 by omega), Below.heap_setCell _ _ _ _ (show b4 ≠ w.heap.size + 1 by omega), Below.heap_setCell _ _ _ _ (show b4 ≠ w.heap.size + 1 by omega), Below.heap_setCell _ _ _ _ (show b4 ≠ w.heap.size + 1 by omega), Below.heap_setCell _ _ _ _ (show b4 ≠ w.heap.size by omega)]
    · exact ((((H4.out.2.setCell (Nat.le_refl _) _).setCell (show w.heap.size ≤ w.heap.size + 1 by omega) _).setCell (show w.heap.size ≤ w.heap.size + 1 by omega) _).setCell (show w.heap.size ≤ w.heap.size + 1 by omega) _).setCell (show w.heap.size ≤ w.heap.size + 1 by omega) _
end Go.Proofs.Ytbnjieppcojckaa
