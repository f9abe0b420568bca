/- Contract of impl's window.put. -/
import Derived.Test.YtbnjieppcojckaaRaiseI
import Derived.Deep.RegionHeld3
namespace Go.Proofs.Ytbnjieppcojckaa
open Go.ChangeShapes Go.WideShapes Go.ChangeAt Go.RowKit
set_option maxHeartbeats 4000000 in
theorem put_any (low : Int) (s : Sn) (B b n : Nat) (l : List Sn) (w : World) (hB : w.heap[B]? = some (.cells #[.int .i64 low, .map (some b)] 60)) (h : w.ownsMap Try.prog 2 rdSn b n (mapD l)) (hl : ∀ x ∈ l, low ≤ x.number) (hn : n ≤ 100) (hs : 1 ≤ s.number ∧ s.number ≤ 999999) : Calls Try.prog 35 #[.pointer (some ⟨B, 0, none⟩), .agg #[.int .i64 s.number, .int .i64 s.answer, .int .i64 s.code]] w fun e w' => e = .returned (.tuple #[]) ∧ w'.heap[B]? = some (.cells #[.int .i64 (max low (s.number - 31)), .map (some b)] 60) ∧ w'.ownsMap Try.prog 2 rdSn b (n + 1) (mapD (insSn s ((l.filter fun x => decide (s.number - 31 ≤ x.number)).filter fun x => decide (x.number ≠ s.number)))) ∧ KeepT B b w w' := by
  obtain ⟨num, ans, cod⟩ := s
  dsimp only at hs ⊢
  have hB1 : B < w.heap.size := (Array.getElem?_eq_some_iff.1 hB).1
  have hb1 := h.lt
  have hne : b ≠ B := by
    intro e
    obtain ⟨es, clock, q1, _⟩ := h
    rw [e, hB] at q1
    cases q1
  have hB2 : (w.alloc (.cells #[.int .i64 num, .int .i64 ans, .int .i64 cod] 34)).heap[B]? = some (.cells #[.int .i64 low, .map (some b)] 60) := (((Below.refl _ w).alloc (Nat.le_refl _) _).block B hB1).trans hB
  have h2 : (w.alloc (.cells #[.int .i64 num, .int .i64 ans, .int .i64 cod] 34)).ownsMap Try.prog 2 rdSn b n (mapD l) := h.alloc _
  have HB2 : Hid ((w.alloc (.cells #[.int .i64 num, .int .i64 ans, .int .i64 cod] 34)).heap[B]? = some (.cells #[.int .i64 low, .map (some b)] 60) ∧ (w.alloc (.cells #[.int .i64 num, .int .i64 ans, .int .i64 cod] 34)).ownsMap Try.prog 2 rdSn b n (mapD l) ∧ ∀ x ∈ l, low ≤ x.number) := ⟨hB2, h2, hl⟩
  have HS : Hid ((w.alloc (.cells #[.int .i64 num, .int .i64 ans, .int .i64 cod] 34)).heap[w.heap.size]? = some (.cells #[.int .i64 num, .int .i64 ans, .int .i64 cod] 34)) := World.alloc_heap_new _ _
  have y0 : w.cell? ⟨B, 0, none⟩ = some (.int .i64 low) := by simp [World.cell?, hB]
  have y1 : w.cell? ⟨B, 1, none⟩ = some (.map (some b)) := by simp [World.cell?, hB]
  clear h h2 hB hB2 hl
  go_enter Try.func35, Try.ntmps35
  go_wp2_with fail
  refine (raise_any low (num - 32 + 1) B b n l _ HB2.out.1 HB2.out.2.1 HB2.out.2.2).mono ?_
  rintro e w1 ⟨rfl, kB, ko, kk⟩
  rw [show num - 32 + 1 = num - 31 by omega] at kB ko
  have kS := (kk.block w.heap.size (by simp) (by omega) (by omega)).trans HS.out
  have z0 : w1.cell? ⟨w.heap.size, 0, none⟩ = some (.int .i64 num) := by simp [World.cell?, kS]
  have z1 : w1.cell? ⟨w.heap.size, 1, none⟩ = some (.int .i64 ans) := by simp [World.cell?, kS]
  have z2 : w1.cell? ⟨w.heap.size, 2, none⟩ = some (.int .i64 cod) := by simp [World.cell?, kS]
  have x1 : w1.cell? ⟨B, 1, none⟩ = some (.map (some b)) := by simp [World.cell?, kB]
  have HK : Hid (w1.heap[B]? = some (.cells #[.int .i64 (max low (num - 31)), .map (some b)] 60) ∧ KeepT B b w w1) := ⟨kB, kk.os, kk.tape, kk.output, by have := kk.size; simp at this; omega, fun k hk h1 h2 => (kk.block k (by simp; omega) h1 h2).trans (((Below.refl _ w).alloc (Nat.le_refl _) _).block k hk)⟩
  clear kB kk kS y0 y1
  obtain ⟨w2, hrun, hown2, hgrow2⟩ := (World.ownsMap.drew ko).update i64_keyed Try.underlying58 (by unfold maxLen; omega) (i64_key (n := num) ⟨by omega, by omega⟩) (rdSn_mk ⟨num, ans, cod⟩)
  have HO : Hid (w2.ownsMap Try.prog 2 rdSn b (n + 1) ((mapD (l.filter fun x => decide (num - 31 ≤ x.number))).put (.int .i64 num) (.held ⟨num, ans, cod⟩)) ∧ w1.drew.grownBy w2 (some b)) := ⟨hown2, hgrow2⟩
  have v0 : w2.cell? ⟨w.heap.size, 0, none⟩ = some (.int .i64 num) := hgrow2.cell (w := w1.drew) z0 (by simp; omega)
  have v1 : w2.cell? ⟨w.heap.size, 1, none⟩ = some (.int .i64 ans) := hgrow2.cell (w := w1.drew) z1 (by simp; omega)
  have v2 : w2.cell? ⟨w.heap.size, 2, none⟩ = some (.int .i64 cod) := hgrow2.cell (w := w1.drew) z2 (by simp; omega)
  have v3 : w2.cell? ⟨B, 1, none⟩ = some (.map (some b)) := hgrow2.cell (w := w1.drew) x1 (by simp; omega)
  clear hown2 hgrow2 ko
  simp only [sv] at hrun
  go_wp2
  go_region_held3 (fun W => W.cell? ⟨w.heap.size, 0, none⟩ = some (.int .i64 num) ∧ W.cell? ⟨w.heap.size, 1, none⟩ = some (.int .i64 ans) ∧ W.cell? ⟨w.heap.size, 2, none⟩ = some (.int .i64 cod) ∧ W.cell? ⟨B, 1, none⟩ = some (.map (some b))) (go_keep) (fail)
  obtain ⟨hown2, hgrow2⟩ := HO.out
  have hp := put_map ⟨num, ans, cod⟩ (l.filter fun x => decide (num - 31 ≤ x.number))
  dsimp only at hp
  rw [hp] at hown2
  have hdz : w1.drew.heap.size = w1.heap.size := rfl
  have hB3 := (hgrow2.block B (by have := HK.out.2.size; omega) (by simp; omega)).trans HK.out.1
  have HF : Hid (w2.heap[B]? = some (.cells #[.int .i64 (max low (num - 31)), .map (some b)] 60) ∧ w2.ownsMap Try.prog 2 rdSn b (n + 1) (mapD (insSn ⟨num, ans, cod⟩ ((l.filter fun x => decide (num - 31 ≤ x.number)).filter fun x => decide (x.number ≠ num)))) ∧ KeepT B b w w2) := ⟨hB3, hown2, hgrow2.os.trans HK.out.2.os, hgrow2.tape.trans HK.out.2.tape, hgrow2.output.trans HK.out.2.output, Nat.le_trans HK.out.2.size hgrow2.size, fun k hk h1 h2 => (hgrow2.block k (by have := HK.out.2.size; omega) (by simp; omega)).trans (HK.out.2.block k hk h1 h2)⟩
  clear hown2 hgrow2 hB3 hp z0 z1 z2 x1
  go_wp2
  go_end0
  exact ⟨rfl, HF.out⟩
end Go.Proofs.Ytbnjieppcojckaa
