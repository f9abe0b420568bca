/- Texts of ours put together: RsT. -/
import Derived.Test.YtiakkpglnijapaaG28
import Derived.Test.YtiakkpglnijapaaG33
import Derived.Deep.RegionLaw
import Derived.Deep.RegionHeld3
namespace Go.Proofs.Ytiakkpglnijapaa
open Go.ChangeShapes Go.WideShapes Go.ChangeAt Go.RowKit
theorem three_at {W : World} {b : Nat} {x : Int} (h : W.heap[b]? = some (.cells #[.int .i64 (-1), .int .i64 100000, .int .i64 100001] 2)) (x0 : 0 ≤ x) (x1 : x < 3) : ∃ d : Int, W.cell? ⟨b, x.toNat, none⟩ = some (.int .i64 d) := by
  obtain rfl | rfl | rfl : x = 0 ∨ x = 1 ∨ x = 2 := by omega
  · exact ⟨-1, by simp [World.cell?, h]⟩
  · exact ⟨100000, by simp [World.cell?, h]⟩
  · exact ⟨100001, by simp [World.cell?, h]⟩
set_option maxRecDepth 100000 in
set_option maxHeartbeats 8000000 in
theorem drawOutboxTick_any (a : Option Addr) (len cap : Nat) (zs : List Int) (w : World) (hl : len ≤ 1048576) (hr : BytesAt w a len zs) :
    Calls Try.prog 14 #[.slice a len cap] w fun e w' => ∃ (ad : Option Addr) (C : Nat) (rs : List OutR) (d : Int), e = .returned (.tuple #[.slice ad rs.length C, .int .i64 d]) ∧ RowOu w' (.slice ad rs.length C) rs ∧ (∀ g ∈ rs, SmO g) ∧ rs.length ≤ 62 ∧ Below w.heap.size w w' := by
  have HR : Hid (BytesAt w a len zs) := hr
  clear hr
  go_enter Try.func14, Try.ntmps14
  go_wp2_with fail
  refine (source_any a len cap zs _ hl HR.out).mono ?_
  rintro e w1 ⟨rfl, hs1, hb1⟩
  obtain ⟨B, hB⟩ : ∃ B, B = w.heap.size := ⟨_, rfl⟩
  rw [← hB] at hs1
  have H1 : Hid (IsSrc B w1 ∧ Below w.heap.size w w1 ∧ B = w.heap.size) := ⟨hs1, hb1, hB⟩
  clear hs1 hb1 HR hB
  go_upto_region 2 with fail
  rw [← H1.out.2.2]
  go_wp2_with fail
  refine (l12Outbox_any B _ H1.out.1).mono ?_
  rintro e w2 ⟨v, rs, rfl, hq, hl2⟩
  obtain ⟨ad, C, rfl⟩ := hq.row.val
  have H2 : Hid (QOu B w1 w2 (.slice ad rs.length C) rs) := hq
  clear hq
  go_wp2_with fail
  refine (one_any B 12 _ (by omega) (by omega) H2.out.src).mono ?_
  rintro e w3 ⟨on, rfl, s3, k3⟩
  have H3 : Hid (QOu B w1 w3 (.slice ad rs.length C) rs) := H2.out.keep k3 s3
  clear s3 k3 H2
  have HEnd : Hid (∀ W, QOu B w1 W (.slice ad rs.length C) rs → RowOu W (.slice ad rs.length C) rs ∧ (∀ g ∈ rs, SmO g) ∧ rs.length ≤ 62 ∧ Below w.heap.size w W) := fun W h => ⟨h.row, h.sm, hl2, by
    have h1 := H1.out.2.2
    have h2 := H1.out.2.1.size
    exact H1.out.2.1.trans (h.kp.below (by omega) (by omega))⟩
  cases on with
  | true =>
    have hBw : B < w3.heap.size := H3.out.src.lt
    have HAl : Hid (IsSrc B (w3.alloc (.cells #[.int .i64 (-1), .int .i64 100000, .int .i64 100001] 2)).drew) := (H3.out.src.below ((Below.refl _ _).alloc (by omega) _)).below (Below.refl _ _).drew
    have HAg : Hid ((w3.alloc (.cells #[.int .i64 (-1), .int .i64 100000, .int .i64 100001] 2)).drew.heap[w3.heap.size]? = some (.cells #[.int .i64 (-1), .int .i64 100000, .int .i64 100001] 2)) := World.alloc_heap_new w3 (.cells #[.int .i64 (-1), .int .i64 100000, .int .i64 100001] 2)
    have HAq : Hid (QOu B w1 (w3.alloc (.cells #[.int .i64 (-1), .int .i64 100000, .int .i64 100001] 2)).drew (.slice ad rs.length C) rs) := H3.out.keep (Keep.of_below (((Below.refl _ _).alloc (Nat.le_refl _) _).drew)) HAl.out
    go_upto_region 4 with fail
    go_region_law (first | (go_simp; go_at_call 31; refine (n_any B 3 _ (by omega) (by omega) HAl.out).mono ?_; rintro e wa ⟨x, rfl, x0, x1, sa, ka⟩; obtain ⟨d, hd⟩ := three_at ((ka.block w3.heap.size (by simp) (by omega)).trans HAg.out) x0 x1; have HZ : Hid (QOu B w1 wa (.slice ad rs.length C) rs) := HAq.out.keep ka sa; clear sa ka; try dsimp only) | (go_simp; go_at_call 31; refine (n_any B 3 _ (by omega) (by omega) (H3.out.src.below (Below.refl _ _).drew)).mono ?_; rintro e wa ⟨x, rfl, x0, x1, sa, ka⟩; have HZ : Hid (QOu B w1 wa (.slice ad rs.length C) rs) := H3.out.keep ((Keep.of_below (Below.refl _ _).drew).trans ka) sa; obtain ⟨d, hd⟩ := three_at (World.alloc_heap_new wa (.cells #[.int .i64 (-1), .int .i64 100000, .int .i64 100001] 2)) x0 x1; clear sa ka; try dsimp only) | fail)
    all_goals (clear hd)
    all_goals go_wp2
    · exact bodyPost_ret (v := .tuple #[.slice ad rs.length C, .int .i64 d]) (by simp [results, Try.results14, go_sem]) rfl ⟨ad, C, rs, d, rfl, HEnd.out _ HZ.out⟩
    · exact bodyPost_ret (v := .tuple #[.slice ad rs.length C, .int .i64 d]) (by simp [results, Try.results14, go_sem]) rfl ⟨ad, C, rs, d, rfl, HEnd.out _ (HZ.out.keep (Keep.of_below ((Below.refl _ _).alloc (Nat.le_refl _) _)) (HZ.out.src.below ((Below.refl _ _).alloc (by have := HZ.out.src.lt; omega) _)))⟩
  | false =>
    go_wp2_with fail
    refine (n_any B 25 _ (by omega) (by omega) H3.out.src).mono ?_
    rintro e w4 ⟨q, rfl, q0, q1, s4, k4⟩
    have H4 : Hid (QOu B w1 w4 (.slice ad rs.length C) rs) := H3.out.keep k4 s4
    clear s4 k4 H3
    go_wp2
    exact bodyPost_ret (v := .tuple #[.slice ad rs.length C, .int .i64 q]) (by simp [results, Try.results14, go_sem]) rfl ⟨ad, C, rs, q, rfl, HEnd.out _ H4.out⟩
end Go.Proofs.Ytiakkpglnijapaa
