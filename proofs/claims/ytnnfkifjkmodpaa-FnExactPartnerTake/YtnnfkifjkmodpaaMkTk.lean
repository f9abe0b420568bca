/- What PartnerTake tells: compared, marked, held. -/
import Derived.Test.YtnnfkifjkmodpaaTakeP
import Derived.Test.YtnnfkifjkmodpaaMkPt
import Derived.Test.YtnnfkifjkmodpaaEqPt
namespace Go.Proofs.Ytnnfkifjkmodpaa
open Go.ChangeShapes Go.WideShapes Go.ChangeAt Go.RowKit
set_option maxHeartbeats 4000000 in
theorem eqTk_any (t : Tk) (v v' : Value) (w : World) (h : RPt w v t.p) (h' : RPt w v' t.p) : Calls Try.prog 10 #[t.val v, t.val v'] w fun e w' => e = .returned (.bool true) ∧ Below w.heap.size w w' := by
  obtain ⟨A, C, rfl⟩ := h.ls.val
  obtain ⟨A', C', rfl⟩ := h'.ls.val
  obtain ⟨W0, hW0⟩ : ∃ W0, ((w.alloc (.cells #[.string t.p.name, .int .i64 t.p.low, .int .i64 t.p.next, (.slice A t.p.seen.length C), .int .i64 t.kind, .int .i64 t.seen.number, .int .i64 t.seen.answer, .int .i64 t.seen.code, .int .i64 t.code] 32)).alloc (.cells #[.string t.p.name, .int .i64 t.p.low, .int .i64 t.p.next, (.slice A' t.p.seen.length C'), .int .i64 t.kind, .int .i64 t.seen.number, .int .i64 t.seen.answer, .int .i64 t.seen.code, .int .i64 t.code] 32)) = W0 := ⟨_, rfl⟩
  have hB0 : Below w.heap.size w W0 := by rw [← hW0]; exact ((Below.refl _ _).alloc (Nat.le_refl _) _).alloc (by simp) _
  have H : Hid (RPt W0 (.slice A t.p.seen.length C) t.p ∧ RPt W0 (.slice A' t.p.seen.length C') t.p ∧ Below w.heap.size w W0) := ⟨h.below hB0, h'.below hB0, hB0⟩
  have hs0 : W0.heap.size = w.heap.size + 2 := by rw [← hW0]; simp
  have k0 : W0.heap[w.heap.size]? = some (.cells #[.string t.p.name, .int .i64 t.p.low, .int .i64 t.p.next, (.slice A t.p.seen.length C), .int .i64 t.kind, .int .i64 t.seen.number, .int .i64 t.seen.answer, .int .i64 t.seen.code, .int .i64 t.code] 32) := by
    rw [← hW0]
    exact (((Below.refl _ _).alloc (Nat.le_refl _) _).block _ (by simp)).trans (World.alloc_heap_new _ _)
  have k1 : W0.heap[w.heap.size + 1]? = some (.cells #[.string t.p.name, .int .i64 t.p.low, .int .i64 t.p.next, (.slice A' t.p.seen.length C'), .int .i64 t.kind, .int .i64 t.seen.number, .int .i64 t.seen.answer, .int .i64 t.seen.code, .int .i64 t.code] 32) := by
    rw [← hW0]
    exact heap_new2 _ _ _
  have a0 : W0.cell? ⟨w.heap.size, 0, none⟩ = some (.string t.p.name) := by simp [World.cell?, k0]
  have b0 : W0.cell? ⟨w.heap.size + 1, 0, none⟩ = some (.string t.p.name) := by simp [World.cell?, k1]
  have a1 : W0.cell? ⟨w.heap.size, 1, none⟩ = some (.int .i64 t.p.low) := by simp [World.cell?, k0]
  have b1 : W0.cell? ⟨w.heap.size + 1, 1, none⟩ = some (.int .i64 t.p.low) := by simp [World.cell?, k1]
  have a2 : W0.cell? ⟨w.heap.size, 2, none⟩ = some (.int .i64 t.p.next) := by simp [World.cell?, k0]
  have b2 : W0.cell? ⟨w.heap.size + 1, 2, none⟩ = some (.int .i64 t.p.next) := by simp [World.cell?, k1]
  have a3 : W0.cell? ⟨w.heap.size, 3, none⟩ = some (.slice A t.p.seen.length C) := by simp [World.cell?, k0]
  have b3 : W0.cell? ⟨w.heap.size + 1, 3, none⟩ = some (.slice A' t.p.seen.length C') := by simp [World.cell?, k1]
  clear h h'
  unfold Tk.val
  go_enter Try.func10, Try.ntmps10
  go_wp2_with fail
  refine (eqPt_any t.p _ _ _ H.out.1 H.out.2.1).mono ?_
  rintro e w1 ⟨rfl, hb⟩
  have m0 := (hb.block _ (by omega)).trans k0
  have m1 := (hb.block _ (by omega)).trans k1
  have x4 : w1.cell? ⟨w.heap.size, 4, none⟩ = some (.int .i64 t.kind) := by simp [World.cell?, m0]
  have y4 : w1.cell? ⟨w.heap.size + 1, 4, none⟩ = some (.int .i64 t.kind) := by simp [World.cell?, m1]
  have x5 : w1.cell? ⟨w.heap.size, 5, none⟩ = some (.int .i64 t.seen.number) := by simp [World.cell?, m0]
  have y5 : w1.cell? ⟨w.heap.size + 1, 5, none⟩ = some (.int .i64 t.seen.number) := by simp [World.cell?, m1]
  have x6 : w1.cell? ⟨w.heap.size, 6, none⟩ = some (.int .i64 t.seen.answer) := by simp [World.cell?, m0]
  have y6 : w1.cell? ⟨w.heap.size + 1, 6, none⟩ = some (.int .i64 t.seen.answer) := by simp [World.cell?, m1]
  have x7 : w1.cell? ⟨w.heap.size, 7, none⟩ = some (.int .i64 t.seen.code) := by simp [World.cell?, m0]
  have y7 : w1.cell? ⟨w.heap.size + 1, 7, none⟩ = some (.int .i64 t.seen.code) := by simp [World.cell?, m1]
  have x8 : w1.cell? ⟨w.heap.size, 8, none⟩ = some (.int .i64 t.code) := by simp [World.cell?, m0]
  have y8 : w1.cell? ⟨w.heap.size + 1, 8, none⟩ = some (.int .i64 t.code) := by simp [World.cell?, m1]
  have H1 : Hid (Below w.heap.size w w1 ∧ w1.heap[w.heap.size]? = some (.cells #[.string t.p.name, .int .i64 t.p.low, .int .i64 t.p.next, (.slice A t.p.seen.length C), .int .i64 t.kind, .int .i64 t.seen.number, .int .i64 t.seen.answer, .int .i64 t.seen.code, .int .i64 t.code] 32) ∧ w1.heap[w.heap.size + 1]? = some (.cells #[.string t.p.name, .int .i64 t.p.low, .int .i64 t.p.next, (.slice A' t.p.seen.length C'), .int .i64 t.kind, .int .i64 t.seen.number, .int .i64 t.seen.answer, .int .i64 t.seen.code, .int .i64 t.code] 32) ∧ w.heap.size + 2 ≤ w1.heap.size) := ⟨H.out.2.2.trans (hb.mono (by omega)), m0, m1, by have := hb.size; omega⟩
  clear hb m0 m1 k0 k1 hW0 a0 a1 a2 a3 b0 b1 b2 b3
  go_wp2_with fail
  refine (eqSn_any t.seen _).mono ?_
  rintro e w2 ⟨rfl, hb⟩
  have m0 := (hb.block _ (by have := H1.out.2.2.2; omega)).trans H1.out.2.1
  have m1 := (hb.block _ (by have := H1.out.2.2.2; omega)).trans H1.out.2.2.1
  have z0 : w2.cell? ⟨w.heap.size, 8, none⟩ = some (.int .i64 t.code) := by simp [World.cell?, m0]
  have z1 : w2.cell? ⟨w.heap.size + 1, 8, none⟩ = some (.int .i64 t.code) := by simp [World.cell?, m1]
  have H2 : Hid (Below w.heap.size w w2) := H1.out.1.trans (hb.mono H1.out.1.size)
  clear hb m0 m1 x4 y4 x5 y5 x6 y6 x7 y7 x8 y8
  go_wp2
  go_ret
  exact ⟨rfl, H2.out⟩
set_option maxHeartbeats 2000000 in
theorem markTk_any (b : Nat) (v : Value) (t : Tk) (k : Int) (w : World) (h : LSn b w v t.p.seen) (hk : 0 ≤ k ∧ k + (t.p.seen.length * 3 : Nat) ≤ 9000000000000000000) : Calls Try.prog 13 #[t.val v, .int .i64 k] w fun e w' => e = .returned (.int .i64 (k + (t.p.seen.length * 3 : Nat))) ∧ LSn b w' v (mkSns k t.p.seen.length) ∧ Keep b w w' := by
  obtain ⟨A, C, rfl⟩ := h.val
  have b0 : Below w.heap.size w (w.alloc (.cells #[.string t.p.name, .int .i64 t.p.low, .int .i64 t.p.next, (.slice A t.p.seen.length C), .int .i64 t.kind, .int .i64 t.seen.number, .int .i64 t.seen.answer, .int .i64 t.seen.code, .int .i64 t.code] 32)) := (Below.refl _ _).alloc (Nat.le_refl _) _
  have H : Hid (LSn b (w.alloc (.cells #[.string t.p.name, .int .i64 t.p.low, .int .i64 t.p.next, (.slice A t.p.seen.length C), .int .i64 t.kind, .int .i64 t.seen.number, .int .i64 t.seen.answer, .int .i64 t.seen.code, .int .i64 t.code] 32)) (.slice A t.p.seen.length C) t.p.seen ∧ Below w.heap.size w (w.alloc (.cells #[.string t.p.name, .int .i64 t.p.low, .int .i64 t.p.next, (.slice A t.p.seen.length C), .int .i64 t.kind, .int .i64 t.seen.number, .int .i64 t.seen.answer, .int .i64 t.seen.code, .int .i64 t.code] 32))) := ⟨h.below b0, b0⟩
  clear h b0
  unfold Tk.val
  go_enter Try.func13, Try.ntmps13
  go_wp2_with fail
  refine (markPt_any b _ t.p k _ H.out.1 hk).mono ?_
  rintro e w2 ⟨rfl, hl, hkp⟩
  have HB : Hid (LSn b w2 (.slice A t.p.seen.length C) (mkSns k t.p.seen.length) ∧ Keep b w w2) := ⟨hl, (Keep.of_below H.out.2).trans hkp⟩
  clear hl hkp
  go_wp2
  go_ret
  exact ⟨rfl, HB.out.1, HB.out.2⟩
set_option maxHeartbeats 2000000 in
theorem heldTk_any (v : Value) (t : Tk) (n : Nat) (k : Int) (w : World) (h : RowSn w v (mkSns k n)) (hk : 0 ≤ k ∧ k + (n * 3 : Nat) ≤ 9000000000000000000) : Calls Try.prog 14 #[t.val v, .int .i64 k] w fun e w' => e = .returned (.int .i64 (k + (n * 3 : Nat))) ∧ Below w.heap.size w w' := by
  obtain ⟨A, C, hv⟩ := h.val
  rw [mkSns_len] at hv
  subst hv
  have b0 : Below w.heap.size w (w.alloc (.cells #[.string t.p.name, .int .i64 t.p.low, .int .i64 t.p.next, (.slice A n C), .int .i64 t.kind, .int .i64 t.seen.number, .int .i64 t.seen.answer, .int .i64 t.seen.code, .int .i64 t.code] 32)) := (Below.refl _ _).alloc (Nat.le_refl _) _
  have H : Hid (RowSn (w.alloc (.cells #[.string t.p.name, .int .i64 t.p.low, .int .i64 t.p.next, (.slice A n C), .int .i64 t.kind, .int .i64 t.seen.number, .int .i64 t.seen.answer, .int .i64 t.seen.code, .int .i64 t.code] 32)) (.slice A n C) (mkSns k n) ∧ Below w.heap.size w (w.alloc (.cells #[.string t.p.name, .int .i64 t.p.low, .int .i64 t.p.next, (.slice A n C), .int .i64 t.kind, .int .i64 t.seen.number, .int .i64 t.seen.answer, .int .i64 t.seen.code, .int .i64 t.code] 32))) := ⟨h.below b0, b0⟩
  clear h b0
  obtain ⟨m, hm⟩ : ∃ m : Int, k + (n * 3 : Nat) = m := ⟨_, rfl⟩
  have hm0 : ¬ m < 0 := by omega
  have HM : Hid (k + (n * 3 : Nat) = m) := hm
  have HQ := heldPt_any (.slice A n C) t.p.name t.p.low t.p.next n k
  rw [hm] at HQ ⊢
  clear hm
  unfold Tk.val
  go_enter Try.func14, Try.ntmps14
  go_wp2_with fail
  refine (HQ _ H.out.1 (by have := HM.out; omega)).mono ?_
  rintro e w2 ⟨rfl, hb2⟩
  have HB : Hid (Below w.heap.size w w2) := H.out.2.trans (hb2.mono (by simp))
  clear hb2
  go_wp2
  go_ret
  exact ⟨rfl, HB.out⟩
end Go.Proofs.Ytnnfkifjkmodpaa
