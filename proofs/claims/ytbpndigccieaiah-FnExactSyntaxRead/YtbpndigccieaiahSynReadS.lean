/- Contracts of the model's SyntaxRead case by case, the same cases with the same answers as impl.SyntaxRead's; a text of at most maxLen bytes. -/
import Derived.Test.YtbpndigccieaiahSynRead
namespace Go.Proofs.Ytbpndigccieaiah
open Go.ChangeShapes Go.WideShapes Go.ChangeAt Go.RowKit
theorem ne0 (s : ByteArray) (h : 0 < s.size) : (((s[0]'h).toNat : Int) != (((⟨#[83, 89, 78]⟩ : ByteArray)[0]'(by decide)).toNat : Int)) = !(byt s 0 == 83) := by
  rw [byt_raw s 0 h]
  rfl
theorem ne1 (s : ByteArray) (h : 1 < s.size) : (((s[1]'h).toNat : Int) != (((⟨#[83, 89, 78]⟩ : ByteArray)[1]'(by decide)).toNat : Int)) = !(byt s 1 == 89) := by
  rw [byt_raw s 1 h]
  rfl
theorem ne2 (s : ByteArray) (h : 2 < s.size) : (((s[2]'h).toNat : Int) != (((⟨#[83, 89, 78]⟩ : ByteArray)[2]'(by decide)).toNat : Int)) = !(byt s 2 == 78) := by
  rw [byt_raw s 2 h]
  rfl
set_option maxHeartbeats 400000 in
theorem read_spec_big (s : ByteArray) (w : World) (hs : s.size ≤ maxLen) (h : 20000 < s.size) : Calls Try.prog 24 #[.string s] w fun e w' => e = .returned (.agg #[.int .i64 0, .int .i64 0, .int .i64 0, .int .i64 0, .int .i64 0, .int .i64 2]) ∧ Below w.heap.size w w' := by
  unfold maxLen at hs
  have h' : (20000 : Int) < (s.size : Int) := by omega
  go_enter Try.func24, Try.ntmps24
  go_wp2
  exact bodyPost_ret (v := .agg #[.int .i64 0, .int .i64 0, .int .i64 0, .int .i64 0, .int .i64 0, .int .i64 2]) (by simp [results, Try.results24, go_sem]) rfl ⟨rfl, (Below.refl _ _).alloc (Nat.le_refl _) _⟩
set_option maxHeartbeats 400000 in
theorem read_spec_pre0 (s : ByteArray) (w : World) (hs : s.size ≤ 20000) (hm : 0 < s.size) (e0 : (byt s 0 == 83) = false) : Calls Try.prog 24 #[.string s] w fun e w' => e = .returned (.agg #[.int .i64 0, .int .i64 0, .int .i64 0, .int .i64 0, .int .i64 0, .int .i64 3]) ∧ Below w.heap.size w w' := by
  have h' : (s.size : Int) ≤ 20000 := by omega
  have hm' : (0 : Int) < (s.size : Int) := by omega
  have n0 := ne0 s (by omega)
  rw [e0, show (!false) = true from rfl] at n0
  clear e0
  go_enter Try.func24, Try.ntmps24
  go_wp2
  refine wp_loop_rounds 1 ?_
  rw [rounds_succ]
  go_wp2_with fail
  go_quiet (fail)
  go_wp2_with fail
  exact bodyPost_ret (v := .agg #[.int .i64 0, .int .i64 0, .int .i64 0, .int .i64 0, .int .i64 0, .int .i64 3]) (by simp [results, Try.results24, go_sem]) rfl ⟨rfl, sets6 (below_drewN ((Below.refl _ _).alloc (Nat.le_refl _) _) _) (Nat.le_refl _) _ _ _ _ _ _⟩
set_option maxHeartbeats 400000 in
theorem read_spec_pre1 (s : ByteArray) (w : World) (hs : s.size ≤ 20000) (hm : 1 < s.size) (e0 : (byt s 0 == 83) = true) (e1 : (byt s 1 == 89) = false) : Calls Try.prog 24 #[.string s] w fun e w' => e = .returned (.agg #[.int .i64 0, .int .i64 0, .int .i64 0, .int .i64 0, .int .i64 0, .int .i64 3]) ∧ Below w.heap.size w w' := by
  have h' : (s.size : Int) ≤ 20000 := by omega
  have hm' : (1 : Int) < (s.size : Int) := by omega
  have n0 := ne0 s (by omega)
  rw [e0, show (!true) = false from rfl] at n0
  clear e0
  have n1 := ne1 s (by omega)
  rw [e1, show (!false) = true from rfl] at n1
  clear e1
  go_enter Try.func24, Try.ntmps24
  go_wp2
  refine wp_loop_rounds 2 ?_
  rw [rounds_succ]
  go_wp2_with fail
  go_quiet (fail)
  go_wp2_with fail
  rw [rounds_succ]
  go_wp2_with fail
  go_quiet (fail)
  go_wp2_with fail
  exact bodyPost_ret (v := .agg #[.int .i64 0, .int .i64 0, .int .i64 0, .int .i64 0, .int .i64 0, .int .i64 3]) (by simp [results, Try.results24, go_sem]) rfl ⟨rfl, sets6 (below_drewN ((Below.refl _ _).alloc (Nat.le_refl _) _) _) (Nat.le_refl _) _ _ _ _ _ _⟩
set_option maxHeartbeats 400000 in
theorem read_spec_pre2 (s : ByteArray) (w : World) (hs : s.size ≤ 20000) (hm : 2 < s.size) (e0 : (byt s 0 == 83) = true) (e1 : (byt s 1 == 89) = true) (e2 : (byt s 2 == 78) = false) : Calls Try.prog 24 #[.string s] w fun e w' => e = .returned (.agg #[.int .i64 0, .int .i64 0, .int .i64 0, .int .i64 0, .int .i64 0, .int .i64 3]) ∧ Below w.heap.size w w' := by
  have h' : (s.size : Int) ≤ 20000 := by omega
  have hm' : (2 : Int) < (s.size : Int) := by omega
  have n0 := ne0 s (by omega)
  rw [e0, show (!true) = false from rfl] at n0
  clear e0
  have n1 := ne1 s (by omega)
  rw [e1, show (!true) = false from rfl] at n1
  clear e1
  have n2 := ne2 s (by omega)
  rw [e2, show (!false) = true from rfl] at n2
  clear e2
  go_enter Try.func24, Try.ntmps24
  go_wp2
  refine wp_loop_rounds 3 ?_
  rw [rounds_succ]
  go_wp2_with fail
  go_quiet (fail)
  go_wp2_with fail
  rw [rounds_succ]
  go_wp2_with fail
  go_quiet (fail)
  go_wp2_with fail
  rw [rounds_succ]
  go_wp2_with fail
  go_quiet (fail)
  go_wp2_with fail
  exact bodyPost_ret (v := .agg #[.int .i64 0, .int .i64 0, .int .i64 0, .int .i64 0, .int .i64 0, .int .i64 3]) (by simp [results, Try.results24, go_sem]) rfl ⟨rfl, sets6 (below_drewN ((Below.refl _ _).alloc (Nat.le_refl _) _) _) (Nat.le_refl _) _ _ _ _ _ _⟩
set_option maxHeartbeats 400000 in
theorem read_spec_short0 (s : ByteArray) (w : World) (hs : s.size ≤ 20000) (_hm : 0 ≤ s.size) (hu : s.size ≤ 0)  : Calls Try.prog 24 #[.string s] w fun e w' => e = .returned (.agg #[.int .i64 0, .int .i64 0, .int .i64 0, .int .i64 0, .int .i64 0, .int .i64 4]) ∧ Below w.heap.size w w' := by
  have h' : (s.size : Int) ≤ 20000 := by omega
  have hm' : (0 : Int) ≤ (s.size : Int) := by omega
  have hu' : (s.size : Int) ≤ 0 := by omega
  go_enter Try.func24, Try.ntmps24
  go_wp2
  refine wp_loop_rounds 1 ?_
  rw [rounds_succ]
  go_wp2_with fail
  exact bodyPost_ret (v := .agg #[.int .i64 0, .int .i64 0, .int .i64 0, .int .i64 0, .int .i64 0, .int .i64 4]) (by simp [results, Try.results24, go_sem]) rfl ⟨rfl, (Below.refl _ _).alloc (Nat.le_refl _) _⟩
set_option maxHeartbeats 400000 in
theorem read_spec_short1 (s : ByteArray) (w : World) (hs : s.size ≤ 20000) (hm : 1 ≤ s.size) (hu : s.size ≤ 1) (e0 : (byt s 0 == 83) = true) : Calls Try.prog 24 #[.string s] w fun e w' => e = .returned (.agg #[.int .i64 0, .int .i64 0, .int .i64 0, .int .i64 0, .int .i64 0, .int .i64 4]) ∧ Below w.heap.size w w' := by
  have h' : (s.size : Int) ≤ 20000 := by omega
  have hm' : (1 : Int) ≤ (s.size : Int) := by omega
  have hu' : (s.size : Int) ≤ 1 := by omega
  have n0 := ne0 s (by omega)
  rw [e0, show (!true) = false from rfl] at n0
  clear e0
  go_enter Try.func24, Try.ntmps24
  go_wp2
  refine wp_loop_rounds 2 ?_
  rw [rounds_succ]
  go_wp2_with fail
  go_quiet (fail)
  go_wp2_with fail
  rw [rounds_succ]
  go_wp2_with fail
  exact bodyPost_ret (v := .agg #[.int .i64 0, .int .i64 0, .int .i64 0, .int .i64 0, .int .i64 0, .int .i64 4]) (by simp [results, Try.results24, go_sem]) rfl ⟨rfl, sets6 (below_drewN ((Below.refl _ _).alloc (Nat.le_refl _) _) _) (Nat.le_refl _) _ _ _ _ _ _⟩
set_option maxHeartbeats 400000 in
theorem read_spec_short2 (s : ByteArray) (w : World) (hs : s.size ≤ 20000) (hm : 2 ≤ s.size) (hu : s.size ≤ 2) (e0 : (byt s 0 == 83) = true) (e1 : (byt s 1 == 89) = true) : Calls Try.prog 24 #[.string s] w fun e w' => e = .returned (.agg #[.int .i64 0, .int .i64 0, .int .i64 0, .int .i64 0, .int .i64 0, .int .i64 4]) ∧ Below w.heap.size w w' := by
  have h' : (s.size : Int) ≤ 20000 := by omega
  have hm' : (2 : Int) ≤ (s.size : Int) := by omega
  have hu' : (s.size : Int) ≤ 2 := by omega
  have n0 := ne0 s (by omega)
  rw [e0, show (!true) = false from rfl] at n0
  clear e0
  have n1 := ne1 s (by omega)
  rw [e1, show (!true) = false from rfl] at n1
  clear e1
  go_enter Try.func24, Try.ntmps24
  go_wp2
  refine wp_loop_rounds 3 ?_
  rw [rounds_succ]
  go_wp2_with fail
  go_quiet (fail)
  go_wp2_with fail
  rw [rounds_succ]
  go_wp2_with fail
  go_quiet (fail)
  go_wp2_with fail
  rw [rounds_succ]
  go_wp2_with fail
  exact bodyPost_ret (v := .agg #[.int .i64 0, .int .i64 0, .int .i64 0, .int .i64 0, .int .i64 0, .int .i64 4]) (by simp [results, Try.results24, go_sem]) rfl ⟨rfl, sets6 (below_drewN ((Below.refl _ _).alloc (Nat.le_refl _) _) _) (Nat.le_refl _) _ _ _ _ _ _⟩
set_option maxHeartbeats 400000 in
theorem read_spec_short3 (s : ByteArray) (w : World) (hs : s.size ≤ 20000) (hm : 3 ≤ s.size) (hu : s.size < 7) (e0 : (byt s 0 == 83) = true) (e1 : (byt s 1 == 89) = true) (e2 : (byt s 2 == 78) = true) : Calls Try.prog 24 #[.string s] w fun e w' => e = .returned (.agg #[.int .i64 0, .int .i64 0, .int .i64 0, .int .i64 0, .int .i64 0, .int .i64 4]) ∧ Below w.heap.size w w' := by
  have h' : (s.size : Int) ≤ 20000 := by omega
  have hm' : (3 : Int) ≤ (s.size : Int) := by omega
  have hu' : (s.size : Int) < 7 := by omega
  have n0 := ne0 s (by omega)
  rw [e0, show (!true) = false from rfl] at n0
  clear e0
  have n1 := ne1 s (by omega)
  rw [e1, show (!true) = false from rfl] at n1
  clear e1
  have n2 := ne2 s (by omega)
  rw [e2, show (!true) = false from rfl] at n2
  clear e2
  go_enter Try.func24, Try.ntmps24
  go_wp2
  refine wp_loop_rounds 4 ?_
  rw [rounds_succ]
  go_wp2_with fail
  go_quiet (fail)
  go_wp2_with fail
  rw [rounds_succ]
  go_wp2_with fail
  go_quiet (fail)
  go_wp2_with fail
  rw [rounds_succ]
  go_wp2_with fail
  go_quiet (fail)
  go_wp2_with fail
  rw [rounds_succ]
  go_wp2_with fail
  exact bodyPost_ret (v := .agg #[.int .i64 0, .int .i64 0, .int .i64 0, .int .i64 0, .int .i64 0, .int .i64 4]) (by simp [results, Try.results24, go_sem]) rfl ⟨rfl, sets6 (below_drewN ((Below.refl _ _).alloc (Nat.le_refl _) _) _) (Nat.le_refl _) _ _ _ _ _ _⟩
set_option maxHeartbeats 1000000 in
theorem read_spec_not (s : ByteArray) (w : World) (hs : s.size ≤ 20000) (h7 : 7 ≤ s.size) (e0 : (byt s 0 == 83) = true) (e1 : (byt s 1 == 89) = true) (e2 : (byt s 2 == 78) = true) (hr : rightB (byt s 3) (byt s 4) (byt s 5) (byt s 6) = false) : Calls Try.prog 24 #[.string s] w fun e w' => e = .returned (.agg #[.int .i64 0, .int .i64 0, .int .i64 0, .int .i64 0, .int .i64 0, .int .i64 3]) ∧ Below w.heap.size w w' := by
  have h' : (s.size : Int) ≤ 20000 := by omega
  have h3' : (3 : Int) < (s.size : Int) := by omega
  have h4' : (4 : Int) < (s.size : Int) := by omega
  have h5' : (5 : Int) < (s.size : Int) := by omega
  have h6' : (6 : Int) < (s.size : Int) := by omega
  have h7' : (7 : Int) ≤ (s.size : Int) := by omega
  have n0 := ne0 s (by omega)
  rw [e0, show (!true) = false from rfl] at n0
  clear e0
  have n1 := ne1 s (by omega)
  rw [e1, show (!true) = false from rfl] at n1
  clear e1
  have n2 := ne2 s (by omega)
  rw [e2, show (!true) = false from rfl] at n2
  clear e2
  have Hr : Hid (rightB (byt s 3) (byt s 4) (byt s 5) (byt s 6) = false) := hr
  clear hr
  go_enter Try.func24, Try.ntmps24
  go_wp2
  refine wp_loop_rounds 4 ?_
  rw [rounds_succ]
  go_wp2_with fail
  go_quiet (fail)
  go_wp2_with fail
  rw [rounds_succ]
  go_wp2_with fail
  go_quiet (fail)
  go_wp2_with fail
  rw [rounds_succ]
  go_wp2_with fail
  go_quiet (fail)
  go_wp2_with fail
  rw [rounds_succ]
  go_wp2_with fail
  go_region
  go_wp2_with fail
  simp only [byt_get]
  refine (right_spec _ _ _ _ _).mono ?_
  rintro e w1 ⟨rfl, hb⟩
  rw [Hr.out]
  have hbR : Below (w.heap.size + 1) _ w1 := ((below_drewN (Below.refl (w.heap.size + 1) (w.alloc _)) _).alloc (by simp) _).trans (hb.mono (by simp))
  obtain ⟨c0, c1, c2, c3, c4, c5, hf, hz⟩ := res6 hbR
  obtain ⟨q0, q1, q2, q3, qs⟩ := box4 (hb.mono (Nat.le_of_eq (by simp)))
  simp at q0 q1 q2 q3 qs
  clear hb
  go_wp2
  exact bodyPost_ret (v := .agg #[.int .i64 0, .int .i64 0, .int .i64 0, .int .i64 0, .int .i64 0, .int .i64 3]) (by simp [results, Try.results24, go_sem, c0, c1, c2, c3, c4, c5]) rfl ⟨rfl, sets6 (((Below.refl _ _).alloc (Nat.le_refl _) _).trans (hbR.mono (by omega))) (Nat.le_refl _) _ _ _ _ _ _⟩
set_option maxHeartbeats 1000000 in
theorem read_spec_ok (s : ByteArray) (w : World) (hs : s.size ≤ 20000) (h7 : 7 ≤ s.size) (e0 : (byt s 0 == 83) = true) (e1 : (byt s 1 == 89) = true) (e2 : (byt s 2 == 78) = true) (hr : rightB (byt s 3) (byt s 4) (byt s 5) (byt s 6) = true) : Calls Try.prog 24 #[.string s] w fun e w' => e = .returned (.agg #[.int .i64 (byt s 3), .int .i64 (byt s 4), .int .i64 (byt s 5), .int .i64 (byt s 6), .int .i64 7, .int .i64 0]) ∧ Below w.heap.size w w' := by
  have h' : (s.size : Int) ≤ 20000 := by omega
  have h3' : (3 : Int) < (s.size : Int) := by omega
  have h4' : (4 : Int) < (s.size : Int) := by omega
  have h5' : (5 : Int) < (s.size : Int) := by omega
  have h6' : (6 : Int) < (s.size : Int) := by omega
  have h7' : (7 : Int) ≤ (s.size : Int) := by omega
  have n0 := ne0 s (by omega)
  rw [e0, show (!true) = false from rfl] at n0
  clear e0
  have n1 := ne1 s (by omega)
  rw [e1, show (!true) = false from rfl] at n1
  clear e1
  have n2 := ne2 s (by omega)
  rw [e2, show (!true) = false from rfl] at n2
  clear e2
  have Hr : Hid (rightB (byt s 3) (byt s 4) (byt s 5) (byt s 6) = true) := hr
  clear hr
  go_enter Try.func24, Try.ntmps24
  go_wp2
  refine wp_loop_rounds 4 ?_
  rw [rounds_succ]
  go_wp2_with fail
  go_quiet (fail)
  go_wp2_with fail
  rw [rounds_succ]
  go_wp2_with fail
  go_quiet (fail)
  go_wp2_with fail
  rw [rounds_succ]
  go_wp2_with fail
  go_quiet (fail)
  go_wp2_with fail
  rw [rounds_succ]
  go_wp2_with fail
  go_region
  go_wp2_with fail
  simp only [byt_get]
  refine (right_spec _ _ _ _ _).mono ?_
  rintro e w1 ⟨rfl, hb⟩
  rw [Hr.out]
  have hbR : Below (w.heap.size + 1) _ w1 := ((below_drewN (Below.refl (w.heap.size + 1) (w.alloc _)) _).alloc (by simp) _).trans (hb.mono (by simp))
  obtain ⟨c0, c1, c2, c3, c4, c5, hf, hz⟩ := res6 hbR
  obtain ⟨q0, q1, q2, q3, qs⟩ := box4 (hb.mono (Nat.le_of_eq (by simp)))
  simp at q0 q1 q2 q3 qs
  clear hb
  go_wp2
  exact bodyPost_ret (v := .agg #[.int .i64 (byt s 3), .int .i64 (byt s 4), .int .i64 (byt s 5), .int .i64 (byt s 6), .int .i64 7, .int .i64 0]) (by simp [results, Try.results24, go_sem, c0, c1, c2, c3, c4, c5]) rfl ⟨rfl, sets6 (((Below.refl _ _).alloc (Nat.le_refl _) _).trans (hbR.mono (by omega))) (Nat.le_refl _) _ _ _ _ _ _⟩
end Go.Proofs.Ytbpndigccieaiah
