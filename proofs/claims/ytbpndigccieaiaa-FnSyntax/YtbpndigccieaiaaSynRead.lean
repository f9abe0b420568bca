/- Contracts of impl.SyntaxRead case by case: too long a text, another beginning, too short a text, marks that are not right, and a right syntax; a text of at most maxLen bytes. -/
import Derived.Test.YtbpndigccieaiaaSynText
import Derived.Test.YtbpndigccieaiaaPlain
import Derived.Deep.RegionWith
import Derived.BigRegion
namespace Go.Proofs.Ytbpndigccieaiaa
open Go.ChangeShapes Go.WideShapes Go.ChangeAt Go.RowKit
theorem res6 {w W : World} {t : Nat} {z0 z1 z2 z3 z4 z5 : Value} (hb : Below (w.heap.size + 1) (w.alloc (.cells #[z0, z1, z2, z3, z4, z5] t)) W) :
    W.cell? ⟨w.heap.size, 0, none⟩ = some z0 ∧ W.cell? ⟨w.heap.size, 1, none⟩ = some z1 ∧ W.cell? ⟨w.heap.size, 2, none⟩ = some z2 ∧ W.cell? ⟨w.heap.size, 3, none⟩ = some z3 ∧ W.cell? ⟨w.heap.size, 4, none⟩ = some z4 ∧ W.cell? ⟨w.heap.size, 5, none⟩ = some z5 ∧ (∀ o, W.frozen? ⟨w.heap.size, o, none⟩ = false) ∧ w.heap.size + 1 ≤ W.heap.size :=
  ⟨(hb.cell (p := ⟨w.heap.size, 0, none⟩) (Nat.lt_succ_self _)).trans (by simp [go_sem]), (hb.cell (p := ⟨w.heap.size, 1, none⟩) (Nat.lt_succ_self _)).trans (by simp [go_sem]), (hb.cell (p := ⟨w.heap.size, 2, none⟩) (Nat.lt_succ_self _)).trans (by simp [go_sem]), (hb.cell (p := ⟨w.heap.size, 3, none⟩) (Nat.lt_succ_self _)).trans (by simp [go_sem]), (hb.cell (p := ⟨w.heap.size, 4, none⟩) (Nat.lt_succ_self _)).trans (by simp [go_sem]), (hb.cell (p := ⟨w.heap.size, 5, none⟩) (Nat.lt_succ_self _)).trans (by simp [go_sem]), fun o => (hb.frozen (p := ⟨w.heap.size, o, none⟩) (Nat.lt_succ_self _)).trans (by simp [go_sem]), by have := hb.size; simpa using this⟩
theorem sets6 {B : Nat} {w W : World} (h : Below B w W) {b : Nat} (hb : B ≤ b) (v0 v1 v2 v3 v4 v5 : Value) : Below B w ((((((W.setCell ⟨b, 0, none⟩ v0).setCell ⟨b, 1, none⟩ v1).setCell ⟨b, 2, none⟩ v2).setCell ⟨b, 3, none⟩ v3).setCell ⟨b, 4, none⟩ v4).setCell ⟨b, 5, none⟩ v5) :=
  (((((h.setCell hb _).setCell hb _).setCell hb _).setCell hb _).setCell hb _).setCell hb _
theorem not_of {a b : Bool} (h : a = !b) {c : Bool} (hb : b = c) : a = !c := by rw [h, hb]
set_option maxHeartbeats 400000 in
theorem read_impl_big (s : ByteArray) (w : World) (hs : s.size ≤ maxLen) (h : 20000 < s.size) : Calls Try.prog 12 #[.string s] w fun e w' => e = .returned (.agg #[.int .i64 0, .int .i64 0, .int .i64 0, .int .i64 0, .int .i64 0, .int .i64 2]) ∧ Below w.heap.size w w' := by
  unfold maxLen at hs
  have h' : (20000 : Int) < (s.size : Int) := by omega
  go_enter Try.func12, Try.ntmps12
  go_wp2
  exact bodyPost_ret (v := .agg #[.int .i64 0, .int .i64 0, .int .i64 0, .int .i64 0, .int .i64 0, .int .i64 2]) (by simp [results, Try.results12, go_sem]) rfl ⟨rfl, (Below.refl _ _).alloc (Nat.le_refl _) _⟩
set_option maxHeartbeats 400000 in
theorem read_impl_pre (s : ByteArray) (w : World) (hs : s.size ≤ 20000) (hp : preB s = false) : Calls Try.prog 12 #[.string s] w fun e w' => e = .returned (.agg #[.int .i64 0, .int .i64 0, .int .i64 0, .int .i64 0, .int .i64 0, .int .i64 3]) ∧ Below w.heap.size w w' := by
  have h' : (s.size : Int) ≤ 20000 := by omega
  by_cases h3 : 4 ≤ s.size
  · have h3' : (3 : Int) < (s.size : Int) := by omega
    have hp' := not_of (pre3 s (by omega)) hp
    rw [show (!false) = true from rfl] at hp'
    clear hp
    go_enter Try.func12, Try.ntmps12
    go_wp2
    go_quiet (fail)
    go_wp2
    exact bodyPost_ret (v := .agg #[.int .i64 0, .int .i64 0, .int .i64 0, .int .i64 0, .int .i64 0, .int .i64 3]) (by simp [results, Try.results12, go_sem]) rfl ⟨rfl, sets6 (below_drewN ((Below.refl _ _).alloc (Nat.le_refl _) _) _) (Nat.le_refl _) _ _ _ _ _ _⟩
  · have h3' : (s.size : Int) ≤ 3 := by omega
    have hp' := not_of (pre2 s (by omega)) hp
    rw [show (!false) = true from rfl] at hp'
    clear hp
    go_enter Try.func12, Try.ntmps12
    go_wp2
    go_quiet (fail)
    go_wp2
    exact bodyPost_ret (v := .agg #[.int .i64 0, .int .i64 0, .int .i64 0, .int .i64 0, .int .i64 0, .int .i64 3]) (by simp [results, Try.results12, go_sem]) rfl ⟨rfl, sets6 (below_drewN ((Below.refl _ _).alloc (Nat.le_refl _) _) _) (Nat.le_refl _) _ _ _ _ _ _⟩
set_option maxHeartbeats 400000 in
theorem read_impl_short (s : ByteArray) (w : World) (hs : s.size ≤ 20000) (hp : preB s = true) (h7 : s.size < 7) : Calls Try.prog 12 #[.string s] w fun e w' => e = .returned (.agg #[.int .i64 0, .int .i64 0, .int .i64 0, .int .i64 0, .int .i64 0, .int .i64 4]) ∧ Below w.heap.size w w' := by
  have h' : (s.size : Int) ≤ 20000 := by omega
  have h7' : (s.size : Int) < 7 := by omega
  by_cases h3 : 4 ≤ s.size
  · have h3' : (3 : Int) < (s.size : Int) := by omega
    have hp' := not_of (pre3 s (by omega)) hp
    rw [show (!true) = false from rfl] at hp'
    clear hp
    go_enter Try.func12, Try.ntmps12
    go_wp2
    go_quiet (fail)
    go_wp2
    exact bodyPost_ret (v := .agg #[.int .i64 0, .int .i64 0, .int .i64 0, .int .i64 0, .int .i64 0, .int .i64 4]) (by simp [results, Try.results12, go_sem]) rfl ⟨rfl, sets6 (below_drewN ((Below.refl _ _).alloc (Nat.le_refl _) _) _) (Nat.le_refl _) _ _ _ _ _ _⟩
  · have h3' : (s.size : Int) ≤ 3 := by omega
    have hp' := not_of (pre2 s (by omega)) hp
    rw [show (!true) = false from rfl] at hp'
    clear hp
    go_enter Try.func12, Try.ntmps12
    go_wp2
    go_quiet (fail)
    go_wp2
    exact bodyPost_ret (v := .agg #[.int .i64 0, .int .i64 0, .int .i64 0, .int .i64 0, .int .i64 0, .int .i64 4]) (by simp [results, Try.results12, go_sem]) rfl ⟨rfl, sets6 (below_drewN ((Below.refl _ _).alloc (Nat.le_refl _) _) _) (Nat.le_refl _) _ _ _ _ _ _⟩
set_option maxHeartbeats 1000000 in
theorem read_impl_not (s : ByteArray) (w : World) (hs : s.size ≤ 20000) (h7 : 7 ≤ s.size) (hp : preB s = true) (hr : rightB (byt s 3) (byt s 4) (byt s 5) (byt s 6) = false) : Calls Try.prog 12 #[.string s] w fun e w' => e = .returned (.agg #[.int .i64 0, .int .i64 0, .int .i64 0, .int .i64 0, .int .i64 0, .int .i64 3]) ∧ Below w.heap.size w w' := by
  have h' : (s.size : Int) ≤ 20000 := by omega
  have h7' : (7 : Int) ≤ (s.size : Int) := by omega
  have hp' := not_of (pre3 s (by omega)) hp
  rw [show (!true) = false from rfl] at hp'
  clear hp
  have Hr : Hid (rightB (byt s 3) (byt s 4) (byt s 5) (byt s 6) = false) := hr
  clear hr
  go_enter Try.func12, Try.ntmps12
  go_wp2
  go_quiet (fail)
  go_wp2
  go_region
  go_wp2_with fail
  simp only [byt_get_ext, Nat.add_zero, Nat.reduceAdd]
  refine (right_impl _ _ _ _ _).mono ?_
  rintro e w1 ⟨rfl, hb⟩
  rw [Hr.out]
  have hbR : Below (w.heap.size + 1) _ w1 := ((below_drewN (Below.refl (w.heap.size + 1) (w.alloc _)) _).alloc (by simp) _).trans (hb.mono (by simp))
  obtain ⟨c0, c1, c2, c3, c4, c5, hf, hz⟩ := res6 hbR
  obtain ⟨q0, q1, q2, q3, qs⟩ := box4 (hb.mono (Nat.le_of_eq (by simp)))
  simp at q0 q1 q2 q3 qs
  clear hb
  go_wp2
  exact bodyPost_ret (v := .agg #[.int .i64 0, .int .i64 0, .int .i64 0, .int .i64 0, .int .i64 0, .int .i64 3]) (by simp [results, Try.results12, go_sem, c0, c1, c2, c3, c4, c5]) rfl ⟨rfl, sets6 (((Below.refl _ _).alloc (Nat.le_refl _) _).trans (hbR.mono (by omega))) (Nat.le_refl _) _ _ _ _ _ _⟩
set_option maxHeartbeats 1000000 in
theorem read_impl_ok (s : ByteArray) (w : World) (hs : s.size ≤ 20000) (h7 : 7 ≤ s.size) (hp : preB s = true) (hr : rightB (byt s 3) (byt s 4) (byt s 5) (byt s 6) = true) : Calls Try.prog 12 #[.string s] w fun e w' => e = .returned (.agg #[.int .i64 (byt s 3), .int .i64 (byt s 4), .int .i64 (byt s 5), .int .i64 (byt s 6), .int .i64 7, .int .i64 0]) ∧ Below w.heap.size w w' := by
  have h' : (s.size : Int) ≤ 20000 := by omega
  have h7' : (7 : Int) ≤ (s.size : Int) := by omega
  have hp' := not_of (pre3 s (by omega)) hp
  rw [show (!true) = false from rfl] at hp'
  clear hp
  have Hr : Hid (rightB (byt s 3) (byt s 4) (byt s 5) (byt s 6) = true) := hr
  clear hr
  go_enter Try.func12, Try.ntmps12
  go_wp2
  go_quiet (fail)
  go_wp2
  go_region
  go_wp2_with fail
  simp only [byt_get_ext, Nat.add_zero, Nat.reduceAdd]
  refine (right_impl _ _ _ _ _).mono ?_
  rintro e w1 ⟨rfl, hb⟩
  rw [Hr.out]
  have hbR : Below (w.heap.size + 1) _ w1 := ((below_drewN (Below.refl (w.heap.size + 1) (w.alloc _)) _).alloc (by simp) _).trans (hb.mono (by simp))
  obtain ⟨c0, c1, c2, c3, c4, c5, hf, hz⟩ := res6 hbR
  obtain ⟨q0, q1, q2, q3, qs⟩ := box4 (hb.mono (Nat.le_of_eq (by simp)))
  simp at q0 q1 q2 q3 qs
  clear hb
  go_wp2
  exact bodyPost_ret (v := .agg #[.int .i64 (byt s 3), .int .i64 (byt s 4), .int .i64 (byt s 5), .int .i64 (byt s 6), .int .i64 7, .int .i64 0]) (by simp [results, Try.results12, go_sem, c0, c1, c2, c3, c4, c5]) rfl ⟨rfl, sets6 (((Below.refl _ _).alloc (Nat.le_refl _) _).trans (hbR.mono (by omega))) (Nat.le_refl _) _ _ _ _ _ _⟩
end Go.Proofs.Ytbpndigccieaiaa
