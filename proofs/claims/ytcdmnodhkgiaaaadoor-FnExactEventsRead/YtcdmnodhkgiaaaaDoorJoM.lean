/- Comparison, marks and hold of what EventsRead tells. -/
import Derived.Test.YtcdmnodhkgiaaaaDoorMkEv
import Derived.Test.YtcdmnodhkgiaaaaDoorEqEv
namespace Go.Proofs.YtcdmnodhkgiaaaaDoor
open Go.ChangeShapes Go.WideShapes Go.ChangeAt Go.RowKit
theorem jo_two {w : World} {o0 o1 : Obj} : ((w.alloc o0).alloc o1).heap[w.heap.size]? = some o0 ∧ ((w.alloc o0).alloc o1).heap[w.heap.size + 1]? = some o1 := by
  have e : ((w.alloc o0).alloc o1).heap = (w.heap.push o0).push o1 := rfl
  rw [e]
  simp only [Array.getElem?_push, Array.size_push]
  exact ⟨by rw [if_neg (by omega), if_pos trivial], by rw [if_pos trivial]⟩
theorem jo_bx {W : World} {b t : Nat} {x0 x1 x2 : Value} (h : W.heap[b]? = some (.cells #[x0, x1, x2] t)) : W.cell? ⟨b, 0, none⟩ = some x0 ∧ W.cell? ⟨b, 1, none⟩ = some x1 ∧ W.cell? ⟨b, 2, none⟩ = some x2 := by
  refine ⟨?_, ?_, ?_⟩ <;> simp [World.cell?, h]
set_option maxHeartbeats 4000000 in
theorem eqJo_any (v v' : Value) (rs : List EvR) (ln cd : Int) (w : World) (h : RowEv w v rs) (h' : RowEv w v' rs) :
    Calls Tryd.prog 12 #[.agg #[v, .int .i64 ln, .int .i64 cd], .agg #[v', .int .i64 ln, .int .i64 cd]] w fun e w' => e = .returned (.bool true) ∧ Below w.heap.size w w' := by
  obtain ⟨W2, hW2⟩ : ∃ W2, (w.alloc (.cells #[v, .int .i64 ln, .int .i64 cd] 30)).alloc (.cells #[v', .int .i64 ln, .int .i64 cd] 30) = W2 := ⟨_, rfl⟩
  have hb : Below w.heap.size w W2 := by rw [← hW2]; exact ((Below.refl _ _).alloc (Nat.le_refl _) _).alloc (by simp) _
  obtain ⟨x0, x1⟩ : W2.heap[w.heap.size]? = some (.cells #[v, .int .i64 ln, .int .i64 cd] 30) ∧ W2.heap[w.heap.size + 1]? = some (.cells #[v', .int .i64 ln, .int .i64 cd] 30) := by rw [← hW2]; exact jo_two
  have H : Hid (Below w.heap.size w W2 ∧ RowEv W2 v rs ∧ RowEv W2 v' rs ∧ W2.heap[w.heap.size]? = some (.cells #[v, .int .i64 ln, .int .i64 cd] 30) ∧ W2.heap[w.heap.size + 1]? = some (.cells #[v', .int .i64 ln, .int .i64 cd] 30)) := ⟨hb, h.below hb, h'.below hb, x0, x1⟩
  obtain ⟨p0, p1, p2⟩ := jo_bx x0
  obtain ⟨q0, q1, q2⟩ := jo_bx x1
  clear hb h h' x0 x1
  go_enter Tryd.func12, Tryd.ntmps12
  go_wp2_with fail
  refine (eqEvs_any v v' rs _ H.out.2.1 H.out.2.2.1).mono ?_
  rintro e w3 ⟨rfl, hb3⟩
  have x0 := (hb3.block _ (Array.getElem?_eq_some_iff.1 H.out.2.2.2.1).1).trans H.out.2.2.2.1
  have x1 := (hb3.block _ (Array.getElem?_eq_some_iff.1 H.out.2.2.2.2).1).trans H.out.2.2.2.2
  have H3 : Hid (Below w.heap.size w w3) := H.out.1.trans (hb3.mono H.out.1.size)
  clear p0 p1 p2 q0 q1 q2 hb3 hW2
  obtain ⟨p0, p1, p2⟩ := jo_bx x0
  obtain ⟨q0, q1, q2⟩ := jo_bx x1
  clear x0 x1
  go_wp2
  go_ret
  exact ⟨rfl, H3.out⟩
set_option maxHeartbeats 4000000 in
theorem markJo_any (b : Nat) (v : Value) (rs : List EvR) (ln cd : Int) (k : Nat) (w : World) (h : LEv b w v rs) (hk : 0 < k ∧ k + rs.length * 4 < 1000000000000) :
    Calls Tryd.prog 13 #[.agg #[v, .int .i64 ln, .int .i64 cd], .int .i64 (k : Int)] w fun e w' => e = .returned (.int .i64 ((k + rs.length * 4 : Nat) : Int)) ∧ LEv b w' v (mkEvs k rs.length) ∧ Keep b w w' := by
  obtain ⟨W2, hW2⟩ : ∃ W2, w.alloc (.cells #[v, .int .i64 ln, .int .i64 cd] 30) = W2 := ⟨_, rfl⟩
  have hb : Below w.heap.size w W2 := by rw [← hW2]; exact (Below.refl _ _).alloc (Nat.le_refl _) _
  have x0 : W2.heap[w.heap.size]? = some (.cells #[v, .int .i64 ln, .int .i64 cd] 30) := by rw [← hW2]; exact World.alloc_heap_new _ _
  have H : Hid (Keep b w W2 ∧ LEv b W2 v rs) := ⟨Keep.of_below hb, h.below hb⟩
  obtain ⟨p0, p1, p2⟩ := jo_bx x0
  obtain ⟨m, hm⟩ : ∃ m, m = k + rs.length * 4 := ⟨_, rfl⟩
  have Q := markEv_any b v rs k W2 H.out.2 hk
  rw [← hm] at Q ⊢
  clear hb h x0 hm
  go_enter Tryd.func13, Tryd.ntmps13
  go_wp2_with fail
  refine Q.mono ?_
  rintro e w3 ⟨rfl, hl, hkp⟩
  have H3 : Hid (LEv b w3 v (mkEvs k rs.length) ∧ Keep b w w3) := ⟨hl, H.out.1.trans hkp⟩
  clear p0 p1 p2 hl hkp hW2 Q
  go_wp2
  go_ret
  exact ⟨rfl, H3.out⟩
set_option maxHeartbeats 4000000 in
theorem heldJo_any (v : Value) (k n : Nat) (ln cd : Int) (w : World) (h : RowEv w v (mkEvs k n)) (hk : 0 < k ∧ k + n * 4 < 1000000000000) :
    Calls Tryd.prog 14 #[.agg #[v, .int .i64 ln, .int .i64 cd], .int .i64 (k : Int)] w fun e w' => e = .returned (.int .i64 ((k + n * 4 : Nat) : Int)) ∧ Below w.heap.size w w' := by
  obtain ⟨W2, hW2⟩ : ∃ W2, w.alloc (.cells #[v, .int .i64 ln, .int .i64 cd] 30) = W2 := ⟨_, rfl⟩
  have hb : Below w.heap.size w W2 := by rw [← hW2]; exact (Below.refl _ _).alloc (Nat.le_refl _) _
  have x0 : W2.heap[w.heap.size]? = some (.cells #[v, .int .i64 ln, .int .i64 cd] 30) := by rw [← hW2]; exact World.alloc_heap_new _ _
  have H : Hid (Below w.heap.size w W2) := hb
  obtain ⟨p0, p1, p2⟩ := jo_bx x0
  obtain ⟨m, hm⟩ : ∃ m, m = k + n * 4 := ⟨_, rfl⟩
  have Q := heldEv_any v k n W2 (h.below hb) hk
  rw [← hm] at Q ⊢
  have hm0 : ¬ (m : Int) < 0 := by omega
  clear hb h x0 hm
  go_enter Tryd.func14, Tryd.ntmps14
  go_wp2_with fail
  refine Q.mono ?_
  rintro e w3 ⟨rfl, hb3⟩
  have H3 : Hid (Below w.heap.size w w3) := H.out.trans (hb3.mono H.out.size)
  clear p0 p1 p2 hb3 hW2 Q
  go_wp2
  go_ret
  exact ⟨rfl, H3.out⟩
end Go.Proofs.YtcdmnodhkgiaaaaDoor
