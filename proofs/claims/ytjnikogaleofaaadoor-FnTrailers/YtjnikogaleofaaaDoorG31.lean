/- Texts of ours put together: IxMs, RbG. -/
import Derived.Test.YtjnikogaleofaaaDoorG24
import Derived.Test.YtjnikogaleofaaaDoorG12
import Derived.Deep.RegionHeld3
namespace Go.Proofs.YtjnikogaleofaaaDoor
open Go.ChangeShapes Go.WideShapes Go.ChangeAt Go.RowKit
set_option maxHeartbeats 1000000 in
theorem mayStand_any (tag : ByteArray) (v : Value) (es : List (List ByteArray)) (w : World) (h : RowE w v es) (hE : BdE 1048576 es) : Calls Tryd.prog 51 #[.agg #[.string tag, v]] w fun e w' => e = .returned (.bool (bodyB (tag, es))) ∧ Below w.heap.size w w' := by
  obtain ⟨A, C, rfl⟩ := h.val
  have b0 : Below w.heap.size w (w.alloc (.cells #[.string tag, .slice A es.length C] 33)) := (Below.refl _ _).alloc (Nat.le_refl _) _
  by_cases ho : ownT tag = true
  · have HO : Hid (ownT tag = true) := ho
    unfold ownT at ho
    simp only [Bool.or_eq_true, decide_eq_true_eq] at ho
    rcases ho with rfl | rfl | rfl | rfl | rfl | rfl
    all_goals
      go_enter Tryd.func51, Tryd.ntmps51
      go_wp2
      go_ret
      exact ⟨ret_bool (by simp [bodyB, HO.out]), b0⟩
  · simp only [Bool.not_eq_true] at ho
    have HO : Hid (ownT tag = false) := ho
    unfold ownT at ho
    simp only [Bool.or_eq_false_iff, decide_eq_false_iff_not] at ho
    obtain ⟨q1, q2, q3, q4, q5, q6⟩ := ho
    obtain ⟨a1, b1, c1⟩ := toList_neq3 q1
    obtain ⟨a2, b2, c2⟩ := toList_neq3 q2
    obtain ⟨a3, b3, c3⟩ := toList_neq3 q3
    obtain ⟨a4, b4, c4⟩ := toList_neq3 q4
    obtain ⟨a5, b5, c5⟩ := toList_neq3 q5
    obtain ⟨a6, b6, c6⟩ := toList_neq3 q6
    have HR : Hid (RowE (w.alloc (.cells #[.string tag, .slice A es.length C] 33)) (.slice A es.length C) es) := h.below b0
    clear h q1 q2 q3 q4 q5 q6
    go_enter Tryd.func51, Tryd.ntmps51
    go_wp2_with fail
    refine (right_seg_impl tag _ es _ HR.out hE).mono ?_
    rintro e w2 ⟨rfl, hb2⟩
    have HB : Hid (Below w.heap.size w w2) := b0.trans (hb2.mono (by simp))
    clear hb2 a1 b1 c1 a2 b2 c2 a3 b3 c3 a4 b4 c4 a5 b5 c5 a6 b6 c6
    go_wp2
    go_ret
    exact ⟨ret_bool (by simp [bodyB, HO.out]), HB.out⟩
end Go.Proofs.YtjnikogaleofaaaDoor
namespace Go.Proofs.YtjnikogaleofaaaDoor
open Go.ChangeShapes Go.WideShapes Go.ChangeAt Go.RowKit
theorem right_bounds {tag : ByteArray} {es : List (List ByteArray)} (h : rightG tag es = true) : tag.size = 3 ∧ es.length ≤ 10 ∧ ∀ e ∈ es, 0 < e.length ∧ e.length ≤ 4 ∧ ∀ t ∈ e, t.size ≤ 40 := by
  unfold rightG tagB at h
  simp only [Bool.and_eq_true, decide_eq_true_eq, List.all_eq_true] at h
  refine ⟨h.1.1, h.2.1, fun e he => ?_⟩
  have hb := h.2.2.2 e he
  unfold elB at hb
  simp only [Bool.and_eq_true, decide_eq_true_eq, List.all_eq_true] at hb
  refine ⟨by omega, hb.2.1, fun t ht => ?_⟩
  have := hb.2.2.2 t ht
  unfold partB at this
  simp only [Bool.and_eq_true, decide_eq_true_eq] at this
  exact this.1
end Go.Proofs.YtjnikogaleofaaaDoor
