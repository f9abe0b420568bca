/- Texts of ours put together: OuI. -/
import Derived.Test.YtiakkpglnijapaaG04
import Derived.Shelf.RegionOpen
import Derived.Deep.QuietTactic
import Derived.BigQuiet
import Derived.BigRegion
import Derived.Deep.RegionHeld3
import Derived.Shelf.SlSortCmp.QuietGrown
namespace Go.Proofs.Ytiakkpglnijapaa
open Go.ChangeShapes Go.WideShapes Go.ChangeAt Go.RowKit
open Go.Lib (compareBytes)
open Go.Sort
theorem box5 {W : World} {b t : Nat} {x0 x1 x2 x3 x4 : Value} (h : W.heap[b]? = some (.cells #[x0, x1, x2, x3, x4] t)) : W.cell? ⟨b, 0, none⟩ = some x0 ∧ W.cell? ⟨b, 1, none⟩ = some x1 ∧ W.cell? ⟨b, 2, none⟩ = some x2 ∧ W.cell? ⟨b, 3, none⟩ = some x3 ∧ W.cell? ⟨b, 4, none⟩ = some x4 := by
  refine ⟨?_, ?_, ?_, ?_, ?_⟩ <;> simp [World.cell?, h]
theorem set5 {W : World} {b t : Nat} {x0 x1 x2 x3 x4 y0 y1 y2 y3 y4 : Value} (h : W.heap[b]? = some (.cells #[x0, x1, x2, x3, x4] t)) :
    (((((W.setCell ⟨b, 0, none⟩ y0).setCell ⟨b, 1, none⟩ y1).setCell ⟨b, 2, none⟩ y2).setCell ⟨b, 3, none⟩ y3).setCell ⟨b, 4, none⟩ y4).heap[b]? = some (.cells #[y0, y1, y2, y3, y4] t) := by
  simp [World.setCell, Array.getElem?_modify, h]
theorem ret_noU {p : Prop} [Decidable p] (h : ¬ p) : Ending.returned (.bool (decide p)) = .returned (.bool false) := by rw [decide_eq_false h]
theorem ret_yesU {p : Prop} [Decidable p] (h : p) : Ending.returned (.bool (decide p)) = .returned (.bool true) := by rw [decide_eq_true h]
/-- New blocks and draws alone. -/
def GrwU (w w' : World) : Prop := ∃ q os', w' = grow (w.drewN q) os'
theorem GrwU.one (w : World) (o : Obj) : GrwU w (w.alloc o) := ⟨0, #[o], rfl⟩
theorem GrwU.two (w : World) (o p : Obj) : GrwU w ((w.alloc o).alloc p) := ⟨0, #[o, p], rfl⟩
theorem GrwU.below {w w' : World} (h : GrwU w w') : Below w.heap.size w w' := by
  obtain ⟨q, os, rfl⟩ := h
  refine ⟨rfl, rfl, rfl, by simp [grow], fun i hi => ?_⟩
  have e : (grow (w.drewN q) os).heap = w.heap ++ os := rfl
  rw [e, Array.getElem?_append_left hi]
theorem isDay_any (z : Int) (w : World) : Calls Try.prog 38 #[.int .i64 z] w fun e w' => e = .returned (.bool (dayB z)) ∧ w' = w := by
  by_cases h1 : 0 ≤ z
  · by_cases h2 : z ≤ 100000
    · rw [dayB_yes ⟨h1, h2⟩]
      go_enter Try.func38, Try.ntmps38
      go_wp2
      go_ret
      exact ⟨by first | rfl | exact ret_yesU (p := z ≤ 100000) (by omega), rfl⟩
    · rw [dayB_no (by omega)]
      go_enter Try.func38, Try.ntmps38
      go_wp2
      go_ret
      exact ⟨by first | rfl | exact ret_noU (p := z ≤ 100000) (by omega), rfl⟩
  · rw [dayB_no (by omega)]
    go_enter Try.func38, Try.ntmps38
    go_wp2
    go_ret
    exact ⟨by first | rfl | exact ret_noU (p := z ≤ 100000) (by omega), rfl⟩
set_option maxHeartbeats 4000000 in
theorem right_grows (l : OutR) (w : World) (hz : l.text.size ≤ 9223372036854775807) : Calls Try.prog 24 #[.agg #[.string l.partner, .int .i64 l.number, .string l.text, .int .i64 l.tries, .int .i64 l.due]] w fun e w' => e = .returned (.bool (ouB l)) ∧ GrwU w w' := by
  obtain ⟨r, hr⟩ : ∃ r, r = ouB l := ⟨_, rfl⟩
  have HR : Hid (r = ouB l) := hr
  rw [← hr]
  clear hr
  obtain ⟨partner, number, text, tries, due⟩ := l
  dsimp only at hz ⊢
  have HB : Hid (∀ o, GrwU w (w.alloc o)) := fun o => .one w o
  have Q0 := isName_any partner
  have Q1 := isControl_any number
  have Q6 := isDay_any due
  cases h0 : nameB partner
  case false =>
    obtain rfl : r = false := by rw [HR.out]; exact ouB_no fun h => by have := h.p; dsimp only at this; rw [h0] at this; cases this
    rw [h0] at Q0
    go_enter Try.func24, Try.ntmps24
    go_wp2_with (first | (go_at_call 46; refine (Q0 _).mono ?_; rintro e w' ⟨rfl, rfl⟩) | (go_at_call 47; refine (Q1 _).mono ?_; rintro e w' ⟨rfl, rfl⟩) | (go_at_call 38; refine (Q6 _).mono ?_; rintro e w' ⟨rfl, rfl⟩))
    go_ret
    exact ⟨rfl, HB.out _⟩
  rw [h0] at Q0
  cases h1 : ctlB number
  case false =>
    obtain rfl : r = false := by rw [HR.out]; exact ouB_no fun h => by have := h.n; dsimp only at this; rw [h1] at this; cases this
    rw [h1] at Q1
    go_enter Try.func24, Try.ntmps24
    go_wp2_with (first | (go_at_call 46; refine (Q0 _).mono ?_; rintro e w' ⟨rfl, rfl⟩) | (go_at_call 47; refine (Q1 _).mono ?_; rintro e w' ⟨rfl, rfl⟩) | (go_at_call 38; refine (Q6 _).mono ?_; rintro e w' ⟨rfl, rfl⟩))
    go_ret
    exact ⟨rfl, HB.out _⟩
  rw [h1] at Q1
  by_cases h2 : 1 ≤ text.size
  case neg =>
    obtain rfl : r = false := by rw [HR.out]; exact ouB_no fun h => h2 h.t1
    have i2 : ¬ (1 : Int) ≤ (text.size : Int) := by omega
    go_enter Try.func24, Try.ntmps24
    go_wp2_with (first | (go_at_call 46; refine (Q0 _).mono ?_; rintro e w' ⟨rfl, rfl⟩) | (go_at_call 47; refine (Q1 _).mono ?_; rintro e w' ⟨rfl, rfl⟩) | (go_at_call 38; refine (Q6 _).mono ?_; rintro e w' ⟨rfl, rfl⟩))
    go_ret
    exact ⟨rfl, HB.out _⟩
  have i2 : (1 : Int) ≤ (text.size : Int) := by omega
  by_cases h3 : text.size ≤ 20000
  case neg =>
    obtain rfl : r = false := by rw [HR.out]; exact ouB_no fun h => h3 h.t2
    have i3 : ¬ (text.size : Int) ≤ 20000 := by omega
    go_enter Try.func24, Try.ntmps24
    go_wp2_with (first | (go_at_call 46; refine (Q0 _).mono ?_; rintro e w' ⟨rfl, rfl⟩) | (go_at_call 47; refine (Q1 _).mono ?_; rintro e w' ⟨rfl, rfl⟩) | (go_at_call 38; refine (Q6 _).mono ?_; rintro e w' ⟨rfl, rfl⟩))
    go_ret
    exact ⟨rfl, HB.out _⟩
  have i3 : (text.size : Int) ≤ 20000 := by omega
  by_cases h4 : 0 ≤ tries
  case neg =>
    obtain rfl : r = false := by rw [HR.out]; exact ouB_no fun h => h4 h.r0
    go_enter Try.func24, Try.ntmps24
    go_wp2_with (first | (go_at_call 46; refine (Q0 _).mono ?_; rintro e w' ⟨rfl, rfl⟩) | (go_at_call 47; refine (Q1 _).mono ?_; rintro e w' ⟨rfl, rfl⟩) | (go_at_call 38; refine (Q6 _).mono ?_; rintro e w' ⟨rfl, rfl⟩))
    go_ret
    exact ⟨rfl, HB.out _⟩
  by_cases h5 : tries ≤ 5
  case neg =>
    obtain rfl : r = false := by rw [HR.out]; exact ouB_no fun h => h5 h.r5
    go_enter Try.func24, Try.ntmps24
    go_wp2_with (first | (go_at_call 46; refine (Q0 _).mono ?_; rintro e w' ⟨rfl, rfl⟩) | (go_at_call 47; refine (Q1 _).mono ?_; rintro e w' ⟨rfl, rfl⟩) | (go_at_call 38; refine (Q6 _).mono ?_; rintro e w' ⟨rfl, rfl⟩))
    go_ret
    exact ⟨rfl, HB.out _⟩
  by_cases h6 : 0 ≤ due ∧ due ≤ 100000
  case neg =>
    obtain rfl : r = false := by rw [HR.out]; exact ouB_no fun h => h6 h.d
    rw [dayB_no h6] at Q6
    go_enter Try.func24, Try.ntmps24
    go_wp2_with (first | (go_at_call 46; refine (Q0 _).mono ?_; rintro e w' ⟨rfl, rfl⟩) | (go_at_call 47; refine (Q1 _).mono ?_; rintro e w' ⟨rfl, rfl⟩) | (go_at_call 38; refine (Q6 _).mono ?_; rintro e w' ⟨rfl, rfl⟩))
    go_ret
    exact ⟨rfl, HB.out _⟩
  rw [dayB_yes h6] at Q6
  obtain rfl : r = true := by rw [HR.out]; exact ouB_yes ⟨h0, h1, h2, h3, h4, h5, h6⟩
  clear h6
  go_enter Try.func24, Try.ntmps24
  go_wp2_with (first | (go_at_call 46; refine (Q0 _).mono ?_; rintro e w' ⟨rfl, rfl⟩) | (go_at_call 47; refine (Q1 _).mono ?_; rintro e w' ⟨rfl, rfl⟩) | (go_at_call 38; refine (Q6 _).mono ?_; rintro e w' ⟨rfl, rfl⟩))
  go_ret
  exact ⟨rfl, HB.out _⟩
theorem right_any (l : OutR) (w : World) (hz : l.text.size ≤ 9223372036854775807) : Calls Try.prog 24 #[.agg #[.string l.partner, .int .i64 l.number, .string l.text, .int .i64 l.tries, .int .i64 l.due]] w fun e w' => e = .returned (.bool (ouB l)) ∧ Below w.heap.size w w' := (right_grows l w hz).mono fun _ _ ⟨h1, h2⟩ => ⟨h1, h2.below⟩
end Go.Proofs.Ytiakkpglnijapaa
