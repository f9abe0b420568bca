/- Contract of the model's LineRight. -/
import Derived.Test.YtppfobeencnbdaaLnI
import Derived.Shelf.SlSortCmp.QuietGrown
namespace Go.Proofs.Ytppfobeencnbdaa
open Go.ChangeShapes Go.WideShapes Go.ChangeAt Go.RowKit
open Go.Sort
/-- New blocks and draws alone. -/
def Grw (w w' : World) : Prop := ∃ q os', w' = grow (w.drewN q) os'
theorem Grw.one (w : World) (o : Obj) : Grw w (w.alloc o) := ⟨0, #[o], rfl⟩
theorem Grw.two (w : World) (o p : Obj) : Grw w ((w.alloc o).alloc p) := ⟨0, #[o, p], rfl⟩
theorem Grw.below {w w' : World} (h : Grw w w') : Below w.heap.size w w' := by
  obtain ⟨q, os, rfl⟩ := h
  refine ⟨rfl, rfl, rfl, by simp [grow], fun i hi => ?_⟩
  have e : (grow (w.drewN q) os).heap = w.heap ++ os := rfl
  rw [e, Array.getElem?_append_left hi]
theorem l01Qty_any (z : Int) (w : World) : Calls Try.prog 35 #[.int .i64 z] w fun e w' => e = .returned (.bool (qtyB z)) ∧ w' = w := by
  by_cases h1 : 1 ≤ z
  · by_cases h2 : z ≤ 1000000
    · rw [qtyB_yes ⟨h1, h2⟩]
      go_enter Try.func35, Try.ntmps35
      go_wp2
      go_ret
      exact ⟨by first | rfl | exact ret_yes (p := z ≤ 1000000) (by omega), rfl⟩
    · rw [qtyB_no (by omega)]
      go_enter Try.func35, Try.ntmps35
      go_wp2
      go_ret
      exact ⟨by first | rfl | exact ret_no (p := z ≤ 1000000) (by omega), rfl⟩
  · rw [qtyB_no (by omega)]
    go_enter Try.func35, Try.ntmps35
    go_wp2
    go_ret
    exact ⟨rfl, rfl⟩
set_option maxHeartbeats 4000000 in
theorem lineRight_grows (l : OLn) (w : World) : Calls Try.prog 18 #[.agg #[.string l.partner, .string l.ref, .int .i64 l.no, .string l.item, .int .i64 l.ordered, .int .i64 l.sent, .int .i64 l.got, .int .i64 l.cut]] w fun e w' => e = .returned (.bool (lnB l)) ∧ Grw w w' := by
  obtain ⟨r, hr⟩ : ∃ r, r = lnB l := ⟨_, rfl⟩
  have HR : Hid (r = lnB l) := hr
  rw [← hr]
  clear hr
  obtain ⟨partner, ref, no, item, ordered, sent, got, cut⟩ := l
  dsimp only
  have HB : Hid (∀ o, Grw w (w.alloc o)) := fun o => .one w o
  have Q0 := l01Name_any partner
  have Q1 := l01Name_any ref
  have Q2 := l01Name_any item
  have Q5 := l01Qty_any ordered
  cases h0 : nameB partner
  case false =>
    obtain rfl : r = false := by rw [HR.out]; exact lnB_no fun h => by have := h.p; dsimp only at this; rw [h0] at this; cases this
    rw [h0] at Q0
    go_enter Try.func18, Try.ntmps18
    go_wp2_with (first | (go_at_call_of 34 (Value.string partner); refine (Q0 _).mono ?_; rintro e w' ⟨rfl, rfl⟩) | (go_at_call_of 34 (Value.string ref); refine (Q1 _).mono ?_; rintro e w' ⟨rfl, rfl⟩) | (go_at_call_of 34 (Value.string item); refine (Q2 _).mono ?_; rintro e w' ⟨rfl, rfl⟩) | (go_at_call 35; refine (Q5 _).mono ?_; rintro e w' ⟨rfl, rfl⟩))
    go_ret
    exact ⟨rfl, HB.out _⟩
  rw [h0] at Q0
  cases h1 : nameB ref
  case false =>
    obtain rfl : r = false := by rw [HR.out]; exact lnB_no fun h => by have := h.r; dsimp only at this; rw [h1] at this; cases this
    rw [h1] at Q1
    go_enter Try.func18, Try.ntmps18
    go_wp2_with (first | (go_at_call_of 34 (Value.string partner); refine (Q0 _).mono ?_; rintro e w' ⟨rfl, rfl⟩) | (go_at_call_of 34 (Value.string ref); refine (Q1 _).mono ?_; rintro e w' ⟨rfl, rfl⟩) | (go_at_call_of 34 (Value.string item); refine (Q2 _).mono ?_; rintro e w' ⟨rfl, rfl⟩) | (go_at_call 35; refine (Q5 _).mono ?_; rintro e w' ⟨rfl, rfl⟩))
    go_ret
    exact ⟨rfl, HB.out _⟩
  rw [h1] at Q1
  cases h2 : nameB item
  case false =>
    obtain rfl : r = false := by rw [HR.out]; exact lnB_no fun h => by have := h.i; dsimp only at this; rw [h2] at this; cases this
    rw [h2] at Q2
    go_enter Try.func18, Try.ntmps18
    go_wp2_with (first | (go_at_call_of 34 (Value.string partner); refine (Q0 _).mono ?_; rintro e w' ⟨rfl, rfl⟩) | (go_at_call_of 34 (Value.string ref); refine (Q1 _).mono ?_; rintro e w' ⟨rfl, rfl⟩) | (go_at_call_of 34 (Value.string item); refine (Q2 _).mono ?_; rintro e w' ⟨rfl, rfl⟩) | (go_at_call 35; refine (Q5 _).mono ?_; rintro e w' ⟨rfl, rfl⟩))
    go_ret
    exact ⟨rfl, HB.out _⟩
  rw [h2] at Q2
  by_cases h3 : 1 ≤ no
  case neg =>
    obtain rfl : r = false := by rw [HR.out]; exact lnB_no fun h => by have := h.n1; dsimp only at this; omega
    go_enter Try.func18, Try.ntmps18
    go_wp2_with (first | (go_at_call_of 34 (Value.string partner); refine (Q0 _).mono ?_; rintro e w' ⟨rfl, rfl⟩) | (go_at_call_of 34 (Value.string ref); refine (Q1 _).mono ?_; rintro e w' ⟨rfl, rfl⟩) | (go_at_call_of 34 (Value.string item); refine (Q2 _).mono ?_; rintro e w' ⟨rfl, rfl⟩) | (go_at_call 35; refine (Q5 _).mono ?_; rintro e w' ⟨rfl, rfl⟩))
    go_ret
    exact ⟨rfl, HB.out _⟩
  by_cases h4 : no ≤ 999
  case neg =>
    obtain rfl : r = false := by rw [HR.out]; exact lnB_no fun h => by have := h.n2; dsimp only at this; omega
    go_enter Try.func18, Try.ntmps18
    go_wp2_with (first | (go_at_call_of 34 (Value.string partner); refine (Q0 _).mono ?_; rintro e w' ⟨rfl, rfl⟩) | (go_at_call_of 34 (Value.string ref); refine (Q1 _).mono ?_; rintro e w' ⟨rfl, rfl⟩) | (go_at_call_of 34 (Value.string item); refine (Q2 _).mono ?_; rintro e w' ⟨rfl, rfl⟩) | (go_at_call 35; refine (Q5 _).mono ?_; rintro e w' ⟨rfl, rfl⟩))
    go_ret
    exact ⟨rfl, HB.out _⟩
  by_cases h5 : 1 ≤ ordered ∧ ordered ≤ 1000000
  case neg =>
    obtain rfl : r = false := by rw [HR.out]; exact lnB_no fun h => by have h1 := h.o1; have h2 := h.o2; dsimp only at h1 h2; omega
    rw [qtyB_no h5] at Q5
    go_enter Try.func18, Try.ntmps18
    go_wp2_with (first | (go_at_call_of 34 (Value.string partner); refine (Q0 _).mono ?_; rintro e w' ⟨rfl, rfl⟩) | (go_at_call_of 34 (Value.string ref); refine (Q1 _).mono ?_; rintro e w' ⟨rfl, rfl⟩) | (go_at_call_of 34 (Value.string item); refine (Q2 _).mono ?_; rintro e w' ⟨rfl, rfl⟩) | (go_at_call 35; refine (Q5 _).mono ?_; rintro e w' ⟨rfl, rfl⟩))
    go_ret
    exact ⟨rfl, HB.out _⟩
  rw [qtyB_yes h5] at Q5
  by_cases h6 : 0 ≤ sent
  case neg =>
    obtain rfl : r = false := by rw [HR.out]; exact lnB_no fun h => by have := h.s0; dsimp only at this; omega
    go_enter Try.func18, Try.ntmps18
    go_wp2_with (first | (go_at_call_of 34 (Value.string partner); refine (Q0 _).mono ?_; rintro e w' ⟨rfl, rfl⟩) | (go_at_call_of 34 (Value.string ref); refine (Q1 _).mono ?_; rintro e w' ⟨rfl, rfl⟩) | (go_at_call_of 34 (Value.string item); refine (Q2 _).mono ?_; rintro e w' ⟨rfl, rfl⟩) | (go_at_call 35; refine (Q5 _).mono ?_; rintro e w' ⟨rfl, rfl⟩))
    go_ret
    exact ⟨rfl, HB.out _⟩
  by_cases h7 : 0 ≤ got
  case neg =>
    obtain rfl : r = false := by rw [HR.out]; exact lnB_no fun h => by have := h.g0; dsimp only at this; omega
    go_enter Try.func18, Try.ntmps18
    go_wp2_with (first | (go_at_call_of 34 (Value.string partner); refine (Q0 _).mono ?_; rintro e w' ⟨rfl, rfl⟩) | (go_at_call_of 34 (Value.string ref); refine (Q1 _).mono ?_; rintro e w' ⟨rfl, rfl⟩) | (go_at_call_of 34 (Value.string item); refine (Q2 _).mono ?_; rintro e w' ⟨rfl, rfl⟩) | (go_at_call 35; refine (Q5 _).mono ?_; rintro e w' ⟨rfl, rfl⟩))
    go_ret
    exact ⟨rfl, HB.out _⟩
  by_cases h8 : 0 ≤ cut
  case neg =>
    obtain rfl : r = false := by rw [HR.out]; exact lnB_no fun h => by have := h.c0; dsimp only at this; omega
    go_enter Try.func18, Try.ntmps18
    go_wp2_with (first | (go_at_call_of 34 (Value.string partner); refine (Q0 _).mono ?_; rintro e w' ⟨rfl, rfl⟩) | (go_at_call_of 34 (Value.string ref); refine (Q1 _).mono ?_; rintro e w' ⟨rfl, rfl⟩) | (go_at_call_of 34 (Value.string item); refine (Q2 _).mono ?_; rintro e w' ⟨rfl, rfl⟩) | (go_at_call 35; refine (Q5 _).mono ?_; rintro e w' ⟨rfl, rfl⟩))
    go_ret
    exact ⟨rfl, HB.out _⟩
  by_cases h9 : got ≤ sent
  case neg =>
    obtain rfl : r = false := by rw [HR.out]; exact lnB_no fun h => by have := h.gs; dsimp only at this; omega
    go_enter Try.func18, Try.ntmps18
    go_wp2_with (first | (go_at_call_of 34 (Value.string partner); refine (Q0 _).mono ?_; rintro e w' ⟨rfl, rfl⟩) | (go_at_call_of 34 (Value.string ref); refine (Q1 _).mono ?_; rintro e w' ⟨rfl, rfl⟩) | (go_at_call_of 34 (Value.string item); refine (Q2 _).mono ?_; rintro e w' ⟨rfl, rfl⟩) | (go_at_call 35; refine (Q5 _).mono ?_; rintro e w' ⟨rfl, rfl⟩))
    go_ret
    exact ⟨rfl, HB.out _⟩
  by_cases h10 : sent ≤ ordered
  case neg =>
    obtain rfl : r = false := by rw [HR.out]; exact lnB_no fun h => by have := h.so; dsimp only at this; omega
    go_enter Try.func18, Try.ntmps18
    go_wp2_with (first | (go_at_call_of 34 (Value.string partner); refine (Q0 _).mono ?_; rintro e w' ⟨rfl, rfl⟩) | (go_at_call_of 34 (Value.string ref); refine (Q1 _).mono ?_; rintro e w' ⟨rfl, rfl⟩) | (go_at_call_of 34 (Value.string item); refine (Q2 _).mono ?_; rintro e w' ⟨rfl, rfl⟩) | (go_at_call 35; refine (Q5 _).mono ?_; rintro e w' ⟨rfl, rfl⟩))
    go_ret
    exact ⟨rfl, HB.out _⟩
  by_cases h11 : cut ≤ ordered - sent
  case neg =>
    obtain rfl : r = false := by rw [HR.out]; exact lnB_no fun h => by have := h.co; dsimp only at this; omega
    go_enter Try.func18, Try.ntmps18
    go_wp2_with (first | (go_at_call_of 34 (Value.string partner); refine (Q0 _).mono ?_; rintro e w' ⟨rfl, rfl⟩) | (go_at_call_of 34 (Value.string ref); refine (Q1 _).mono ?_; rintro e w' ⟨rfl, rfl⟩) | (go_at_call_of 34 (Value.string item); refine (Q2 _).mono ?_; rintro e w' ⟨rfl, rfl⟩) | (go_at_call 35; refine (Q5 _).mono ?_; rintro e w' ⟨rfl, rfl⟩))
    go_ret
    exact ⟨by first | rfl | exact ret_no (p := cut ≤ ordered - sent) (by omega) | exact ret_yes (p := cut ≤ ordered - sent) (by omega), HB.out _⟩
  obtain rfl : r = true := by rw [HR.out]; exact lnB_yes ⟨h0, h1, h2, h3, h4, h5.1, h5.2, h6, h7, h8, h9, h10, h11⟩
  have h5a := h5.1
  have h5b := h5.2
  go_enter Try.func18, Try.ntmps18
  go_wp2_with (first | (go_at_call_of 34 (Value.string partner); refine (Q0 _).mono ?_; rintro e w' ⟨rfl, rfl⟩) | (go_at_call_of 34 (Value.string ref); refine (Q1 _).mono ?_; rintro e w' ⟨rfl, rfl⟩) | (go_at_call_of 34 (Value.string item); refine (Q2 _).mono ?_; rintro e w' ⟨rfl, rfl⟩) | (go_at_call 35; refine (Q5 _).mono ?_; rintro e w' ⟨rfl, rfl⟩))
  go_ret
  exact ⟨by first | rfl | exact ret_no (p := cut ≤ ordered - sent) (by omega) | exact ret_yes (p := cut ≤ ordered - sent) (by omega), HB.out _⟩
theorem lineRight_spec (l : OLn) (w : World) : Calls Try.prog 18 #[.agg #[.string l.partner, .string l.ref, .int .i64 l.no, .string l.item, .int .i64 l.ordered, .int .i64 l.sent, .int .i64 l.got, .int .i64 l.cut]] w fun e w' => e = .returned (.bool (lnB l)) ∧ Below w.heap.size w w' := (lineRight_grows l w).mono fun _ _ ⟨h1, h2⟩ => ⟨h1, h2.below⟩
end Go.Proofs.Ytppfobeencnbdaa
