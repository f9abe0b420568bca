/- Texts of ours put together: RightG. -/
import Derived.Test.YtjnikogaleofaaaDoorG05
import Derived.Test.YtjnikogaleofaaaDoorG09
namespace Go.Proofs.YtjnikogaleofaaaDoor
open Go.ChangeShapes Go.WideShapes Go.ChangeAt Go.RowKit
set_option maxHeartbeats 1000000 in
theorem endsEmpty_any (v : Value) (ss : List ByteArray) (w : World) (h : RowS w v ss) (hl : ss.length ≤ 1048576) : Calls Tryd.prog 76 #[v] w fun e w' => e = .returned (.bool (endsE ss)) ∧ w' = w := by
  obtain ⟨a, cap, rfl⟩ := h.val
  by_cases h1 : 1 < ss.length
  · have h1' : decide ((1 : Int) < (ss.length : Int)) = true := by simp; omega
    have hk : ss.length - 1 < ss.length := by omega
    obtain ⟨b, o, c1, s, e, hs, hc, hsz⟩ := h.at hk
    simp only [Value.slice.injEq, true_and] at e
    obtain ⟨rfl, rfl⟩ := e
    have hB : endsE ss = isE s := by unfold endsE; rw [hs]; simp [h1]
    rw [hB]
    clear hB hs h
    have hki : ((ss.length : Int) - 1) = ((ss.length - 1 : Nat) : Int) := by omega
    go_enter Tryd.func76, Tryd.ntmps76
    go_wp2
    go_ret
    exact ⟨rfl, rfl⟩
  · have h1' : decide ((1 : Int) < (ss.length : Int)) = false := by simp; omega
    have hB : endsE ss = false := by unfold endsE; simp [h1]
    rw [hB]
    clear h
    go_enter Tryd.func76, Tryd.ntmps76
    go_wp2
    go_ret
    exact ⟨rfl, rfl⟩
set_option maxHeartbeats 1000000 in
theorem endsBlank_any (v : Value) (es : List (List ByteArray)) (w : World) (h : RowE w v es) (hE : BdE 1048576 es) : Calls Tryd.prog 69 #[v] w fun e w' => e = .returned (.bool (blankB es)) ∧ w' = w := by
  have hl := hE.1
  obtain ⟨a, cap, rfl⟩ := h.val
  by_cases h0 : es.length = 0
  · have h0' : ((es.length : Int) == 0) = true := by rw [beq_iff_eq]; omega
    have hB : blankB es = false := by unfold blankB; simp [h0]
    rw [hB]
    clear h
    go_enter Tryd.func69, Tryd.ntmps69
    go_wp2
    go_ret
    exact ⟨rfl, rfl⟩
  · have h0' : ((es.length : Int) == 0) = false := by rw [beq_eq_false_iff_ne]; omega
    have hk : es.length - 1 < es.length := by omega
    obtain ⟨b, o, c1, ss, u, e, hs, hc, hS⟩ := h.at hk
    simp only [Value.slice.injEq, true_and] at e
    obtain ⟨rfl, rfl⟩ := e
    have hsl := (hE.2 _ ss hs).1
    have hB : blankB es = blank1 ss := by unfold blankB; rw [hs]; simp; omega
    rw [hB]
    have hki : ((es.length : Int) - 1) = ((es.length - 1 : Nat) : Int) := by omega
    obtain ⟨a2, cap2, rfl⟩ := hS.val
    clear hB hs h hE
    by_cases h1 : ss.length = 1
    · have h1' : ((ss.length : Int) == 1) = true := by rw [beq_iff_eq]; omega
      have hk : 0 < ss.length := by omega
      obtain ⟨b2, o2, c2, s, e, hs, hc2, hsz⟩ := hS.at hk
      simp only [Value.slice.injEq, true_and] at e
      obtain ⟨rfl, rfl⟩ := e
      have hB : blank1 ss = isE s := by unfold blank1; rw [hs]; simp [h1]
      rw [hB]
      clear hB hs hS
      have hk' : (0 : Int) < (ss.length : Int) := by omega
      rw [Nat.add_zero] at hc2
      go_enter Tryd.func69, Tryd.ntmps69
      go_wp2
      go_ret
      exact ⟨rfl, rfl⟩
    · have h1' : ((ss.length : Int) == 1) = false := by rw [beq_eq_false_iff_ne]; omega
      have hB : blank1 ss = false := by unfold blank1; simp [h1]
      rw [hB]
      clear hS
      go_enter Tryd.func69, Tryd.ntmps69
      go_wp2
      go_ret
      exact ⟨rfl, rfl⟩
set_option maxHeartbeats 1000000 in
theorem elementRight_any (v : Value) (ss : List ByteArray) (w : World) (h : RowS w v ss) (hl : ss.length ≤ 1048576) : Calls Tryd.prog 70 #[.agg #[v]] w fun e w' => e = .returned (.bool (elB ss)) ∧ Below w.heap.size w w' := by
  obtain ⟨a, cap, rfl⟩ := h.val
  have hW : RowS (w.alloc (.cells #[.slice a ss.length cap] 36)) (.slice a ss.length cap) ss := h.below ((Below.refl _ _).alloc (Nat.le_refl _) _)
  clear h
  by_cases h1 : 1 ≤ ss.length
  · by_cases h4 : ss.length ≤ 4
    · have d1 : decide ((ss.length : Int) < 1) = false := by simp; omega
      have d2 : decide ((4 : Int) < (ss.length : Int)) = false := by simp; omega
      have e0 : elB ss = (!endsE ss && ss.all partB) := by unfold elB; simp [h1, h4]
      rw [e0]
      clear e0
      go_enter Tryd.func70, Tryd.ntmps70
      go_wp2_with fail
      refine (endsEmpty_any _ ss _ hW hl).mono ?_
      rintro e w1 ⟨rfl, rfl⟩
      have HW : Hid (RowS (w.alloc (.cells #[.slice a ss.length cap] 36)) (.slice a ss.length cap) ss) := hW
      clear hW
      cases hE : endsE ss
      · go_wp2_with fail
        go_loopw [23] (fun i wr => ∃ k : Nat, i = .int .i64 (k : Int) ∧ k ≤ ss.length ∧ (∀ (j : Nat) (s : ByteArray), j < k → ss[j]? = some s → partB s = true) ∧ wr = w.alloc (.cells #[.slice a ss.length cap] 36)) (fun i _ => ss.length - (intOf i).toNat)
        case atStart => exact ⟨0, rfl, by omega, fun j s h => by omega, rfl⟩
        case round =>
          obtain ⟨k, rfl, hk, hA, rfl⟩ := hrel
          have HA : Hid (∀ (j : Nat) (s : ByteArray), j < k → ss[j]? = some s → partB s = true) := hA
          clear hA
          by_cases hlt : k < ss.length
          · have hlt' : (k : Int) < (ss.length : Int) := by omega
            obtain ⟨b, o, c1, s, e, hs, hc, hsz⟩ := HW.out.at hlt
            simp only [Value.slice.injEq, true_and] at e
            obtain ⟨rfl, rfl⟩ := e
            have HS : Hid (ss[k]? = some s) := hs
            clear hs
            go_wp2_with fail
            refine (isPart_any s _).mono ?_
            rintro e w1 ⟨rfl, rfl⟩
            cases hP : partB s
            · go_wp2
              go_ret
              exact ⟨ret_bool (by rw [hE, all_no HS.out hP]; rfl), (Below.refl _ _).alloc (Nat.le_refl _) _⟩
            · go_wp2
              go_roundw
              case rel =>
                refine ⟨k + 1, by go_num, by omega, fun j t hj ht => ?_, trivial⟩
                rcases Nat.lt_or_ge j k with g | g
                · exact HA.out j t g ht
                · obtain rfl : j = k := by omega
                  rw [HS.out] at ht
                  cases ht
                  exact hP
              case measure => simp [intOf]; omega
          · obtain rfl : k = ss.length := by omega
            go_wp2
            go_ret
            exact ⟨ret_bool (by rw [hE, all_yes fun j s hj => HA.out j s (List.getElem?_eq_some_iff.1 hj).1 hj]; rfl), (Below.refl _ _).alloc (Nat.le_refl _) _⟩
      · go_wp2
        go_ret
        exact ⟨ret_bool (by rw [hE]; rfl), (Below.refl _ _).alloc (Nat.le_refl _) _⟩
    · have d1 : decide ((ss.length : Int) < 1) = false := by simp; omega
      have d2 : decide ((4 : Int) < (ss.length : Int)) = true := by simp; omega
      have e0 : elB ss = false := by unfold elB; simp [h4]
      rw [e0]
      clear hW e0
      go_enter Tryd.func70, Tryd.ntmps70
      go_wp2
      go_ret
      exact ⟨rfl, (Below.refl _ _).alloc (Nat.le_refl _) _⟩
  · have d1 : decide ((ss.length : Int) < 1) = true := by simp; omega
    have e0 : elB ss = false := by unfold elB; simp [h1]
    rw [e0]
    clear hW e0
    go_enter Tryd.func70, Tryd.ntmps70
    go_wp2
    go_ret
    exact ⟨rfl, (Below.refl _ _).alloc (Nat.le_refl _) _⟩
set_option maxHeartbeats 2000000 in
theorem right_seg_impl (tag : ByteArray) (v : Value) (es : List (List ByteArray)) (w : World) (h : RowE w v es) (hE : BdE 1048576 es) : Calls Tryd.prog 59 #[.agg #[.string tag, v]] w fun e w' => e = .returned (.bool (rightG tag es)) ∧ Below w.heap.size w w' := by
  have hl := hE.1
  obtain ⟨a, cap, rfl⟩ := h.val
  have hW : RowE (w.alloc (.cells #[.string tag, .slice a es.length cap] 33)) (.slice a es.length cap) es := h.below ((Below.refl _ _).alloc (Nat.le_refl _) _)
  have HW : Hid (RowE (w.alloc (.cells #[.string tag, .slice a es.length cap] 33)) (.slice a es.length cap) es ∧ BdE 1048576 es) := ⟨hW, hE⟩
  clear h hW hE
  go_enter Tryd.func59, Tryd.ntmps59
  go_wp2_with fail
  refine (isTag_any tag _).mono ?_
  rintro e w1 ⟨rfl, rfl⟩
  cases hT : tagB tag
  · go_wp2
    go_ret
    exact ⟨ret_bool (by unfold rightG; rw [hT]; rfl), (Below.refl _ _).alloc (Nat.le_refl _) _⟩
  by_cases h10 : es.length ≤ 10
  · have d1 : decide ((10 : Int) < (es.length : Int)) = false := by simp; omega
    go_wp2_with fail
    refine (endsBlank_any _ es _ HW.out.1 HW.out.2).mono ?_
    rintro e w1 ⟨rfl, rfl⟩
    have e0 : rightG tag es = (!blankB es && es.all elB) := by unfold rightG; rw [hT]; simp [h10]
    have HE0 : Hid (rightG tag es = (!blankB es && es.all elB)) := e0
    clear e0
    cases hB : blankB es
    · go_wp2_with fail
      go_loopw [23] (fun i wr => ∃ k : Nat, i = .int .i64 (k : Int) ∧ k ≤ es.length ∧ (∀ (j : Nat) (s : List ByteArray), j < k → es[j]? = some s → elB s = true) ∧ Below (w.alloc (.cells #[.string tag, .slice a es.length cap] 33)).heap.size (w.alloc (.cells #[.string tag, .slice a es.length cap] 33)) wr) (fun i _ => es.length - (intOf i).toNat)
      case atStart => exact ⟨0, rfl, by omega, fun j s h => by omega, Below.refl _ _⟩
      case round =>
        obtain ⟨k, rfl, hk, hA, hb⟩ := hrel
        have hb' : Below w.heap.size w wr := ((Below.refl _ _).alloc (Nat.le_refl _) _).trans (hb.mono (by simp))
        have HA : Hid ((∀ (j : Nat) (s : List ByteArray), j < k → es[j]? = some s → elB s = true) ∧ Below (w.alloc (.cells #[.string tag, .slice a es.length cap] 33)).heap.size (w.alloc (.cells #[.string tag, .slice a es.length cap] 33)) wr ∧ Below w.heap.size w wr) := ⟨hA, hb, hb'⟩
        clear hA hb hb'
        by_cases hlt : k < es.length
        · have hlt' : (k : Int) < (es.length : Int) := by omega
          obtain ⟨b, o, c1, s, u, e, hs, hc, hS⟩ := (HW.out.1.below HA.out.2.1).at hlt
          simp only [Value.slice.injEq, true_and] at e
          obtain ⟨rfl, rfl⟩ := e
          have hsl := (HW.out.2.2 k s hs).1
          obtain ⟨a2, cap2, rfl⟩ := hS.val
          have HS : Hid (es[k]? = some s ∧ RowS (wr.alloc (.cells #[.slice a2 s.length cap2] 36)) (.slice a2 s.length cap2) s) := ⟨hs, hS.below ((Below.refl _ _).alloc (Nat.le_refl _) _)⟩
          clear hs hS
          go_wp2_with fail
          refine (elementRight_any _ s _ HS.out.2 hsl).mono ?_
          rintro e w2 ⟨rfl, hb2⟩
          have hw2 := hb2.size
          have HB : Hid (Below (w.alloc (.cells #[.string tag, .slice (some ⟨b, o, none⟩) es.length cap] 33)).heap.size (w.alloc (.cells #[.string tag, .slice (some ⟨b, o, none⟩) es.length cap] 33)) w2 ∧ Below w.heap.size w w2) := by
            have q1 := HA.out.2.1.size
            have q2 := HA.out.2.2.size
            exact ⟨(HA.out.2.1.alloc q1 _).trans (hb2.mono (by simp at q1 ⊢; omega)), (HA.out.2.2.alloc q2 _).trans (hb2.mono (by simp; omega))⟩
          clear hb2 hw2
          cases hP : elB s
          · go_wp2
            go_ret
            exact ⟨ret_bool (by rw [HE0.out, hB, all_no HS.out.1 hP]; rfl), HB.out.2⟩
          · go_wp2
            go_roundw
            case rel =>
              refine ⟨k + 1, by go_num, by omega, fun j t hj ht => ?_, HB.out.1⟩
              rcases Nat.lt_or_ge j k with g | g
              · exact HA.out.1 j t g ht
              · obtain rfl : j = k := by omega
                rw [HS.out.1] at ht
                cases ht
                exact hP
            case measure => simp [intOf]; omega
        · obtain rfl : k = es.length := by omega
          go_wp2
          go_ret
          exact ⟨ret_bool (by rw [HE0.out, hB, all_yes fun j s hj => HA.out.1 j s (List.getElem?_eq_some_iff.1 hj).1 hj]; rfl), HA.out.2.2⟩
    · go_wp2
      go_ret
      exact ⟨ret_bool (by rw [HE0.out, hB]; rfl), (Below.refl _ _).alloc (Nat.le_refl _) _⟩
  · have d1 : decide ((10 : Int) < (es.length : Int)) = true := by simp; omega
    go_wp2
    go_ret
    exact ⟨ret_bool (by unfold rightG; rw [hT]; simp [h10]), (Below.refl _ _).alloc (Nat.le_refl _) _⟩
end Go.Proofs.YtjnikogaleofaaaDoor
