/- Texts of ours put together: RightGS. -/
import Derived.Test.YtjnikogaleofaaaDoorG05
import Derived.Test.YtjnikogaleofaaaDoorG09
namespace Go.Proofs.YtjnikogaleofaaaDoor
open Go.ChangeShapes Go.WideShapes Go.ChangeAt Go.RowKit
set_option maxHeartbeats 2000000 in
theorem right_seg_spec (tag : ByteArray) (v : Value) (es : List (List ByteArray)) (w : World) (h : RowE w v es) (hE : BdE 1048576 es) : Calls Tryd.prog 13 #[.agg #[.string tag, v]] w fun e w' => e = .returned (.bool (rightG tag es)) ∧ Below w.heap.size w w' := by
  have hl := hE.1
  obtain ⟨a, cap, rfl⟩ := h.val
  have hW : RowE (w.alloc (.cells #[.string tag, .slice a es.length cap] 33)) (.slice a es.length cap) es := h.below ((Below.refl _ _).alloc (Nat.le_refl _) _)
  have HW : Hid (RowE (w.alloc (.cells #[.string tag, .slice a es.length cap] 33)) (.slice a es.length cap) es ∧ BdE 1048576 es) := ⟨hW, hE⟩
  clear h hW hE
  go_enter Tryd.func13, Tryd.ntmps13
  go_wp2_with fail
  refine (l02Tag_any tag _).mono ?_
  rintro e w1 ⟨rfl, rfl⟩
  cases hT : tagB tag
  · go_wp2
    go_ret
    exact ⟨ret_bool (by unfold rightG; rw [hT]; rfl), (Below.refl _ _).alloc (Nat.le_refl _) _⟩
  by_cases h10 : es.length ≤ 10
  · have d1 : decide ((10 : Int) < (es.length : Int)) = false := by simp; omega
    have e0 : rightG tag es = (!blankB es && es.all elB) := by unfold rightG; rw [hT]; simp [h10]
    have HE0 : Hid (rightG tag es = (!blankB es && es.all elB)) := e0
    clear e0
    go_wp2_with fail
    go_loopw [3] (fun i wr => ∃ k : Nat, i = .int .i64 (k : Int) ∧ k ≤ es.length ∧ (∀ (j : Nat) (s : List ByteArray), j < k → es[j]? = some s → elB s = true) ∧ wr = (w.alloc (.cells #[.string tag, .slice a es.length cap] 33))) (fun i _ => es.length - (intOf i).toNat)
    case atStart => exact ⟨0, rfl, by omega, fun j s h => by omega, rfl⟩
    case round =>
      obtain ⟨k, rfl, hk, hA, rfl⟩ := hrel
      have HA : Hid (∀ (j : Nat) (s : List ByteArray), j < k → es[j]? = some s → elB s = true) := hA
      clear hA
      by_cases hlt : k < es.length
      · have hlt' : (k : Int) < (es.length : Int) := by omega
        obtain ⟨b, o, c1, s, u, e, hs, hc, hS⟩ := HW.out.1.at hlt
        simp only [Value.slice.injEq, true_and] at e
        obtain ⟨rfl, rfl⟩ := e
        have hsl := (HW.out.2.2 k s hs).1
        obtain ⟨a2, cap2, rfl⟩ := hS.val
        have HS : Hid (es[k]? = some s) := hs
        clear hs
        have hno : elB s = false → rightG tag es = false := fun hP => by rw [HE0.out, all_no HS.out hP, Bool.and_false]
        by_cases h1 : s.length < 1
        · have d2 : decide ((s.length : Int) < 1) = true := by simp; omega
          have hP : elB s = false := by unfold elB; simp; omega
          have HN : Hid (rightG tag es = false) := hno hP
          clear hno hP hS
          go_wp2
          go_ret
          exact ⟨ret_bool HN.out.symm, (Below.refl _ _).alloc (Nat.le_refl _) _⟩
        have d2 : decide ((s.length : Int) < 1) = false := by simp; omega
        by_cases h4 : 4 < s.length
        · have d3 : decide ((4 : Int) < (s.length : Int)) = true := by simp; omega
          have hP : elB s = false := by
            have : decide (s.length ≤ 4) = false := by simp; omega
            unfold elB
            rw [this]
            simp
          have HN : Hid (rightG tag es = false) := hno hP
          clear hno hP hS
          go_wp2
          go_ret
          exact ⟨ret_bool HN.out.symm, (Below.refl _ _).alloc (Nat.le_refl _) _⟩
        have d3 : decide ((4 : Int) < (s.length : Int)) = false := by simp; omega
        have hel : elB s = (!endsE s && s.all partB) := by
          have q1 : decide (s.length ≤ 4) = true := by simp; omega
          have q2 : decide (1 ≤ s.length) = true := by simp; omega
          unfold elB
          rw [q1, q2]
          simp
        have inner : ∀ (hE : endsE s = false), True := fun _ => trivial
        clear inner
        by_cases hm : 1 < s.length
        · have d4 : decide ((1 : Int) < (s.length : Int)) = true := by simp; omega
          have hkl : s.length - 1 < s.length := by omega
          obtain ⟨b2, o2, c2, t, e, ht, hc2, hsz⟩ := hS.at hkl
          simp only [Value.slice.injEq, true_and] at e
          obtain ⟨rfl, rfl⟩ := e
          have hBe : endsE s = isE t := by unfold endsE; rw [ht]; simp [hm]
          have hki : ((s.length : Int) - 1) = ((s.length - 1 : Nat) : Int) := by omega
          clear ht
          cases hI : isE t
          · have hI' : t.toList.isEmpty = false := hI
            rw [hBe, hI] at hel
            have HL : Hid (elB s = (!false && s.all partB) ∧ (elB s = false → rightG tag es = false) ∧ RowS (w.alloc (.cells #[.string tag, .slice (some ⟨b, o, none⟩) es.length cap] 33)) (.slice (some ⟨b2, o2, none⟩) s.length cap2) s) := ⟨hel, hno, hS⟩
            clear hel hno hBe hS
            go_wp2_with fail
            go_loopw [5] (fun i wr => ∃ m : Nat, i = .int .i64 (m : Int) ∧ m ≤ s.length ∧ (∀ (j : Nat) (t : ByteArray), j < m → s[j]? = some t → partB t = true) ∧ wr = (w.alloc (.cells #[.string tag, .slice (some ⟨b, o, none⟩) es.length cap] 33))) (fun i _ => s.length - (intOf i).toNat)
            case atStart => exact ⟨0, rfl, by omega, fun j s h => by omega, rfl⟩
            case round =>
              obtain ⟨m, rfl, hm0, hB0, rfl⟩ := hrel
              have HM : Hid (∀ (j : Nat) (t : ByteArray), j < m → s[j]? = some t → partB t = true) := hB0
              clear hB0
              by_cases hml : m < s.length
              · have hml' : (m : Int) < (s.length : Int) := by omega
                obtain ⟨b3, o3, c3, t3, e3, ht3, hc3, hsz3⟩ := HL.out.2.2.at hml
                simp only [Value.slice.injEq, Option.some.injEq, Addr.mk.injEq, true_and, and_true] at e3
                obtain ⟨⟨rfl, rfl⟩, rfl⟩ := e3
                have HT : Hid (s[m]? = some t3) := ht3
                clear ht3
                go_wp2_with fail
                refine (l02Part_any t3 _).mono ?_
                rintro e w1 ⟨rfl, rfl⟩
                cases hP : partB t3
                · have HN : Hid (rightG tag es = false) := HL.out.2.1 (by rw [HL.out.1, all_no HT.out hP]; rfl)
                  go_wp2
                  go_ret
                  exact ⟨ret_bool HN.out.symm, (Below.refl _ _).alloc (Nat.le_refl _) _⟩
                · go_wp2
                  go_roundw
                  case rel =>
                    refine ⟨m + 1, by go_num, by omega, fun j t hj ht => ?_, trivial⟩
                    rcases Nat.lt_or_ge j m with g | g
                    · exact HM.out j t g ht
                    · obtain rfl : j = m := by omega
                      rw [HT.out] at ht
                      cases ht
                      exact hP
                  case measure => simp [intOf]; omega
              · obtain rfl : m = s.length := by omega
                have hall : elB s = true := by rw [HL.out.1, all_yes fun j t hj => HM.out j t (List.getElem?_eq_some_iff.1 hj).1 hj]; rfl
                have HAl : Hid (elB s = true) := hall
                clear hall
                go_wp2
                go_roundw
                case rel =>
                  refine ⟨k + 1, by go_num, by omega, fun j t hj ht => ?_, trivial⟩
                  rcases Nat.lt_or_ge j k with g | g
                  · exact HA.out j t g ht
                  · obtain rfl : j = k := by omega
                    rw [HS.out] at ht
                    cases ht
                    exact HAl.out
                case measure => simp [intOf]; omega
          · have hI' : t.toList.isEmpty = true := hI
            have hP : elB s = false := by rw [hel, hBe, hI]; rfl
            have HN : Hid (rightG tag es = false) := hno hP
            clear hno hP hS hel hBe
            go_wp2
            go_ret
            exact ⟨ret_bool HN.out.symm, (Below.refl _ _).alloc (Nat.le_refl _) _⟩
        · have d4 : decide ((1 : Int) < (s.length : Int)) = false := by simp; omega
          have hBe : endsE s = false := by unfold endsE; simp [hm]
          rw [hBe] at hel
          have HL : Hid (elB s = (!false && s.all partB) ∧ (elB s = false → rightG tag es = false) ∧ RowS (w.alloc (.cells #[.string tag, .slice (some ⟨b, o, none⟩) es.length cap] 33)) (.slice a2 s.length cap2) s) := ⟨hel, hno, hS⟩
          clear hel hno hBe hS
          go_wp2_with fail
          go_loopw [5] (fun i wr => ∃ m : Nat, i = .int .i64 (m : Int) ∧ m ≤ s.length ∧ (∀ (j : Nat) (t : ByteArray), j < m → s[j]? = some t → partB t = true) ∧ wr = (w.alloc (.cells #[.string tag, .slice (some ⟨b, o, none⟩) es.length cap] 33))) (fun i _ => s.length - (intOf i).toNat)
          case atStart => exact ⟨0, rfl, by omega, fun j s h => by omega, rfl⟩
          case round =>
            obtain ⟨m, rfl, hm0, hB0, rfl⟩ := hrel
            have HM : Hid (∀ (j : Nat) (t : ByteArray), j < m → s[j]? = some t → partB t = true) := hB0
            clear hB0
            by_cases hml : m < s.length
            · have hml' : (m : Int) < (s.length : Int) := by omega
              obtain ⟨b3, o3, c3, t3, e3, ht3, hc3, hsz3⟩ := HL.out.2.2.at hml
              simp only [Value.slice.injEq, true_and] at e3
              obtain ⟨rfl, rfl⟩ := e3
              have HT : Hid (s[m]? = some t3) := ht3
              clear ht3
              go_wp2_with fail
              refine (l02Part_any t3 _).mono ?_
              rintro e w1 ⟨rfl, rfl⟩
              cases hP : partB t3
              · have HN : Hid (rightG tag es = false) := HL.out.2.1 (by rw [HL.out.1, all_no HT.out hP]; rfl)
                go_wp2
                go_ret
                exact ⟨ret_bool HN.out.symm, (Below.refl _ _).alloc (Nat.le_refl _) _⟩
              · go_wp2
                go_roundw
                case rel =>
                  refine ⟨m + 1, by go_num, by omega, fun j t hj ht => ?_, trivial⟩
                  rcases Nat.lt_or_ge j m with g | g
                  · exact HM.out j t g ht
                  · obtain rfl : j = m := by omega
                    rw [HT.out] at ht
                    cases ht
                    exact hP
                case measure => simp [intOf]; omega
            · obtain rfl : m = s.length := by omega
              have hall : elB s = true := by rw [HL.out.1, all_yes fun j t hj => HM.out j t (List.getElem?_eq_some_iff.1 hj).1 hj]; rfl
              have HAl : Hid (elB s = true) := hall
              clear hall
              go_wp2
              go_roundw
              case rel =>
                refine ⟨k + 1, by go_num, by omega, fun j t hj ht => ?_, trivial⟩
                rcases Nat.lt_or_ge j k with g | g
                · exact HA.out j t g ht
                · obtain rfl : j = k := by omega
                  rw [HS.out] at ht
                  cases ht
                  exact HAl.out
              case measure => simp [intOf]; omega
      · obtain rfl : k = es.length := by omega
        have hall : es.all elB = true := all_yes fun j s hj => HA.out j s (List.getElem?_eq_some_iff.1 hj).1 hj
        have hR : rightG tag es = !blankB es := by rw [HE0.out, hall, Bool.and_true]
        have HR : Hid (rightG tag es = !blankB es) := hR
        clear hall hR
        by_cases h0 : es.length = 0
        · have d0 : ((es.length : Int) == 0) = true := by rw [beq_iff_eq]; omega
          have hB : blankB es = false := by unfold blankB; simp [h0]
          have HN : Hid (rightG tag es = true) := by rw [HR.out, hB]; rfl
          clear h0 hB hlt
          go_wp2
          go_ret
          exact ⟨ret_bool HN.out.symm, (Below.refl _ _).alloc (Nat.le_refl _) _⟩
        · have d0 : ((es.length : Int) == 0) = false := by rw [beq_eq_false_iff_ne]; omega
          have hkl : es.length - 1 < es.length := by omega
          obtain ⟨b, o, c1, s, u, e, hs, hc, hS⟩ := HW.out.1.at hkl
          simp only [Value.slice.injEq, true_and] at e
          obtain ⟨rfl, rfl⟩ := e
          have hsl := (HW.out.2.2 _ s hs).1
          obtain ⟨a2, cap2, rfl⟩ := hS.val
          have hB : blankB es = blank1 s := by unfold blankB; rw [hs]; simp; omega
          have hki : ((es.length : Int) - 1) = ((es.length - 1 : Nat) : Int) := by omega
          have HS : Hid (RowS (w.alloc (.cells #[.string tag, .slice (some ⟨b, o, none⟩) es.length cap] 33)) (.slice a2 s.length cap2) s ∧ rightG tag es = !blank1 s) := ⟨hS, by rw [HR.out, hB]⟩
          clear hs hS hB h0
          go_wp2_with fail
          refine (l02Empty_any _ s _ HS.out.1 hsl).mono ?_
          rintro e w2 ⟨rfl, hb2⟩
          have HB : Hid (Below w.heap.size w w2) := ((Below.refl _ _).alloc (Nat.le_refl _) _).trans (hb2.mono (by simp))
          clear hb2
          go_wp2
          go_ret
          exact ⟨ret_bool HS.out.2.symm, HB.out⟩
  · have d1 : decide ((10 : Int) < (es.length : Int)) = true := by simp; omega
    go_wp2
    go_ret
    exact ⟨ret_bool (by unfold rightG; rw [hT]; simp [h10]), (Below.refl _ _).alloc (Nat.le_refl _) _⟩
end Go.Proofs.YtjnikogaleofaaaDoor
