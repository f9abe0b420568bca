/- Contracts of the model's CrossOwn and CrossTheirs. -/
import Derived.Test.YtkpmkahloommoaaItBa
namespace Go.Proofs.Ytkpmkahloommoaa
open Go.ChangeShapes Go.WideShapes Go.ChangeAt Go.RowKit
set_option maxHeartbeats 4000000 in
theorem crossTheirs_spec (v : Value) (rs : List Crs) (p t : ByteArray) (w : World) (h : RowCs w v rs) (hp : p.size ≤ 9223372036854775807) (ht : t.size ≤ 9223372036854775807) : Calls Try.prog 5 #[v, .string p, .string t] w fun e w' => e = .returned (.string (theirT rs p t)) ∧ Below w.heap.size w w' := by
  have hlen := h.len
  obtain ⟨A, Cp, rfl⟩ := h.val
  have H0 : Hid (RowCs w (.slice A rs.length Cp) rs) := h
  clear h
  go_enter Try.func5, Try.ntmps5
  by_cases h0 : 400 < rs.length
  · have h0' : (400 : Int) < (rs.length : Int) := by omega
    have HE : Hid (theirT rs p t = ⟨#[]⟩) := if_neg fun e => by have := (rightB_iff.1 e.1).len; omega
    go_wp2
    go_ret
    exact ⟨by rw [HE.out]; rfl, Below.refl _ _⟩
  have h0' : ¬ (400 : Int) < (rs.length : Int) := by omega
  by_cases h1 : 20000 < p.size
  · have h1' : (20000 : Int) < (p.size : Int) := by omega
    have HE : Hid (theirT rs p t = ⟨#[]⟩) := if_neg fun e => by omega
    go_wp2
    go_ret
    exact ⟨by rw [HE.out]; rfl, Below.refl _ _⟩
  have h1' : ¬ (20000 : Int) < (p.size : Int) := by omega
  by_cases h2 : 20000 < t.size
  · have h2' : (20000 : Int) < (t.size : Int) := by omega
    have HE : Hid (theirT rs p t = ⟨#[]⟩) := if_neg fun e => by omega
    go_wp2
    go_ret
    exact ⟨by rw [HE.out]; rfl, Below.refl _ _⟩
  have h2' : ¬ (20000 : Int) < (t.size : Int) := by omega
  go_wp2_with fail
  refine (crossRight_spec _ rs _ H0.out).mono ?_
  rintro e w1 ⟨rfl, hb1⟩
  have HB : Hid (Below w.heap.size w w1) := hb1
  clear hb1
  cases hr : rightB rs
  · have HE : Hid (theirT rs p t = ⟨#[]⟩) := by simp [Hid, theirT, hr]
    go_wp2
    go_ret
    exact ⟨by rw [HE.out]; rfl, HB.out⟩
  have HE : Hid (theirT rs p t = ((atK owK (p, t) rs).map (·.theirs)).getD t ∧ RightC rs) := ⟨if_pos ⟨hr, by omega, by omega⟩, rightB_iff.1 hr⟩
  clear hr
  go_wp2_with fail
  go_loopw [7] (fun i wr => ∃ k : Nat, i = .int .i64 (k : Int) ∧ k ≤ rs.length ∧ Below w.heap.size w wr ∧ ∀ j d, j < k → rs[j]? = some d → owK d ≠ (p, t)) (fun i _ => rs.length - (intOf i).toNat)
  case atStart => exact ⟨0, rfl, by omega, HB.out, fun j d hj => by omega⟩
  case round =>
    obtain ⟨k, rfl, hk, hb, hno⟩ := hrel
    have HI : Hid (Below w.heap.size w wr ∧ ∀ j d, j < k → rs[j]? = some d → owK d ≠ (p, t)) := ⟨hb, hno⟩
    clear hno hb
    by_cases hlt : k < rs.length
    · have hlt' : (k : Int) < (rs.length : Int) := by omega
      obtain ⟨b, o, cap', c, e, hs, ⟨q0, q1, q2⟩, hz⟩ := (H0.out.below HI.out.1).at hlt
      simp only [Value.slice.injEq, true_and] at e
      obtain ⟨rfl, rfl⟩ := e
      have HS : Hid (rs[k]? = some c) := hs
      clear hs hz
      have HR : Hid (owK c ≠ (p, t) → ∀ j d, j < k + 1 → rs[j]? = some d → owK d ≠ (p, t)) := fun hc j d hj hd => by
        rcases Nat.lt_or_ge j k with g | g
        · exact HI.out.2 j d g hd
        · obtain rfl : j = k := by omega
          rw [HS.out] at hd
          cases hd
          exact hc
      cases e1 : (c.partner.toList == p.toList)
      · have HN : Hid (owK c ≠ (p, t)) := fun e => ba_ne e1 (congrArg Prod.fst e)
        go_wp2
        go_roundw
        case rel => exact ⟨k + 1, by go_num, by omega, HI.out.1, HR.out HN.out⟩
        case measure => simp [intOf]; omega
      · cases e2 : (c.own.toList == t.toList)
        · have HN : Hid (owK c ≠ (p, t)) := fun e => ba_ne e2 (congrArg Prod.snd e)
          go_wp2
          go_roundw
          case rel => exact ⟨k + 1, by go_num, by omega, HI.out.1, HR.out HN.out⟩
          case measure => simp [intOf]; omega
        · have HF : Hid (theirT rs p t = c.theirs) := by
            have hc : (p, t) = owK c := by simp [owK, ba_eq e1, ba_eq e2]
            show theirT rs p t = c.theirs
            rw [HE.out.1, hc, atK_some HE.out.2.owPair (List.mem_of_getElem? HS.out)]
            rfl
          go_wp2
          go_ret
          exact ⟨by rw [HF.out]; rfl, HI.out.1⟩
    · obtain rfl : k = rs.length := by omega
      have HF : Hid (theirT rs p t = t) := by
        show theirT rs p t = t
        rw [HE.out.1, atK_none fun c hc => ?_]
        · rfl
        · obtain ⟨j, hj⟩ := List.getElem?_of_mem hc
          exact HI.out.2 j c (List.getElem?_eq_some_iff.1 hj).1 hj
      go_wp2
      go_ret
      exact ⟨by rw [HF.out]; rfl, HI.out.1⟩
end Go.Proofs.Ytkpmkahloommoaa
