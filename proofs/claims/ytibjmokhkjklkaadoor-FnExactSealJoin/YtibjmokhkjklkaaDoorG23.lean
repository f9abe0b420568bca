/- Texts of ours put together: EtA. -/
import Derived.Test.YtibjmokhkjklkaaDoorG22
import Derived.Test.YtibjmokhkjklkaaDoorG15
import Derived.Test.YtibjmokhkjklkaaDoorG01
namespace Go.Proofs.YtibjmokhkjklkaaDoor
open Go.ChangeShapes Go.WideShapes Go.ChangeAt Go.RowKit
set_option maxHeartbeats 4000000 in
theorem allE_any (v : Value) (rs : List EvR) (w : World) (h : RowEv w v rs) : Calls Tryd.prog 37 #[v, .func (.func 33) #[] #[]] w fun e w' => e = .returned (.bool (allE rs)) ∧ Below w.heap.size w w' := by
  have hlen := h.len
  obtain ⟨A, Cp, rfl⟩ := h.val
  have H0 : Hid (RowEv w (.slice A rs.length Cp) rs) := h
  clear h
  go_enter Tryd.func37, Tryd.ntmps37
  go_wp2_with fail
  go_loopw [9] (fun i wr => ∃ k : Nat, i = .int .i64 (k : Int) ∧ k ≤ rs.length ∧ Below w.heap.size w wr ∧ ∀ i c, i < k → rs[i]? = some c → evB c = true) (fun i _ => rs.length - (intOf i).toNat)
  case atStart => exact ⟨0, rfl, by omega, Below.refl _ _, fun i c hi => by omega⟩
  case round =>
    obtain ⟨k, rfl, hk, hb, hok⟩ := hrel
    have HI : Hid (Below w.heap.size w wr ∧ ∀ i c, i < k → rs[i]? = some c → evB c = true) := ⟨hb, hok⟩
    clear hok hb
    by_cases hlt : k < rs.length
    · have hlt' : (k : Int) < (rs.length : Int) := by omega
      obtain ⟨b, o, cap', c, e, hs, hat, hz⟩ := (H0.out.below HI.out.1).at hlt
      simp only [Value.slice.injEq, true_and] at e
      obtain ⟨rfl, rfl⟩ := e
      have HS : Hid (rs[k]? = some c) := hs
      obtain ⟨q0, q1, q2, q3⟩ := hat
      clear hs hz
      obtain ⟨x, hx⟩ : ∃ x, x = evB c := ⟨_, rfl⟩
      have Q1 := eventRight_impl c
      rw [← hx] at Q1
      have HX : Hid (x = evB c) := hx
      clear hx
      have HB : Hid (∀ o W, Below (wr.alloc o).heap.size (wr.alloc o) W → Below w.heap.size w W) := fun o W hW => HI.out.1.trans (((Below.refl _ wr).alloc (Nat.le_refl _) o).trans (hW.mono (by simp)) |>.mono HI.out.1.size)
      go_wp2_with fail
      refine (Q1 _).mono ?_
      rintro e w2 ⟨rfl, hg⟩
      have H2 : Hid (Below w.heap.size w w2) := HB.out _ _ hg
      clear hg HB
      cases x with
      | false =>
        have HN : Hid (allE rs = false) := allE_at HS.out HX.out.symm
        go_wp2
        go_ret
        exact ⟨by rw [HN.out]; rfl, H2.out⟩
      | true =>
        go_wp2
        go_roundw
        case rel =>
          refine ⟨k + 1, by go_num, by omega, H2.out, fun i y hi hy => ?_⟩
          rcases Nat.lt_or_ge i k with g | g
          · exact HI.out.2 i y g hy
          · obtain rfl : i = k := by omega
            rw [HS.out] at hy
            cases hy
            exact HX.out.symm
        case measure => simp [intOf]; omega
    · obtain rfl : k = rs.length := by omega
      have HN : Hid (allE rs = true ∧ Below w.heap.size w wr) := ⟨allE_yes HI.out.2, HI.out.1⟩
      go_wp2
      go_ret
      exact ⟨by rw [HN.out.1]; rfl, HN.out.2⟩
set_option maxHeartbeats 4000000 in
theorem eventsRight_any (v : Value) (rs : List EvR) (w : World) (h : RowEv w v rs) : Calls Tryd.prog 25 #[v] w fun e w' => e = .returned (.bool (decide (rs.length ≤ 60) && allE rs)) ∧ Below w.heap.size w w' := by
  have hlen := h.len
  obtain ⟨A, Cp, rfl⟩ := h.val
  have H0 : Hid (RowEv w (.slice A rs.length Cp) rs) := h
  clear h
  have Q1 := fun W h => allE_any (.slice A rs.length Cp) rs W h
  obtain ⟨x, hx⟩ : ∃ x, x = allE rs := ⟨_, rfl⟩
  rw [← hx] at Q1 ⊢
  clear hx
  go_enter Tryd.func25, Tryd.ntmps25
  by_cases hl : rs.length ≤ 60
  · have hl' : (rs.length : Int) ≤ 60 := by omega
    have HD : Hid (decide (rs.length ≤ 60) = true) := decide_eq_true hl
    go_wp2_with fail
    refine (Q1 _ H0.out).mono ?_
    rintro e w1 ⟨rfl, hb1⟩
    have H1 : Hid (Below w.heap.size w w1) := hb1
    clear hb1
    go_wp2
    go_ret
    exact ⟨by first | rfl | (rw [HD.out]; rfl) | (rw [HD.out]; simp) | simp, H1.out⟩
  · have hl' : ¬ (rs.length : Int) ≤ 60 := by omega
    have HD : Hid (decide (rs.length ≤ 60) = false) := decide_eq_false hl
    go_wp2
    go_ret
    exact ⟨by first | rfl | (rw [HD.out]; rfl), Below.refl _ _⟩
end Go.Proofs.YtibjmokhkjklkaaDoor
