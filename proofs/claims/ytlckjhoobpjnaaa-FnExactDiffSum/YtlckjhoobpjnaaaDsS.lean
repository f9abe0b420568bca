/- Contract of the model's DiffSum. -/
import Derived.Test.YtlckjhoobpjnaaaDsP
import Derived.Laws.BitsLemmas
namespace Go.Proofs.Ytlckjhoobpjnaaa
open Go.ChangeShapes Go.WideShapes Go.ChangeAt Go.RowKit
set_option maxHeartbeats 4000000 in
theorem diffSum_spec (v : Value) (rs : List Dff) (k : Int) (i : ByteArray) (w : World) (h : RowDf w v rs) (hz : i.size ≤ 9223372036854775807) :
    Calls Try.prog 5 #[v, .int .i64 k, .string i] w fun e w' => e = .returned (.int .i64 (diffT k i rs)) ∧ Below w.heap.size w w' := by
  have hlen := h.len
  obtain ⟨A, C, rfl⟩ := h.val
  have H0 : Hid (RowDf w (.slice A rs.length C) rs) := h
  clear h
  go_enter Try.func5, Try.ntmps5
  by_cases h1 : 400 < rs.length
  · have h1' : (400 : Int) < (rs.length : Int) := by omega
    have HT : Hid (diffT k i rs = 0) := diffT_no1 h1
    go_wp2
    go_ret
    exact ⟨by rw [HT.out]; rfl, Below.refl _ _⟩
  have h1' : ¬ (400 : Int) < (rs.length : Int) := by omega
  by_cases h2 : 20000 < i.size
  · have h2' : (20000 : Int) < (i.size : Int) := by omega
    have HT : Hid (diffT k i rs = 0) := diffT_no2 h2
    go_wp2
    go_ret
    exact ⟨by rw [HT.out]; rfl, Below.refl _ _⟩
  have h2' : ¬ (20000 : Int) < (i.size : Int) := by omega
  have HT : Hid (diffT k i rs = dsum k i rs) := diffT_yes (by omega) (by omega)
  go_wp2
  go_loopw [7, 8] (fun z ix wr => ∃ (n : Nat) (s : Int), ix = .int .i64 (n : Int) ∧ z = .int .i64 s ∧ n ≤ rs.length ∧ -9223372036854775808 ≤ s ∧ s ≤ 9223372036854775807 ∧ s = dsum k i (rs.take n) ∧ Below w.heap.size w wr) (fun _ ix _ => rs.length - (intOf ix).toNat)
  case atStart => exact ⟨0, 0, rfl, rfl, by omega, by omega, by omega, by simp [dsum], Below.refl _ _⟩
  case round =>
    obtain ⟨n, s, rfl, rfl, hn, hs0, hs1, hse, hb⟩ := hrel
    have HE : Hid (s = dsum k i (rs.take n) ∧ Below w.heap.size w wr) := ⟨hse, hb⟩
    clear hse
    by_cases hlt : n < rs.length
    · have hlt' : (n : Int) < (rs.length : Int) := by omega
      obtain ⟨b, o, cap', d, e, hs, hat, hzd⟩ := (H0.out.below hb).at hlt
      simp only [Value.slice.injEq, true_and] at e
      obtain ⟨rfl, rfl⟩ := e
      have HS : Hid (rs[n]? = some d) := hs
      obtain ⟨q0, q1, q2, q3, q4, q5⟩ := hat
      obtain ⟨z0, z1, z2⟩ := hzd
      clear hs hb
      by_cases e0 : d.kind = k
      · have e0' : (d.kind == k) = true := by simp [e0]
        cases e1 : (d.item.toList == i.toList) with
        | false =>
          have HF : Hid (dfB k i d = false) := by show _ = _; simp [dfB, e0, e1]
          go_wp2
          go_roundw
          case rel => exact ⟨n + 1, s, by go_num, rfl, by omega, by omega, by omega, by rw [dsum_next HS.out, ← HE.out.1, dfAdd_no HF.out], HE.out.2⟩
          case measure => simp [intOf]; omega
        | true =>
          have HF : Hid (dfB k i d = true) := by show _ = _; simp [dfB, e0, e1]
          obtain ⟨t, ht⟩ : ∃ t, t = wrap64 (s + d.qty) := ⟨_, rfl⟩
          have HT : Hid (t = wrap64 (s + d.qty)) := ht
          clear ht
          go_wp2
          rw [← HT.out]
          go_roundw
          case rel =>
            have hin := wrap_in (s + d.qty)
            rw [← HT.out] at hin
            exact ⟨n + 1, t, by go_num, rfl, by omega, hin.1, hin.2, by rw [dsum_next HS.out, ← HE.out.1, dfAdd_yes HF.out, HT.out], HE.out.2⟩
          case measure => simp [intOf]; omega
      · have e0' : (d.kind == k) = false := by simp [e0]
        have HF : Hid (dfB k i d = false) := by show _ = _; simp [dfB, e0]
        go_wp2
        go_roundw
        case rel => exact ⟨n + 1, s, by go_num, rfl, by omega, by omega, by omega, by rw [dsum_next HS.out, ← HE.out.1, dfAdd_no HF.out], HE.out.2⟩
        case measure => simp [intOf]; omega
    · obtain rfl : n = rs.length := by omega
      have HS : Hid (s = dsum k i rs) := by have := HE.out.1; rw [List.take_length] at this; exact this
      clear hb
      go_wp2
      go_ret
      exact ⟨by rw [HT.out, ← HS.out]; rfl, HE.out.2⟩
end Go.Proofs.Ytlckjhoobpjnaaa
