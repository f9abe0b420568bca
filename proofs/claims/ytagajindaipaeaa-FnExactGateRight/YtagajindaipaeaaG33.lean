/- Texts of ours put together: PnI. -/
import Derived.Test.YtagajindaipaeaaG28
namespace Go.Proofs.Ytagajindaipaeaa
open Go.ChangeShapes Go.WideShapes Go.ChangeAt Go.RowKit
theorem isCode_any (n : Int) (w : World) : Calls Try.prog 115 #[.int .i64 n] w fun e w' => e = .returned (.bool (codeB n)) ∧ w' = w := by
  by_cases h1 : 0 ≤ n
  · by_cases h2 : n ≤ 13
    · go_enter Try.func115, Try.ntmps115
      go_wp2
      go_ret
      exact ⟨ret_bool (by simp [codeB, h1, h2]), rfl⟩
    · go_enter Try.func115, Try.ntmps115
      go_wp2
      go_ret
      exact ⟨ret_bool (by simp [codeB, h1, h2]), rfl⟩
  · go_enter Try.func115, Try.ntmps115
    go_wp2
    go_ret
    exact ⟨ret_bool (by simp [codeB]; omega), rfl⟩
set_option maxHeartbeats 4000000 in
theorem seenRight_any (low : Int) (v : Value) (rs : List Sn) (w : World) (h : RowSn w v rs) (hl : 1 ≤ low ∧ low ≤ 999999) : Calls Try.prog 101 #[.int .i64 low, v] w fun e w' => e = .returned (.bool (seenB low low rs)) ∧ Below w.heap.size w w' := by
  have hlen := h.len
  obtain ⟨A, C, rfl⟩ := h.val
  have HR : Hid (RowSn w (.slice A rs.length C) rs) := h
  clear h
  obtain ⟨hl1, hl2⟩ := hl
  go_enter Try.func101, Try.ntmps101
  go_wp2
  go_loopw [5, 11] (fun l i wr => ∃ (k : Nat) (z : Int), l = .int .i64 z ∧ i = .int .i64 (k : Int) ∧ k ≤ rs.length ∧ 1 ≤ z ∧ z ≤ 1000000 ∧ seenB low low rs = seenB low z (rs.drop k) ∧ Below w.heap.size w wr) (fun _ i _ => rs.length - (intOf i).toNat)
  case atStart => exact ⟨0, low, rfl, rfl, by omega, by omega, by omega, by simp, Below.refl _ _⟩
  case round =>
    obtain ⟨k, z, rfl, rfl, hk, hz1, hz2, hE, hb⟩ := hrel
    have HE : Hid (seenB low low rs = seenB low z (rs.drop k) ∧ Below w.heap.size w wr) := ⟨hE, hb⟩
    clear hE
    by_cases hlt : k < rs.length
    · have hlt' : (k : Int) < (rs.length : Int) := by omega
      obtain ⟨b, o, cap', g, e, hs, ⟨q0, q1, q2⟩⟩ := (HR.out.below hb).at hlt
      simp only [Value.slice.injEq, true_and] at e
      obtain ⟨rfl, rfl⟩ := e
      have HS : Hid (rs[k]? = some g) := hs
      clear hs hb
      obtain ⟨num, ans, cod⟩ := g
      dsimp only at q0 q1 q2
      have bA : Below w.heap.size w (wr.alloc (.cells #[.int .i64 num, .int .i64 ans, .int .i64 cod] 113)) := HE.out.2.alloc HE.out.2.size _
      by_cases c1 : num < z
      · go_wp2
        go_ret
        exact ⟨ret_bool (by rw [HE.out.1, seen_step HS.out]; simp [snB]; intro; omega), bA⟩
      by_cases c2 : low + 32 ≤ num
      · go_wp2
        go_ret
        exact ⟨ret_bool (by rw [HE.out.1, seen_step HS.out]; simp [snB]; intro; omega), bA⟩
      by_cases c3 : 999999 < num
      · go_wp2
        go_ret
        exact ⟨ret_bool (by rw [HE.out.1, seen_step HS.out]; simp [snB]; intro; omega), bA⟩
      have c1' : ¬ num < z := c1
      have c2' : num < low + 32 := by omega
      have HF : Hid (snB low z ⟨num, ans, cod⟩ = (ctlB ans && codeB cod)) := by
        have : z ≤ num := by omega
        have h3 : num ≤ 999999 := by omega
        simp [Hid, snB, this, c2', h3]
      go_wp2_with fail
      refine (isControl_any ans _).mono ?_
      rintro e w2 ⟨rfl, rfl⟩
      cases hc : ctlB ans
      · go_wp2
        go_ret
        exact ⟨ret_bool (by rw [HE.out.1, seen_step HS.out, HF.out, hc]; rfl), bA⟩
      · go_wp2_with fail
        refine (isCode_any cod _).mono ?_
        rintro e w3 ⟨rfl, rfl⟩
        cases hd : codeB cod
        · go_wp2
          go_ret
          exact ⟨ret_bool (by rw [HE.out.1, seen_step HS.out, HF.out, hc, hd]; rfl), bA⟩
        · go_wp2
          go_roundw
          case rel => exact ⟨k + 1, num + 1, by go_num, by go_num, by omega, by omega, by omega, by rw [HE.out.1, seen_step HS.out, HF.out, hc, hd]; rfl, bA⟩
          case measure => simp [intOf]; omega
    · obtain rfl : k = rs.length := by omega
      clear hb
      go_wp2
      go_ret
      exact ⟨ret_bool (by rw [HE.out.1, seen_end]), HE.out.2⟩
set_option maxHeartbeats 2000000 in
theorem ptRight_impl (p : Ptn) (v : Value) (w : World) (h : RPt w v p) : Calls Try.prog 83 #[.agg #[.string p.name, .int .i64 p.low, .int .i64 p.next, v]] w fun e w' => e = .returned (.bool (ptnB p)) ∧ Below w.heap.size w w' := by
  obtain ⟨name, low, next, rs⟩ := p
  have hlen := h.ls.len
  obtain ⟨A, C, rfl⟩ := h.ls.val
  dsimp only at h hlen ⊢
  have b0 : Below w.heap.size w (w.alloc (.cells #[.string name, .int .i64 low, .int .i64 next, .slice A rs.length C] 73)) := (Below.refl _ _).alloc (Nat.le_refl _) _
  have HR : Hid (RowSn (w.alloc (.cells #[.string name, .int .i64 low, .int .i64 next, .slice A rs.length C] 73)) (.slice A rs.length C) rs ∧ Below w.heap.size w (w.alloc (.cells #[.string name, .int .i64 low, .int .i64 next, .slice A rs.length C] 73))) := ⟨h.ls.below b0, b0⟩
  clear h b0
  go_enter Try.func83, Try.ntmps83
  go_wp2_with fail
  refine (isName_any name _).mono ?_
  rintro e w1 ⟨rfl, rfl⟩
  cases hn : nameB name
  · go_wp2
    go_ret
    exact ⟨ret_bool (by simp [ptnB, hn]), HR.out.2⟩
  go_wp2_with fail
  refine (isControl_any low _).mono ?_
  rintro e w1 ⟨rfl, rfl⟩
  cases hl : ctlB low
  · go_wp2
    go_ret
    exact ⟨ret_bool (by simp [ptnB, hl]), HR.out.2⟩
  go_wp2_with fail
  refine (isControl_any next _).mono ?_
  rintro e w1 ⟨rfl, rfl⟩
  cases hx : ctlB next
  · go_wp2
    go_ret
    exact ⟨ret_bool (by simp [ptnB, hx]), HR.out.2⟩
  go_wp2_with fail
  refine (seenRight_any low _ rs _ HR.out.1 (ctlB_iff.1 hl)).mono ?_
  rintro e w2 ⟨rfl, hb2⟩
  have HB : Hid (Below w.heap.size w w2) := HR.out.2.trans (hb2.mono (by simp))
  clear hb2
  go_wp2
  go_ret
  exact ⟨ret_bool (by simp [ptnB, hn, hl, hx]), HB.out⟩
end Go.Proofs.Ytagajindaipaeaa
