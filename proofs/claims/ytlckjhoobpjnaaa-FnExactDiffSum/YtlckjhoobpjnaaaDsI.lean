/- Contracts of the program's sum of Diffs. -/
import Derived.Test.YtlckjhoobpjnaaaDsP
import Derived.Laws.BitsLemmas
namespace Go.Proofs.Ytlckjhoobpjnaaa
open Go.ChangeShapes Go.WideShapes Go.ChangeAt Go.RowKit
set_option maxHeartbeats 4000000 in
theorem pickD_any (d : Dff) (k : Int) (i : ByteArray) (bk bi : Nat) (w : World) (hk : w.cell? ⟨bk, 0, none⟩ = some (.int .i64 k)) (hi : w.cell? ⟨bi, 0, none⟩ = some (.string i)) (hz : d.item.size ≤ 9223372036854775807 ∧ i.size ≤ 9223372036854775807) :
    Calls Try.prog 12 #[.agg #[.int .i64 d.kind, .string d.partner, .string d.ref, .int .i64 d.no, .string d.item, .int .i64 d.qty], .pointer (some ⟨bk, 0, none⟩), .pointer (some ⟨bi, 0, none⟩)] w fun e w' => e = .returned (.int .i64 (pkD k i d)) ∧ Below w.heap.size w w' := by
  obtain ⟨h1, h2⟩ := hz
  obtain ⟨W0, hW0⟩ : ∃ W0, w.alloc (.cells #[.int .i64 d.kind, .string d.partner, .string d.ref, .int .i64 d.no, .string d.item, .int .i64 d.qty] 32) = W0 := ⟨_, rfl⟩
  have hb0 : Below w.heap.size w W0 := by rw [← hW0]; exact (Below.refl _ _).alloc (Nat.le_refl _) _
  have hbx : W0.heap[w.heap.size]? = some (.cells #[.int .i64 d.kind, .string d.partner, .string d.ref, .int .i64 d.no, .string d.item, .int .i64 d.qty] 32) := by rw [← hW0]; exact World.alloc_heap_new _ _
  have kk : W0.cell? ⟨bk, 0, none⟩ = some (.int .i64 k) := (hb0.cell (cell_lt hk)).trans hk
  have ki : W0.cell? ⟨bi, 0, none⟩ = some (.string i) := (hb0.cell (cell_lt hi)).trans hi
  obtain ⟨q0, q1, q2, q3, q4, q5⟩ := box6 hbx
  have HB : Hid (Below w.heap.size w W0) := hb0
  clear hb0 hbx hk hi
  go_enter Try.func12, Try.ntmps12
  go_upto_region 1 with fail
  try rw [hW0]
  clear hW0
  by_cases e0 : d.kind = k
  · have e0' : (d.kind != k) = false := by simp [e0]
    cases e1 : (d.item.toList == i.toList) with
    | false =>
      have HF : Hid (dfB k i d = false) := by show _ = _; simp [dfB, e0, e1]
      go_wp2
      go_ret
      exact ⟨by rw [pkD_no HF.out]; rfl, HB.out⟩
    | true =>
      have HF : Hid (dfB k i d = true) := by show _ = _; simp [dfB, e0, e1]
      go_wp2
      go_ret
      exact ⟨by rw [pkD_yes HF.out]; rfl, HB.out⟩
  · have e0' : (d.kind != k) = true := by simp [e0]
    have HF : Hid (dfB k i d = false) := by show _ = _; simp [dfB, e0]
    go_wp2
    go_ret
    exact ⟨by rw [pkD_no HF.out]; rfl, HB.out⟩
set_option maxHeartbeats 4000000 in
theorem sumD_any (v : Value) (rs : List Dff) (k : Int) (i : ByteArray) (bk bi : Nat) (w : World) (h : RowDf w v rs) (hl : rs.length ≤ 400) (hk : w.cell? ⟨bk, 0, none⟩ = some (.int .i64 k)) (hi : w.cell? ⟨bi, 0, none⟩ = some (.string i)) (hz : i.size ≤ 9223372036854775807) :
    Calls Try.prog 11 #[v, .func (.func 12) #[] #[.pointer (some ⟨bk, 0, none⟩), .pointer (some ⟨bi, 0, none⟩)]] w fun e w' => e = .returned (.int .i64 (dsum k i rs)) ∧ Below w.heap.size w w' := by
  have hlen := h.len
  obtain ⟨A, C, rfl⟩ := h.val
  have H0 : Hid (RowDf w (.slice A rs.length C) rs ∧ w.cell? ⟨bk, 0, none⟩ = some (.int .i64 k) ∧ w.cell? ⟨bi, 0, none⟩ = some (.string i)) := ⟨h, hk, hi⟩
  clear h hk hi
  go_enter Try.func11, Try.ntmps11
  go_wp2_with fail
  go_loopw [5, 10] (fun z ix wr => ∃ (n : Nat) (s : Int), ix = .int .i64 (n : Int) ∧ z = .int .i64 s ∧ n ≤ rs.length ∧ -9223372036854775808 ≤ s ∧ s ≤ 9223372036854775807 ∧ s = dsum k i (rs.take n) ∧ Below w.heap.size w wr) (fun _ ix _ => rs.length - (intOf ix).toNat)
  case atStart => exact ⟨0, 0, rfl, rfl, by omega, by omega, by omega, by simp [dsum], Below.refl _ _⟩
  case round =>
    obtain ⟨n, s, rfl, rfl, hn, hs0, hs1, hse, hb⟩ := hrel
    have HE : Hid (s = dsum k i (rs.take n) ∧ Below w.heap.size w wr) := ⟨hse, hb⟩
    clear hse
    by_cases hlt : n < rs.length
    · have hlt' : (n : Int) < (rs.length : Int) := by omega
      obtain ⟨b, o, cap', d, e, hs, hat, hzd⟩ := (H0.out.1.below hb).at hlt
      simp only [Value.slice.injEq, true_and] at e
      obtain ⟨rfl, rfl⟩ := e
      have HS : Hid (rs[n]? = some d) := hs
      obtain ⟨q0, q1, q2, q3, q4, q5⟩ := hat
      obtain ⟨W0, hW0⟩ : ∃ W0, wr.alloc (.cells #[.int .i64 d.kind, .string d.partner, .string d.ref, .int .i64 d.no, .string d.item, .int .i64 d.qty] 32) = W0 := ⟨_, rfl⟩
      have hb0 : Below wr.heap.size wr W0 := by rw [← hW0]; exact (Below.refl _ _).alloc (Nat.le_refl _) _
      have hbx : W0.heap[wr.heap.size]? = some (.cells #[.int .i64 d.kind, .string d.partner, .string d.ref, .int .i64 d.no, .string d.item, .int .i64 d.qty] 32) := by rw [← hW0]; exact World.alloc_heap_new _ _
      obtain ⟨c0, c1, c2, c3, c4, c5⟩ := box6 hbx
      have hbb : Below w.heap.size w W0 := hb.trans (hb0.mono hb.size)
      have HP : Hid (∀ W, W = W0 → Calls Try.prog 12 #[.agg #[.int .i64 d.kind, .string d.partner, .string d.ref, .int .i64 d.no, .string d.item, .int .i64 d.qty], .pointer (some ⟨bk, 0, none⟩), .pointer (some ⟨bi, 0, none⟩)] W fun e w' => e = .returned (.int .i64 (pkD k i d)) ∧ Below W.heap.size W w') := fun W hW => by
        subst hW
        exact pickD_any d k i bk bi _ ((hbb.cell (cell_lt H0.out.2.1)).trans H0.out.2.1) ((hbb.cell (cell_lt H0.out.2.2)).trans H0.out.2.2) ⟨hzd.2.2, hz⟩
      have HB : Hid (Below w.heap.size w W0) := hbb
      clear hs hzd hb hb0 hbx hbb
      go_upto_region 5 with fail
      try rw [hW0]
      clear hW0 q0 q1 q2 q3 q4 q5
      obtain ⟨f, hf⟩ : ∃ f, f = (pkD k i d) := ⟨_, rfl⟩
      have Q1 := HP.out W0 rfl
      rw [← hf] at Q1
      have HF : Hid (f = (pkD k i d)) := hf
      obtain ⟨t, ht⟩ : ∃ t, t = wrap64 (s + f) := ⟨_, rfl⟩
      have HT : Hid (t = wrap64 (s + f)) := ht
      clear hf HP ht
      go_wp2_with fail
      refine Q1.mono ?_
      rintro e w2 ⟨rfl, hb2⟩
      have H2 : Hid (Below w.heap.size w w2) := HB.out.trans (hb2.mono HB.out.size)
      clear hb2 Q1 c0 c1 c2 c3 c4 c5
      go_wp2
      rw [← HT.out]
      go_roundw
      case rel =>
        have hin := wrap_in (s + f)
        rw [← HT.out] at hin
        refine ⟨n + 1, t, by go_num, rfl, by omega, hin.1, hin.2, ?_, H2.out⟩
        rw [dsum_next HS.out, ← HE.out.1, HT.out, HF.out]
        cases hB : dfB k i d with
        | false =>
          rw [dfAdd_no hB, pkD_no hB]
          rw [Int.add_zero]
          exact wrap_id ⟨hs0, hs1⟩
        | true => rw [dfAdd_yes hB, pkD_yes hB]
      case measure => simp [intOf]; omega
    · obtain rfl : n = rs.length := by omega
      have HS : Hid (s = dsum k i rs) := by have := HE.out.1; rw [List.take_length] at this; exact this
      clear hb
      go_wp2
      go_ret
      exact ⟨by rw [← HS.out]; rfl, HE.out.2⟩
set_option maxHeartbeats 4000000 in
theorem diffSum_impl (v : Value) (rs : List Dff) (k : Int) (i : ByteArray) (w : World) (h : RowDf w v rs) (hz : i.size ≤ 9223372036854775807) :
    Calls Try.prog 7 #[v, .int .i64 k, .string i] w fun e w' => e = .returned (.int .i64 (diffT k i rs)) ∧ Below w.heap.size w w' := by
  have hlen := h.len
  obtain ⟨A, C, rfl⟩ := h.val
  obtain ⟨W0, hW0⟩ : ∃ W0, (w.alloc (.cells #[.int .i64 k] 2)).alloc (.cells #[.string i] 9) = W0 := ⟨_, rfl⟩
  have hb0 : Below w.heap.size w W0 := by rw [← hW0]; exact ((Below.refl _ _).alloc (Nat.le_refl _) _).alloc (by simp) _
  have ck : W0.cell? ⟨w.heap.size, 0, none⟩ = some (.int .i64 k) := by rw [← hW0]; simp [go_sem]
  have ci : W0.cell? ⟨w.heap.size + 1, 0, none⟩ = some (.string i) := by rw [← hW0]; simp [go_sem]
  have H0 : Hid (RowDf W0 (.slice A rs.length C) rs ∧ Below w.heap.size w W0) := ⟨h.below hb0, hb0⟩
  clear h hb0
  go_enter Try.func7, Try.ntmps7
  go_upto_region 1 with fail
  try rw [hW0]
  clear hW0
  by_cases h1 : 400 < rs.length
  · have h1' : (400 : Int) < (rs.length : Int) := by omega
    have HT : Hid (diffT k i rs = 0) := diffT_no1 h1
    go_wp2
    go_ret
    exact ⟨by rw [HT.out]; rfl, H0.out.2⟩
  · have h1' : ¬ (400 : Int) < (rs.length : Int) := by omega
    by_cases h2 : 20000 < i.size
    · have h2' : (20000 : Int) < (i.size : Int) := by omega
      have HT : Hid (diffT k i rs = 0) := diffT_no2 h2
      go_wp2
      go_ret
      exact ⟨by rw [HT.out]; rfl, H0.out.2⟩
    · have h2' : ¬ (20000 : Int) < (i.size : Int) := by omega
      have HT : Hid (diffT k i rs = dsum k i rs) := diffT_yes (by omega) (by omega)
      have HC : Hid (W0.cell? ⟨w.heap.size, 0, none⟩ = some (.int .i64 k) ∧ W0.cell? ⟨w.heap.size + 1, 0, none⟩ = some (.string i)) := ⟨ck, ci⟩
      go_wp2_with fail
      refine (sumD_any _ rs k i w.heap.size (w.heap.size + 1) _ H0.out.1 (by omega) HC.out.1 HC.out.2 hz).mono ?_
      rintro e w1 ⟨rfl, hb1⟩
      have H1 : Hid (Below w.heap.size w w1) := H0.out.2.trans (hb1.mono H0.out.2.size)
      clear hb1 ck ci
      go_wp2
      go_ret
      exact ⟨by rw [HT.out]; rfl, H1.out⟩
end Go.Proofs.Ytlckjhoobpjnaaa
