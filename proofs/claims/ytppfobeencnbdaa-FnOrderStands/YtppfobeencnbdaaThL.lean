/- Contracts of the program's isClosed and standOfAll. -/
import Derived.Test.YtppfobeencnbdaaThF
import Derived.Test.YtppfobeencnbdaaThV
namespace Go.Proofs.Ytppfobeencnbdaa
open Go.ChangeShapes Go.WideShapes Go.ChangeAt Go.RowKit
theorem isClosed_any (z : Int) (w : World) : Calls Try.prog 24 #[.int .i64 z] w fun e w' => e = .returned (.bool (clZ z)) ∧ w' = w := by
  by_cases h4 : z = 4
  · subst h4
    go_enter Try.func24, Try.ntmps24
    go_wp2
    go_ret
    exact ⟨rfl, rfl⟩
  · by_cases h5 : z = 5
    · subst h5
      go_enter Try.func24, Try.ntmps24
      go_wp2
      go_ret
      exact ⟨rfl, rfl⟩
    · have HS : Hid (clZ z = false) := by show _ = _; exact decide_eq_false (by omega)
      go_enter Try.func24, Try.ntmps24
      go_wp2
      go_ret
      exact ⟨by rw [HS.out]; first | rfl | simp [h4, h5], rfl⟩
theorem alkT_snoc {z0 : Int} {ls : List OLn} {c : OLn} : alkT z0 (ls ++ [c]) = (alkT z0 ls && decide (stT c = z0)) := by simp [alkT]
theorem clsT_snoc {ls : List OLn} {c : OLn} : clsT (ls ++ [c]) = (clsT ls && clZ (stT c)) := by simp [clsT]
theorem take_snoc {ls : List OLn} {k : Nat} {c : OLn} (h : ls[k]? = some c) : ls.take (k + 1) = ls.take k ++ [c] := by
  rw [List.take_add_one, h]
  rfl
set_option maxHeartbeats 8000000 in
theorem standOfAll_any (v : Value) (ls : List OLn) (w : World) (h : RowOl w v ls) (h0 : ls ≠ []) :
    Calls Try.prog 32 #[v] w fun e w' => e = .returned (.int .i64 (allT ls)) ∧ Below w.heap.size w w' := by
  have hlen := h.len
  have hpos : 0 < ls.length := List.length_pos_iff.2 h0
  obtain ⟨b, o, C, c, rfl, hs, hat, hsz⟩ := h.at hpos
  have HR : Hid (RowOl w (.slice (some ⟨b, o, none⟩) ls.length C) ls) := h
  obtain ⟨z0, hz0⟩ : ∃ z0, z0 = fstT ls := ⟨_, rfl⟩
  have hz : stT c = z0 := by
    rw [hz0]
    cases ls with
    | nil => simp at hpos
    | cons x l => simp at hs; rw [hs]; rfl
  obtain ⟨t, ht⟩ : ∃ t, t = allT ls := ⟨_, rfl⟩
  rw [← ht]
  have HX : Hid (t = if alkT z0 ls = true then z0 else if clsT ls = true then 4 else 2) := by show _ = _; rw [ht, hz0]; rfl
  clear ht
  have hpos' : (0 : Int) < (ls.length : Int) := by omega
  simp only [Nat.zero_mul, Nat.add_zero] at hat
  obtain ⟨c0, c1, c2, c3, c4, c5, c6, c7⟩ := hat
  have Q := standOf_any c
  rw [hz] at Q
  clear h h0 hz0 hs hsz hz
  go_enter Try.func32, Try.ntmps32
  go_wp2_with fail
  refine (Q _).mono ?_
  rintro e w1 ⟨⟨f, rfl⟩, hb1⟩
  have H1 : Hid (Below w.heap.size w w1) := hb1
  have fx := fldTh1 f z0 (wdT z0)
  clear hb1 Q c0 c1 c2 c3 c4 c5 c6 c7
  go_wp2_with fail
  clear fx
  go_loopw [4, 5, 16] (fun a b i wr => ∃ k : Nat, i = .int .i64 (k : Int) ∧ k ≤ ls.length ∧ a = .bool (alkT z0 (ls.take k)) ∧ b = .bool (clsT (ls.take k)) ∧ Hid (Below w.heap.size w wr)) (fun _ _ i _ => ls.length - (intOf i).toNat)
  case atStart => exact ⟨0, rfl, by omega, rfl, rfl, H1.out⟩
  case round =>
    obtain ⟨k, rfl, hk, rfl, rfl, HW⟩ := hrel
    by_cases hlt : k < ls.length
    · have hlt' : (k : Int) < (ls.length : Int) := by omega
      obtain ⟨b', o', cap', c, e, hs, ⟨q0, q1, q2, q3, q4, q5, q6, q7⟩, hsz⟩ := (HR.out.below HW.out).at hlt
      simp only [Value.slice.injEq, Option.some.injEq, Addr.mk.injEq, and_true, true_and] at e
      obtain ⟨⟨rfl, rfl⟩, rfl⟩ := e
      obtain ⟨z, hz⟩ : ∃ z, z = stT c := ⟨_, rfl⟩
      have HA1 : Hid (alkT z0 (ls.take (k + 1)) = (alkT z0 (ls.take k) && decide (z = z0))) := by show _ = _; rw [take_snoc hs, alkT_snoc, ← hz]
      have HA2 : Hid (clsT (ls.take (k + 1)) = (clsT (ls.take k) && clZ z)) := by show _ = _; rw [take_snoc hs, clsT_snoc, ← hz]
      obtain ⟨x1, hx1⟩ : ∃ x, x = alkT z0 (ls.take k) := ⟨_, rfl⟩
      obtain ⟨x2, hx2⟩ : ∃ x, x = clsT (ls.take k) := ⟨_, rfl⟩
      rw [← hx1] at HA1 ⊢
      rw [← hx2] at HA2 ⊢
      have Q := standOf_any c
      rw [← hz] at Q
      clear hx1 hx2 hz hs hsz
      obtain ⟨W4, hW4⟩ : ∃ W4, wr.alloc (.cells #[.string c.partner, .string c.ref, .int .i64 c.no, .string c.item, .int .i64 c.ordered, .int .i64 c.sent, .int .i64 c.got, .int .i64 c.cut] 31) = W4 := ⟨_, rfl⟩
      have hb4 : Below w.heap.size w W4 := by rw [← hW4]; exact HW.out.alloc HW.out.size _
      have i4 : W4.heap[wr.heap.size]? = some (.cells #[.string c.partner, .string c.ref, .int .i64 c.no, .string c.item, .int .i64 c.ordered, .int .i64 c.sent, .int .i64 c.got, .int .i64 c.cut] 31) := by rw [← hW4]; exact World.alloc_heap_new _ _
      have HW4 : Hid (wr.alloc (.cells #[.string c.partner, .string c.ref, .int .i64 c.no, .string c.item, .int .i64 c.ordered, .int .i64 c.sent, .int .i64 c.got, .int .i64 c.cut] 31) = W4) := hW4
      have H4 : Hid (Below w.heap.size w W4 ∧ W4.heap[wr.heap.size]? = some (.cells #[.string c.partner, .string c.ref, .int .i64 c.no, .string c.item, .int .i64 c.ordered, .int .i64 c.sent, .int .i64 c.got, .int .i64 c.cut] 31)) := ⟨hb4, i4⟩
      clear hW4 hb4 i4
      go_upto_region 6 with fail
      try rw [HW4.out]
      clear HW4 q0 q1 q2 q3 q4 q5 q6 q7
      obtain ⟨c0, c1, c2, c3, c4, c5, c6, c7⟩ := box8 H4.out.2
      go_wp2_with fail
      refine (Q _).mono ?_
      rintro e w5 ⟨⟨f, rfl⟩, hb5⟩
      have H5 : Hid (Below w.heap.size w w5) := H4.out.1.trans (hb5.mono H4.out.1.size)
      have fx := fldTh1 f z (wdT z)
      clear hb5 Q c0 c1 c2 c3 c4 c5 c6 c7
      have QC := isClosed_any z
      obtain ⟨y, hy⟩ : ∃ y, y = clZ z := ⟨_, rfl⟩
      rw [← hy] at QC HA2
      clear hy
      go_upto_region 7 with fail
      clear fx
      cases x1 <;> cases x2 <;> by_cases hzz : z = z0 <;> try subst hzz
      all_goals go_wp2_with (go_at_call 24; refine (QC _).mono ?_; rintro e w6 ⟨rfl, rfl⟩)
      all_goals go_roundw
      all_goals first | (case' rel => exact ⟨k + 1, by go_num, by omega, by rw [HA1.out]; first | (simp; done) | (simp [hzz]; done), by rw [HA2.out]; simp, H5.out⟩) | skip
      all_goals simp [intOf]; omega
    · obtain rfl : k = ls.length := by omega
      rw [List.take_length]
      cases h1 : alkT z0 ls with
      | true =>
        have HS : Hid (t = z0) := by show _ = _; rw [HX.out, if_pos h1]
        go_wp2
        go_ret
        exact ⟨by rw [HS.out]; rfl, HW.out⟩
      | false =>
        cases h2 : clsT ls with
        | true =>
          have HS : Hid (t = 4) := by show _ = _; rw [HX.out, if_neg (by simp [h1]), if_pos h2]
          go_wp2
          go_ret
          exact ⟨by rw [HS.out]; rfl, HW.out⟩
        | false =>
          have HS : Hid (t = 2) := by show _ = _; rw [HX.out, if_neg (by simp [h1]), if_neg (by simp [h2])]
          go_wp2
          go_ret
          exact ⟨by rw [HS.out]; rfl, HW.out⟩
end Go.Proofs.Ytppfobeencnbdaa
