/- FnExactUnescape returns true at every Syntax and every text and leaves them as they were: impl.Unescape answers as the model's Unescape, every field; no condition. -/
import Derived.Test.YtbpndigccieaiahUnSpec
import Derived.Test.YtbpndigccieaiahToSyn
import Derived.Lib.SmallJoins
namespace Go.Proofs.Ytbpndigccieaiah
open Go.ChangeShapes Go.WideShapes Go.ChangeAt Go.RowKit Go.Joins
open Go.ChangeMaps (open_string shut_string)
set_option linter.unusedVariables false
namespace fnExactUnescape
theorem item_mem (s : ByteArray) (d : Int) {k n : Nat} (h : k < n) : item s d k ∈ upto s d n := by
  unfold upto
  exact List.mem_map.2 ⟨k, List.mem_range.2 h, rfl⟩
theorem res_nonneg1 (s : ByteArray) (d : Int) (k : Nat) : 0 ≤ (if st s d k = true then (k : Int) - 1 else k) := by
  cases k with
  | zero => simp [st]
  | succ k => split <;> omega
theorem wt_pos (s : ByteArray) (d : Int) (h : wtB d (upto s d s.size) = true) : 0 < s.size := by
  rcases Nat.eq_zero_or_pos s.size with e | e
  · rw [e] at h
    simp [upto, wtB] at h
  · exact e
theorem res_det {a b c d : Int} {s : ByteArray} {P P' : List Int} {f f' : Int} (h : Res a b c d s P f) (h' : Res a b c d s P' f') : f = f' ∧ (f < 0 → P = P') := by
  rcases h with ⟨k, hk, hg, hb, rfl⟩ | ⟨hg, hw, rfl⟩ | ⟨hg, hw, rfl, rfl⟩
  · rcases h' with ⟨k', hk', hg', hb', rfl⟩ | ⟨hg', hw', rfl⟩ | ⟨hg', hw', rfl, rfl⟩
    · obtain rfl : k = k' := by
        rcases Nat.lt_trichotomy k k' with e | e | e
        · have := hg' _ (item_mem s d e)
          rw [hb] at this
          cases this
        · exact e
        · have := hg _ (item_mem s d e)
          rw [hb'] at this
          cases this
      exact ⟨rfl, fun h => absurd (res_nonneg1 s d k) (by omega)⟩
    · have := hg' _ (item_mem s d hk)
      rw [hb] at this
      cases this
    · have := hg' _ (item_mem s d hk)
      rw [hb] at this
      cases this
  · rcases h' with ⟨k', hk', hg', hb', rfl⟩ | ⟨hg', hw', rfl⟩ | ⟨hg', hw', rfl, rfl⟩
    · have := hg _ (item_mem s d hk')
      rw [hb'] at this
      cases this
    · exact ⟨rfl, fun h => absurd (wt_pos s d hw) (by omega)⟩
    · rw [hw] at hw'
      cases hw'
  · rcases h' with ⟨k', hk', hg', hb', rfl⟩ | ⟨hg', hw', rfl⟩ | ⟨hg', hw', rfl, rfl⟩
    · have := hg _ (item_mem s d hk')
      rw [hb'] at this
      cases this
    · rw [hw] at hw'
      cases hw'
    · exact ⟨rfl, fun _ => rfl⟩
theorem un_det {a b c d : Int} {s t t' : ByteArray} {x x' k k' : Int} (h : UnOut a b c d s t x k) (h' : UnOut a b c d s t' x' k') : t = t' ∧ x = x' ∧ k = k' := by
  rcases h with ⟨h1, rfl, rfl, rfl⟩ | ⟨h1, h2, rfl, rfl, rfl⟩ | ⟨h1, h2, P, f, hR, h3⟩
  · rcases h' with ⟨g1, rfl, rfl, rfl⟩ | ⟨g1, g2, rfl, rfl, rfl⟩ | ⟨g1, g2, P', f', gR, g3⟩
    · exact ⟨rfl, rfl, rfl⟩
    · omega
    · omega
  · rcases h' with ⟨g1, rfl, rfl, rfl⟩ | ⟨g1, g2, rfl, rfl, rfl⟩ | ⟨g1, g2, P', f', gR, g3⟩
    · omega
    · exact ⟨rfl, rfl, rfl⟩
    · rw [h2] at g2
      cases g2
  · rcases h' with ⟨g1, rfl, rfl, rfl⟩ | ⟨g1, g2, rfl, rfl, rfl⟩ | ⟨g1, g2, P', f', gR, g3⟩
    · omega
    · rw [h2] at g2
      cases g2
    · obtain ⟨rfl, e2⟩ := res_det hR gR
      rcases h3 with ⟨h3, rfl, rfl, rfl⟩ | ⟨h3, rfl, rfl, rfl⟩
      · rcases g3 with ⟨g3, rfl, rfl, rfl⟩ | ⟨g3, rfl, rfl, rfl⟩
        · exact ⟨rfl, rfl, rfl⟩
        · omega
      · rcases g3 with ⟨g3, rfl, rfl, rfl⟩ | ⟨g3, rfl, rfl, rfl⟩
        · omega
        · exact ⟨by rw [e2 h3], rfl, rfl⟩
set_option maxHeartbeats 400000 in
theorem un_spec (a b c d : Int) (s : ByteArray) (w : World) : Calls Try.prog 14 #[.agg #[.int .i64 a, .int .i64 b, .int .i64 c, .int .i64 d], .string s] w fun e w' => ∃ t at_ code, e = .returned (.agg #[.string t, .int .i64 at_, .int .i64 code]) ∧ UnOut a b c d s t at_ code ∧ Below w.heap.size w w' := by
  by_cases hs : s.size ≤ 20000
  · cases hr : rightB a b c d
    · have hs' : (s.size : Int) ≤ 20000 := by omega
      go_enter Try.func14, Try.ntmps14
      go_wp2_with fail
      refine (right_spec a b c d _).mono ?_
      rintro e w1 ⟨rfl, hb1⟩
      rw [hr]
      have f1 := (Below.block hb1 (w.heap.size + 1) (by simp)).trans (heap_new2 w (.cells #[.int .i64 a, .int .i64 b, .int .i64 c, .int .i64 d] 25) (.cells #[.string ⟨#[]⟩, .int .i64 0, .int .i64 0] 31))
      have hB1 : Below w.heap.size w w1 := ((((Below.refl _ _).alloc (Nat.le_refl _) _).alloc (by simp) _).trans (hb1.mono (by simp; omega)))
      obtain ⟨t0, t1, t2, tz⟩ := res3 f1
      have HB : Hid (Below w.heap.size w w1) := hB1
      clear f1 hb1 hB1
      go_wp2
      exact bodyPost_ret (v := .agg #[.string ⟨#[]⟩, .int .i64 0, .int .i64 1]) (by simp [results, Try.results14, go_sem, t0, t1, t2]) rfl ⟨_, _, _, rfl, .inr (.inl ⟨hs, hr, rfl, rfl, rfl⟩), sets3 HB.out (by omega) _ _ _⟩
    · exact un_spec_right a b c d s w hs hr
  · have hs' : (20000 : Int) < (s.size : Int) := by omega
    go_enter Try.func14, Try.ntmps14
    go_wp2
    exact bodyPost_ret (v := .agg #[.string ⟨#[]⟩, .int .i64 0, .int .i64 2]) (by simp [results, Try.results14, go_sem]) rfl ⟨_, _, _, rfl, .inl ⟨by omega, rfl, rfl, rfl⟩, ((Below.refl _ _).alloc (Nat.le_refl _) _).alloc (by simp) _⟩
set_option maxHeartbeats 400000 in
theorem eqOut_same (t : ByteArray) (x k : Int) (w : World) : Calls Try.prog 16 #[.agg #[.string t, .int .i64 x, .int .i64 k], .agg #[.string t, .int .i64 x, .int .i64 k]] w fun e w' => e = .returned (.bool true) ∧ Below w.heap.size w w' := by
  go_enter Try.func16, Try.ntmps16
  go_wp2
  go_ret
  exact ⟨rfl, ((Below.refl _ _).alloc (Nat.le_refl _) _).alloc (by simp) _⟩
set_option maxHeartbeats 400000 in
theorem walk (a b c d : Int) (s : ByteArray) (w : World) (hs : s.size ≤ maxLen) : Calls Try.prog 5 #[.agg #[.int .i64 a, .int .i64 b, .int .i64 c, .int .i64 d], .string s] w fun e w' => e = .returned (.bool true) ∧ Below w.heap.size w w' := by
  clear hs
  by_cases hg : 1048576 < s.size
  · have hg' : (1048576 : Int) < (s.size : Int) := by omega
    go_enter Try.func5, Try.ntmps5
    go_wp2
    go_ret
    exact ⟨rfl, (Below.refl _ _).alloc (Nat.le_refl _) _⟩
  · have hg' : (s.size : Int) ≤ 1048576 := by omega
    go_enter Try.func5, Try.ntmps5
    go_wp2_with fail
    refine (toSyntax_any a b c d _).mono ?_
    rintro e w1 ⟨rfl, hb1⟩
    go_wp2_with fail
    refine (un_spec a b c d s _).mono ?_
    rintro e w2 ⟨t, x, k, rfl, hU, hb2⟩
    have HU : Hid (UnOut a b c d s t x k) := hU
    have hb12 : Below (w.heap.size + 1) _ w2 := (hb1.mono (by simp)).trans (hb2.mono (by have := hb1.size; simpa using this))
    obtain ⟨q0, q1, q2, q3, qs⟩ := box4 hb12
    clear hb1 hb2 hU
    have hq : w.heap.size < w2.heap.size := qs
    go_wp2_with fail
    refine (toSyntax_any a b c d _).mono ?_
    rintro e w3 ⟨rfl, hb3⟩
    go_wp2_with fail
    refine (un_impl a b c d s _).mono ?_
    rintro e w4 ⟨t', x', k', rfl, hU', hb4⟩
    obtain ⟨rfl, rfl, rfl⟩ := un_det HU.out hU'
    have s3 := hb3.size
    have s4 := hb4.size
    simp at s3 s4
    have f1 : w4.heap[w2.heap.size]? = some (.cells #[.string t, .int .i64 x, .int .i64 k] 31) := (Below.block hb4 w2.heap.size (by omega)).trans ((Below.block hb3 w2.heap.size (by simp)).trans (World.alloc_heap_new w2 _))
    obtain ⟨r0, r1, r2, rz⟩ := res3 f1
    have hlt : w2.heap.size < w4.heap.size := by omega
    have hb24 : Below w.heap.size w2 w4 := ((((Below.refl _ _).alloc (by omega) _).trans (hb3.mono (by simp; omega))).trans (hb4.mono (by omega)))
    have H4 : Hid (Below w.heap.size w w4) := ((Below.refl _ _).alloc (Nat.le_refl _) _).trans ((hb12.mono (by omega)).trans hb24)
    clear f1 hb3 hb4 hb24 hU' hb12 q0 q1 q2 q3
    go_wp2_with fail
    refine (eqOut_same t x k _).mono ?_
    rintro e w5 ⟨rfl, hb5⟩
    go_wp2
    go_ret
    exact ⟨rfl, H4.out.trans (((Below.refl _ _).alloc (by omega) _).trans (hb5.mono (by simp; omega)))⟩
theorem own : ownKnob Try.prog.godebug = none := by kernel_rfl
theorem laidOut : laidOutB Try.prog = true := by kernel_rfl
theorem cellsSyn : Try.prog.cellsOf 23 = 4 := by kernel_rfl
set_option maxRecDepth 100000 in
theorem lifted (os : Os) (started : os.Started) (H : Type) (enc : TypeId × Value → H) :
    ReturnsInHanded {} Try.checked os 5 .any (Rows.fnExactUnescapeSpec.pre6 enc Try.prog Try.f5 Rows.fnExactUnescapeRow.domain false) (Rows.fnExactUnescapeSpec.post enc Try.prog Try.f5 false true false false) := by
  refine returnsInHanded_of_change (C := Try.checked) own started (by kernel_rfl) Try.func5
    (ChangeSpec.witness6 (enc := enc) (C := Try.checked) false ⟨#[], #[.agg #[.int .i64 0, .int .i64 0, .int .i64 0, .int .i64 0], .string ⟨#[]⟩], []⟩ 8 (by kernel_rfl) (by kernel_rfl) (by kernel_rfl) (by kernel_rfl)) ?_
  intro W base args ds gs before hval0 hW hcnd _
  have hval : ∀ (j : Nat) t v, Try.f5.params[j]? = some t → args[j]? = some v → Value.okWide Try.prog W .any base t v := hval0
  have hW' := hW
  obtain ⟨p, q, hA0, hV, rfl, hfz, hnd⟩ := hW
  have hA : DataW.TrodAll enc Try.prog W 0 (fun _ => true) true Try.f5.params.toList args.toList ds p := hA0
  rw [Try.params5] at hA hval
  obtain ⟨v0, vs0, d0, ds0, p0, q0, hargs, rfl, rfl, h0, r0⟩ := trodAll_cons hA
  obtain ⟨v1, vs1, d1, ds1, p1, q1, rfl, rfl, rfl, h1, r1⟩ := trodAll_cons r0
  obtain ⟨rfl, rfl, rfl⟩ := trodAll_nil r1
  obtain rfl : args = #[v0, v1] := by cases args; simp_all
  obtain ⟨rfl, rfl⟩ := trodVars_none hV
  have k0 := h0
  have lt0 : ∀ x ∈ p0, x.block < W.heap.size := by obtain ⟨m, hm⟩ := k0; exact DataW.trod_lt m _ _ _ hm
  obtain ⟨a0, b0, c0, e0, rfl⟩ : ∃ a b c d : Int, v0 = .agg #[.int .i64 a, .int .i64 b, .int .i64 c, .int .i64 d] := by
    obtain ⟨c0, c1, c2, c3, y0, y1, y2, y3, m, rfl, _, _, hy0, hy1, hy2, hy3⟩ := open_agg4 Try.underlying23 (by kernel_rfl) cellsSyn (hval 0 23 v0 rfl rfl) h0
    obtain ⟨a, e0, _, _⟩ := DataW.trod_int Try.underlying2 hy0
    obtain ⟨b, e1, _, _⟩ := DataW.trod_int Try.underlying2 hy1
    obtain ⟨c, e2, _, _⟩ := DataW.trod_int Try.underlying2 hy2
    obtain ⟨d, e3, _, _⟩ := DataW.trod_int Try.underlying2 hy3
    simp at e0 e1 e2 e3
    subst e0 e1 e2 e3
    exact ⟨a, b, c, d, rfl⟩
  have k1 := h1
  have lt1 : ∀ x ∈ p1, x.block < W.heap.size := by obtain ⟨m, hm⟩ := k1; exact DataW.trod_lt m _ _ _ hm
  obtain ⟨s1, rfl, hs1⟩ : ∃ s : ByteArray, v1 = .string s ∧ s.size ≤ maxLen := by
    obtain ⟨s, rfl, _, _, hs⟩ := open_string Try.underlying9 (hval 1 9 v1 rfl rfl) h1
    exact ⟨s, rfl, hs⟩
  clear hA0 hval0
  refine (walk a0 b0 c0 e0 s1 W hs1).mono fun e W' ⟨he, bel⟩ => ?_
  subst he
  exact ⟨_, rfl, _, _, _, [], _, [], hW', trodAll_mk1 (shut_bool Try.underlying4 _), (trodAll_cons_mk (Below.trod laidOut (by kernel_rfl) (of_decide_eq_true (by kernel_rfl)) k0 bel lt0) (trodAll_cons_mk (Below.trod laidOut (by kernel_rfl) (of_decide_eq_true (by kernel_rfl)) k1 bel lt1) trodAll_mk0)), rfl, bel.frame _, fun h => by cases h⟩
theorem over : Rows.fnExactUnescapeRow.holds Try.pinned (OpenSpec.ofChange Rows.fnExactUnescapeSpec) :=
  OpenClaim.holds_of_wide 5 Try.f5 rfl rfl rfl rfl rfl rfl rfl ⟨rfl, rfl, rfl, rfl, rfl⟩ rfl rfl rfl rfl rfl (by kernel_rfl) Try.func5 (by kernel_rfl)
    (of_decide_eq_true (by kernel_rfl)) (by unfold Func.isWrapper; first | (rw [if_pos (by decide +kernel)]; kernel_rfl) | (rw [if_neg (by decide +kernel)]; exact ⟨rfl, rfl⟩))
    (fun os started H enc _ => lifted os started H enc)
end fnExactUnescape
theorem fnExactUnescape_holds : Rows.FnExactUnescapeSaid := fnExactUnescape.over
#print axioms fnExactUnescape_holds
end Go.Proofs.Ytbpndigccieaiah
