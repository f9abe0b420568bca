/- FnExactSyntaxRead returns true at every text and leaves it as it was: impl.SyntaxRead answers as the model's SyntaxRead, every field; no condition. -/
import Derived.Test.YtbpndigccieaiahSynReadS
import Derived.Lib.SmallJoins
namespace Go.Proofs.Ytbpndigccieaiah
open Go.ChangeShapes Go.WideShapes Go.ChangeAt Go.RowKit Go.Joins
open Go.ChangeMaps (open_string shut_string)
set_option linter.unusedVariables false
namespace exactSyntaxRead
theorem own : ownKnob Try.prog.godebug = none := by kernel_rfl
theorem laidOut : laidOutB Try.prog = true := by kernel_rfl
def Reads (s : ByteArray) (a b c d u k : Int) : Prop :=
  (∀ w, Calls Try.prog 24 #[.string s] w fun e w' => e = .returned (.agg #[.int .i64 a, .int .i64 b, .int .i64 c, .int .i64 d, .int .i64 u, .int .i64 k]) ∧ Below w.heap.size w w') ∧
  (∀ w, Calls Try.prog 25 #[.string s] w fun e w' => e = .returned (.agg #[.int .i64 a, .int .i64 b, .int .i64 c, .int .i64 d, .int .i64 u, .int .i64 k]) ∧ Below w.heap.size w w')
theorem pre_cases (s : ByteArray) (h : preB s = false) : (0 < s.size ∧ (byt s 0 == 83) = false) ∨ (1 < s.size ∧ (byt s 0 == 83) = true ∧ (byt s 1 == 89) = false) ∨ (2 < s.size ∧ (byt s 0 == 83) = true ∧ (byt s 1 == 89) = true ∧ (byt s 2 == 78) = false) := by
  have key : ∀ i c, (decide (s.size ≤ i) || byt s i == c) = false → i < s.size ∧ (byt s i == c) = false := by
    intro i c h
    rw [Bool.or_eq_false_iff, decide_eq_false_iff_not] at h
    exact ⟨by omega, h.2⟩
  have pos : ∀ i c, (decide (s.size ≤ i) || byt s i == c) = true → i < s.size → (byt s i == c) = true := by
    intro i c h g
    rw [Bool.or_eq_true, decide_eq_true_iff] at h
    exact h.resolve_left (by omega)
  unfold preB at h
  cases a0 : (decide (s.size ≤ 0) || byt s 0 == 83)
  · exact .inl (key 0 83 a0)
  · cases a1 : (decide (s.size ≤ 1) || byt s 1 == 89)
    · obtain ⟨g, e⟩ := key 1 89 a1
      exact .inr (.inl ⟨g, pos 0 83 a0 (by omega), e⟩)
    · rw [a0, a1, Bool.true_and, Bool.true_and] at h
      obtain ⟨g, e⟩ := key 2 78 h
      exact .inr (.inr ⟨g, pos 0 83 a0 (by omega), pos 1 89 a1 (by omega), e⟩)
theorem pre_true (s : ByteArray) (h : preB s = true) : (0 < s.size → (byt s 0 == 83) = true) ∧ (1 < s.size → (byt s 1 == 89) = true) ∧ (2 < s.size → (byt s 2 == 78) = true) := by
  unfold preB at h
  simp only [Bool.and_eq_true, Bool.or_eq_true, decide_eq_true_eq] at h
  obtain ⟨h0, h1, h2⟩ := h
  refine ⟨fun g => ?_, fun g => ?_, fun g => ?_⟩
  · rcases h0 with h0 | h0
    · omega
    · exact h0
  · rcases h1 with h0 | h0
    · omega
    · exact h0
  · rcases h2 with h0 | h0
    · omega
    · exact h0
theorem reads (s : ByteArray) (hs : s.size ≤ maxLen) : ∃ a b c d u k, Reads s a b c d u k := by
  by_cases hb : 20000 < s.size
  · exact ⟨0, 0, 0, 0, 0, 2, fun w => read_spec_big s w hs hb, fun w => read_impl_big s w hs hb⟩
  have h2 : s.size ≤ 20000 := by omega
  cases hp : preB s
  · refine ⟨0, 0, 0, 0, 0, 3, fun w => ?_, fun w => read_impl_pre s w h2 hp⟩
    rcases pre_cases s hp with ⟨g, e0⟩ | ⟨g, e0, e1⟩ | ⟨g, e0, e1, e2⟩
    · exact read_spec_pre0 s w h2 g e0
    · exact read_spec_pre1 s w h2 g e0 e1
    · exact read_spec_pre2 s w h2 g e0 e1 e2
  obtain ⟨p0, p1, p2⟩ := pre_true s hp
  by_cases h7 : s.size < 7
  · refine ⟨0, 0, 0, 0, 0, 4, fun w => ?_, fun w => read_impl_short s w h2 hp h7⟩
    by_cases g0 : s.size ≤ 0
    · exact read_spec_short0 s w h2 (by omega) g0
    by_cases g1 : s.size ≤ 1
    · exact read_spec_short1 s w h2 (by omega) g1 (p0 (by omega))
    by_cases g2 : s.size ≤ 2
    · exact read_spec_short2 s w h2 (by omega) g2 (p0 (by omega)) (p1 (by omega))
    · exact read_spec_short3 s w h2 (by omega) h7 (p0 (by omega)) (p1 (by omega)) (p2 (by omega))
  have h7' : 7 ≤ s.size := by omega
  cases hr : rightB (byt s 3) (byt s 4) (byt s 5) (byt s 6)
  · exact ⟨0, 0, 0, 0, 0, 3, fun w => read_spec_not s w h2 h7' (p0 (by omega)) (p1 (by omega)) (p2 (by omega)) hr, fun w => read_impl_not s w h2 h7' hp hr⟩
  · exact ⟨_, _, _, _, 7, 0, fun w => read_spec_ok s w h2 h7' (p0 (by omega)) (p1 (by omega)) (p2 (by omega)) hr, fun w => read_impl_ok s w h2 h7' hp hr⟩
set_option maxHeartbeats 400000 in
theorem eqSyntax_same (a b c d : Int) (w : World) : Calls Try.prog 38 #[.agg #[.int .i64 a, .int .i64 b, .int .i64 c, .int .i64 d], .agg #[.int .i64 a, .int .i64 b, .int .i64 c, .int .i64 d]] w fun e w' => e = .returned (.bool true) ∧ Below w.heap.size w w' := by
  go_enter Try.func38, Try.ntmps38
  go_wp2
  go_ret
  exact ⟨rfl, ((Below.refl _ _).alloc (Nat.le_refl _) _).alloc (by simp) _⟩
set_option maxHeartbeats 400000 in
theorem eqOut_same (a b c d u k : Int) (w : World) : Calls Try.prog 26 #[.agg #[.int .i64 a, .int .i64 b, .int .i64 c, .int .i64 d, .int .i64 u, .int .i64 k], .agg #[.int .i64 a, .int .i64 b, .int .i64 c, .int .i64 d, .int .i64 u, .int .i64 k]] w fun e w' => e = .returned (.bool true) ∧ Below w.heap.size w w' := by
  go_enter Try.func26, Try.ntmps26
  go_wp2_with fail
  refine (eqSyntax_same a b c d _).mono ?_
  rintro e w1 ⟨rfl, hb⟩
  have hb2 : Below (w.heap.size + 1) (w.alloc _) w1 := ((Below.refl _ _).alloc (by simp) _).trans (hb.mono (by simp))
  obtain ⟨c0, c1, c2, c3, c4, c5, hf, hz⟩ := res6 hb2
  obtain ⟨d0, d1, d2, d3, d4, d5, hf', hz'⟩ := res6 (hb.mono (Nat.le_of_eq (by simp)))
  simp at d0 d1 d2 d3 d4 d5
  clear hb
  go_wp2
  go_ret
  exact ⟨rfl, ((Below.refl _ _).alloc (Nat.le_refl _) _).trans (hb2.mono (by omega))⟩
set_option maxHeartbeats 400000 in
theorem walk (s : ByteArray) (w : World) (hs : s.size ≤ maxLen) : Calls Try.prog 8 #[.string s] w fun e w' => e = .returned (.bool true) ∧ Below w.heap.size w w' := by
  by_cases hg : 1048576 < s.size
  · have hg' : (1048576 : Int) < (s.size : Int) := by omega
    unfold maxLen at hs
    go_enter Try.func8, Try.ntmps8
    go_wp2
    go_ret
    exact ⟨rfl, Below.refl _ _⟩
  · obtain ⟨a, b, c, d, u, k, HS, HI⟩ := reads s hs
    have HS' : Hid (∀ w, Calls Try.prog 24 #[.string s] w fun e w' => e = .returned (.agg #[.int .i64 a, .int .i64 b, .int .i64 c, .int .i64 d, .int .i64 u, .int .i64 k]) ∧ Below w.heap.size w w') := HS
    have HI' : Hid (∀ w, Calls Try.prog 25 #[.string s] w fun e w' => e = .returned (.agg #[.int .i64 a, .int .i64 b, .int .i64 c, .int .i64 d, .int .i64 u, .int .i64 k]) ∧ Below w.heap.size w w') := HI
    clear HS HI hs
    have hg' : (s.size : Int) ≤ 1048576 := by omega
    go_enter Try.func8, Try.ntmps8
    go_wp2_with fail
    refine (HS'.out _).mono ?_
    rintro e w1 ⟨rfl, hb1⟩
    go_wp2_with fail
    refine (HI'.out _).mono ?_
    rintro e w2 ⟨rfl, hb2⟩
    obtain ⟨c0, c1, c2, c3, c4, c5, hf, hz⟩ := res6 (hb2.mono (Nat.le_of_eq (by simp)))
    clear HS' HI'
    have hlt : w1.heap.size < w2.heap.size := hz
    go_wp2_with fail
    refine (eqOut_same a b c d u k _).mono ?_
    rintro e w3 ⟨rfl, hb3⟩
    go_wp2
    go_ret
    refine ⟨rfl, ?_⟩
    have s1 := hb1.size
    refine hb1.trans (((Below.refl _ _).alloc s1 _).trans ((hb2.mono (by simp; omega)).trans (((Below.refl _ _).alloc (by have := hb2.size; simp at this; omega) _).trans (hb3.mono (by have := hb2.size; simp at this ⊢; omega)))))
set_option maxRecDepth 100000 in
theorem lifted (os : Os) (started : os.Started) (H : Type) (enc : TypeId × Value → H) :
    ReturnsInHanded {} Try.checked os 8 .any (Rows.fnExactSyntaxReadSpec.pre6 enc Try.prog Try.f8 Rows.fnExactSyntaxReadRow.domain false) (Rows.fnExactSyntaxReadSpec.post enc Try.prog Try.f8 false true false false) := by
  refine returnsInHanded_of_change (C := Try.checked) own started (by kernel_rfl) Try.func8
    (ChangeSpec.witness6 (enc := enc) (C := Try.checked) false ⟨#[], #[.string ⟨#[]⟩], []⟩ 8 (by kernel_rfl) (by kernel_rfl) (by kernel_rfl) (by kernel_rfl)) ?_
  intro W base args ds gs before hval0 hW hcnd _
  have hval : ∀ (j : Nat) t v, Try.f8.params[j]? = some t → args[j]? = some v → Value.okWide Try.prog W .any base t v := hval0
  have hW' := hW
  obtain ⟨p, q, hA0, hV, rfl, hfz, hnd⟩ := hW
  have hA : DataW.TrodAll enc Try.prog W 0 (fun _ => true) true Try.f8.params.toList args.toList ds p := hA0
  rw [Try.params8] at hA hval
  obtain ⟨v0, vs0, d0, ds0, p0, q0, hargs, rfl, rfl, h0, r0⟩ := trodAll_cons hA
  obtain ⟨rfl, rfl, rfl⟩ := trodAll_nil r0
  obtain rfl : args = #[v0] := by cases args; simp_all
  obtain ⟨rfl, rfl⟩ := trodVars_none hV
  have k0 := h0
  have lt0 : ∀ x ∈ p0, x.block < W.heap.size := by obtain ⟨m, hm⟩ := k0; exact DataW.trod_lt m _ _ _ hm
  obtain ⟨s, rfl, hs⟩ : ∃ s : ByteArray, v0 = .string s ∧ s.size ≤ maxLen := by
    obtain ⟨s, rfl, _, _, hs⟩ := open_string Try.underlying9 (hval 0 9 v0 rfl rfl) h0
    exact ⟨s, rfl, hs⟩
  clear hA0 hval0
  refine (walk s W hs).mono fun e W' ⟨he, bel⟩ => ?_
  subst he
  exact ⟨_, rfl, _, _, _, [], _, [], hW', trodAll_mk1 (shut_bool Try.underlying4 _), (trodAll_cons_mk (Below.trod laidOut (by kernel_rfl) (of_decide_eq_true (by kernel_rfl)) k0 bel lt0) trodAll_mk0), rfl, bel.frame _, fun h => by cases h⟩
theorem over : Rows.fnExactSyntaxReadRow.holds Try.pinned (OpenSpec.ofChange Rows.fnExactSyntaxReadSpec) :=
  OpenClaim.holds_of_wide 8 Try.f8 rfl rfl rfl rfl rfl rfl rfl ⟨rfl, rfl, rfl, rfl, rfl⟩ rfl rfl rfl rfl rfl (by kernel_rfl) Try.func8 (by kernel_rfl)
    (of_decide_eq_true (by kernel_rfl)) (by unfold Func.isWrapper; first | (rw [if_pos (by decide +kernel)]; kernel_rfl) | (rw [if_neg (by decide +kernel)]; exact ⟨rfl, rfl⟩))
    (fun os started H enc _ => lifted os started H enc)
end exactSyntaxRead
theorem exactSyntaxRead_holds : Rows.FnExactSyntaxReadSaid := exactSyntaxRead.over
#print axioms exactSyntaxRead_holds
end Go.Proofs.Ytbpndigccieaiah
