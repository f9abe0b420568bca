/- FnExactCutAt returns true at every Syntax, every text and every number and leaves them as they were: impl.CutAt answers as the model's CutAt, in a list of its own memory that no later call changes; no condition. -/
import Derived.Test.YtbpndigccieaiahCutBoth
import Derived.Test.YtbpndigccieaiahMarks
import Derived.Test.YtbpndigccieaiahToSyn
import Derived.Lib.SmallJoins
namespace Go.Proofs.Ytbpndigccieaiah
open Go.ChangeShapes Go.WideShapes Go.ChangeAt Go.RowKit Go.Joins
open Go.ChangeMaps (open_string shut_string)
set_option linter.unusedVariables false
namespace fnExactCutAt
theorem strs_map (ps : List (List Int)) : strs ps = (ps.map strOfNums).map Value.string := by simp [strs]
theorem cutP_len (a b c d : Int) (s : ByteArray) (y : Int) : ((cutP a b c d s y).map strOfNums).length ≤ 20001 := by
  rw [List.length_map]
  unfold cutP
  split
  · next h =>
    have := (cutZ_len y (upto s d s.size)).1
    rw [upto_length] at this
    simp
    omega
  · simp
theorem row_of {W : World} {n₀ : Nat} {v : Value} {ps : List (List Int)} (h : W.ownsRow n₀ 9 1 v ps.length (strs ps)) : ∃ g ad cap, v = .slice ad (ps.map strOfNums).length cap ∧ SRow W n₀ g ad (ps.map strOfNums) :=
  SRow.of_owns (by rw [strs_map] at h; simpa using h)
theorem mark1 (ad : Option Addr) (cap g n₀ : Nat) (T : List ByteArray) (w : World) (hT : T.length ≤ 40001) (h : SRow w n₀ g ad T) :
    Calls Try.prog 20 #[.slice ad T.length cap, .int .i64 1] w fun e w' => e = .returned (.int .i64 ((1 + T.length : Nat) : Int)) ∧ (∀ i, i < T.length → w'.cell? ⟨g, i, none⟩ = some (.string (mt (1 + i)))) ∧ ∀ B, (0 < T.length → B = g) → Keep B w w' := markStrings_any ad cap g n₀ 1 T w hT (by omega) (by omega) h
theorem held1 (ad : Option Addr) (cap g n : Nat) (w : World) (hn : n ≤ 40001) (hat : 0 < n → ad = some ⟨g, 0, none⟩) (hc : ∀ i, i < n → w.cell? ⟨g, i, none⟩ = some (.string (mt (1 + i)))) :
    Calls Try.prog 21 #[.slice ad n cap, .int .i64 1] w fun e w' => e = .returned (.int .i64 ((1 + n : Nat) : Int)) ∧ Below w.heap.size w w' := heldStrings_any ad cap g 1 n w hn (by omega) (by omega) hat hc
theorem cut_specT {a b c d : Int} {s : ByteArray} {y : Int} {T : List ByteArray} (hT : (cutP a b c d s y).map strOfNums = T) (w : World) : Calls Try.prog 17 #[.agg #[.int .i64 a, .int .i64 b, .int .i64 c, .int .i64 d], .string s, .int .i64 y] w fun e w' => ∃ g ad cap, e = .returned (.slice ad T.length cap) ∧ SRow w' w.heap.size g ad T ∧ Below w.heap.size w w' := by
  refine (cut_spec a b c d s y w).mono ?_
  rintro e w' ⟨v, rfl, hr, hb⟩
  obtain ⟨g, ad, cap, rfl, S⟩ := row_of hr
  rw [hT] at S ⊢
  exact ⟨g, ad, cap, rfl, S, hb⟩
theorem cut_implT {a b c d : Int} {s : ByteArray} {y : Int} {T : List ByteArray} (hT : (cutP a b c d s y).map strOfNums = T) (w : World) : Calls Try.prog 18 #[.agg #[.int .i64 a, .int .i64 b, .int .i64 c, .int .i64 d], .string s, .int .i64 y] w fun e w' => ∃ g ad cap, e = .returned (.slice ad T.length cap) ∧ SRow w' w.heap.size g ad T ∧ Below w.heap.size w w' := by
  refine (cut_impl a b c d s y w).mono ?_
  rintro e w' ⟨v, rfl, hr, hb⟩
  obtain ⟨g, ad, cap, rfl, S⟩ := row_of hr
  rw [hT] at S ⊢
  exact ⟨g, ad, cap, rfl, S, hb⟩
set_option maxHeartbeats 2000000 in
theorem walk (a b c d : Int) (s : ByteArray) (y : Int) (w : World) (hs : s.size ≤ maxLen) : Calls Try.prog 6 #[.agg #[.int .i64 a, .int .i64 b, .int .i64 c, .int .i64 d], .string s, .int .i64 y] w fun e w' => e = .returned (.bool true) ∧ Below w.heap.size w w' := by
  clear hs
  by_cases hg : 1048576 < s.size
  · have hg' : (1048576 : Int) < (s.size : Int) := by omega
    go_enter Try.func6, Try.ntmps6
    go_wp2
    go_ret
    exact ⟨rfl, (Below.refl _ _).alloc (Nat.le_refl _) _⟩
  · have hg' : (s.size : Int) ≤ 1048576 := by omega
    obtain ⟨T, hT⟩ : ∃ T, (cutP a b c d s y).map strOfNums = T := ⟨_, rfl⟩
    have hTl := cutP_len a b c d s y
    rw [hT] at hTl
    have HTg : Hid ((cutP a b c d s y).map strOfNums = T) := hT
    clear hT
    go_enter Try.func6, Try.ntmps6
    go_wp2_with fail
    refine (toSyntax_any a b c d _).mono ?_
    rintro e w1 ⟨rfl, hb1⟩
    go_wp2_with fail
    refine (cut_specT HTg.out _).mono ?_
    rintro e w2 ⟨g0, ad0, cap0, rfl, S0, hb2⟩
    have z1 := hb1.size
    have z2 := hb2.size
    simp at z1
    have fbw2 : w2.heap[w.heap.size]? = some (.cells #[.int .i64 a, .int .i64 b, .int .i64 c, .int .i64 d] 23) := (Below.block hb2 w.heap.size (by omega)).trans ((Below.block hb1 w.heap.size (by simp)).trans (World.alloc_heap_new w _))
    have B2 : Below w.heap.size w w2 := (((Below.refl _ _).alloc (Nat.le_refl _) _).trans (hb1.mono (by simp))).trans (hb2.mono (by omega))
    have x0w2 : w2.cell? ⟨w.heap.size, 0, none⟩ = some (.int .i64 a) := by simp [World.cell?, fbw2]
    have x1w2 : w2.cell? ⟨w.heap.size, 1, none⟩ = some (.int .i64 b) := by simp [World.cell?, fbw2]
    have x2w2 : w2.cell? ⟨w.heap.size, 2, none⟩ = some (.int .i64 c) := by simp [World.cell?, fbw2]
    have x3w2 : w2.cell? ⟨w.heap.size, 3, none⟩ = some (.int .i64 d) := by simp [World.cell?, fbw2]
    have H2 : Hid (SRow w2 w1.heap.size g0 ad0 T ∧ Below w.heap.size w w2 ∧ w2.heap[w.heap.size]? = some (.cells #[.int .i64 a, .int .i64 b, .int .i64 c, .int .i64 d] 23)) := ⟨S0, B2, fbw2⟩
    have q2 : w.heap.size + 1 ≤ w1.heap.size := by omega
    have q3 : w1.heap.size ≤ w2.heap.size := z2
    clear hb1 hb2 S0 B2 fbw2 z1 z2
    go_wp2_with fail
    refine (toSyntax_any a b c d _).mono ?_
    rintro e w3 ⟨rfl, hb3⟩
    go_wp2_with fail
    refine (cut_implT HTg.out _).mono ?_
    rintro e w4 ⟨g1, ad1, cap1, rfl, S1, hb4⟩
    have z3 := hb3.size
    have z4 := hb4.size
    have hb24 : Below w2.heap.size w2 w4 := hb3.trans (hb4.mono z3)
    have S0 := H2.out.1.below hb24
    have hne : 0 < T.length → g0 ≠ g1 := fun h0 => by
      have := cell_lt (H2.out.1.cell 0 h0)
      have := S1.base h0
      omega
    have hg1 : 0 < T.length → w.heap.size < g1 := fun h0 => by
      have := S1.base h0
      omega
    have B4 : Below w.heap.size w w4 := H2.out.2.1.trans (hb24.mono (by omega))
    have fb4 : w4.heap[w.heap.size]? = some (.cells #[.int .i64 a, .int .i64 b, .int .i64 c, .int .i64 d] 23) := (hb24.block w.heap.size (by omega)).trans H2.out.2.2
    have H4 : Hid (SRow w4 w1.heap.size g0 ad0 T ∧ SRow w4 w3.heap.size g1 ad1 T ∧ (0 < T.length → g0 ≠ g1) ∧ (0 < T.length → w.heap.size < g1) ∧ Below w.heap.size w w4 ∧ w4.heap[w.heap.size]? = some (.cells #[.int .i64 a, .int .i64 b, .int .i64 c, .int .i64 d] 23) ∧ w.heap.size < w4.heap.size) := ⟨S0, S1, hne, hg1, B4, fb4, by omega⟩
    clear hb3 hb4 hb24 S0 S1 hne hg1 B4 fb4 H2 x0w2 x1w2 x2w2 x3w2 z3 z4 q2 q3
    go_wp2_with fail
    refine (eqStrings_same ad1 ad0 cap1 cap0 g1 g0 w3.heap.size w1.heap.size T _ (by omega) H4.out.2.1 H4.out.1).mono ?_
    rintro e w5 ⟨rfl, q, hq⟩
    subst hq
    go_wp2_with fail
    refine (mark1 ad1 cap1 g1 w3.heap.size T _ (by omega) (H4.out.2.1.below (below_drewN (Below.refl _ _) _))).mono ?_
    rintro e w6 ⟨rfl, hm6, hk6⟩
    obtain ⟨S0, S1, hne, hg1, B4, fb4, hz4⟩ := H4.out
    obtain ⟨B, hBg, hBw⟩ : ∃ B, (0 < T.length → B = g1) ∧ w.heap.size < B := by
      by_cases h0 : 0 < T.length
      · exact ⟨g1, fun _ => rfl, hg1 h0⟩
      · exact ⟨w.heap.size + 1, fun h => absurd h h0, by omega⟩
    have hK6 := hk6 B hBg
    have S06 := (S0.below (below_drewN (Below.refl _ _) q)).keep hK6 (fun h0 => by rw [hBg h0]; exact hne h0)
    have B6 : Below w.heap.size w w6 := (below_drewN B4 q).trans (hK6.below (by omega) (show w.heap.size ≤ w4.heap.size by omega))
    have fb6 : w6.heap[w.heap.size]? = some (.cells #[.int .i64 a, .int .i64 b, .int .i64 c, .int .i64 d] 23) := (hK6.block w.heap.size (show w.heap.size < w4.heap.size by omega) (by omega)).trans fb4
    have H6 : Hid (SRow w6 w1.heap.size g0 ad0 T ∧ (0 < T.length → ad1 = some ⟨g1, 0, none⟩) ∧ (∀ i, i < T.length → w6.cell? ⟨g1, i, none⟩ = some (.string (mt (1 + i)))) ∧ Below w.heap.size w w6 ∧ w6.heap[w.heap.size]? = some (.cells #[.int .i64 a, .int .i64 b, .int .i64 c, .int .i64 d] 23)) := ⟨S06, S1.at_, hm6, B6, fb6⟩
    clear H4 S0 S1 hne hg1 B4 fb4 hz4 hk6 hm6 hK6 S06 B6 fb6 hBg hBw
    go_wp2_with fail
    refine (held1 ad1 cap1 g1 T.length _ (by omega) H6.out.2.1 H6.out.2.2.1).mono ?_
    rintro e w7 ⟨rfl, hb7⟩
    obtain ⟨S06, hat, hm6, B6, fb6⟩ := H6.out
    have hz6 : w.heap.size < w6.heap.size := (Array.getElem?_eq_some_iff.1 fb6).1
    have z7 := hb7.size
    have fbw7 : w7.heap[w.heap.size]? = some (.cells #[.int .i64 a, .int .i64 b, .int .i64 c, .int .i64 d] 23) := (hb7.block w.heap.size hz6).trans fb6
    have S07 := S06.below hb7
    have hm7 : ∀ i, i < T.length → w7.cell? ⟨g1, i, none⟩ = some (.string (mt (1 + i))) := fun i hi => (hb7.cell (p := ⟨g1, i, none⟩) (cell_lt (hm6 i hi))).trans (hm6 i hi)
    have B7 : Below w.heap.size w w7 := B6.trans (hb7.mono (by omega))
    have x0w7 : w7.cell? ⟨w.heap.size, 0, none⟩ = some (.int .i64 a) := by simp [World.cell?, fbw7]
    have x1w7 : w7.cell? ⟨w.heap.size, 1, none⟩ = some (.int .i64 b) := by simp [World.cell?, fbw7]
    have x2w7 : w7.cell? ⟨w.heap.size, 2, none⟩ = some (.int .i64 c) := by simp [World.cell?, fbw7]
    have x3w7 : w7.cell? ⟨w.heap.size, 3, none⟩ = some (.int .i64 d) := by simp [World.cell?, fbw7]
    have H7 : Hid (SRow w7 w1.heap.size g0 ad0 T ∧ (0 < T.length → ad1 = some ⟨g1, 0, none⟩) ∧ (∀ i, i < T.length → w7.cell? ⟨g1, i, none⟩ = some (.string (mt (1 + i)))) ∧ Below w.heap.size w w7) := ⟨S07, hat, hm7, B7⟩
    have hz7 : w.heap.size < w7.heap.size := by omega
    clear H6 S06 hat hm6 B6 fb6 hz6 z7 fbw7 S07 hm7 B7 hb7
    go_wp2_with fail
    refine (toSyntax_any a b c d _).mono ?_
    rintro e w8 ⟨rfl, hb8⟩
    go_wp2_with fail
    refine (cut_implT HTg.out _).mono ?_
    rintro e w9 ⟨g2, ad2, cap2, rfl, S2, hb9⟩
    have z8 := hb8.size
    have hb79 : Below w7.heap.size w7 w9 := hb8.trans (hb9.mono z8)
    obtain ⟨S07, hat, hm7, B7⟩ := H7.out
    have hm9 : ∀ i, i < T.length → w9.cell? ⟨g1, i, none⟩ = some (.string (mt (1 + i))) := fun i hi => (hb79.cell (p := ⟨g1, i, none⟩) (cell_lt (hm7 i hi))).trans (hm7 i hi)
    have H9 : Hid (SRow w9 w1.heap.size g0 ad0 T ∧ SRow w9 w8.heap.size g2 ad2 T ∧ (0 < T.length → ad1 = some ⟨g1, 0, none⟩) ∧ (∀ i, i < T.length → w9.cell? ⟨g1, i, none⟩ = some (.string (mt (1 + i)))) ∧ Below w.heap.size w w9) := ⟨S07.below hb79, S2, hat, hm9, B7.trans (hb79.mono (by omega))⟩
    clear H7 S07 hat hm7 B7 hm9 S2 hb8 hb9 hb79 z8 x0w7 x1w7 x2w7 x3w7
    go_wp2_with fail
    refine (eqStrings_same ad2 ad0 cap2 cap0 g2 g0 w8.heap.size w1.heap.size T _ (by omega) H9.out.2.1 H9.out.1).mono ?_
    rintro e w10 ⟨rfl, q9, hq9⟩
    subst hq9
    go_wp2_with fail
    refine (held1 ad1 cap1 g1 T.length _ (by omega) H9.out.2.2.1 (fun i hi => ((below_drewN (Below.refl _ w9) q9).cell (p := ⟨g1, i, none⟩) (cell_lt (H9.out.2.2.2.1 i hi))).trans (H9.out.2.2.2.1 i hi))).mono ?_
    rintro e w11 ⟨rfl, hb11⟩
    have H11 : Hid (Below w.heap.size w w11) := (below_drewN H9.out.2.2.2.2 q9).trans (hb11.mono (show w.heap.size ≤ w9.heap.size from H9.out.2.2.2.2.size))
    clear H9 hb11
    go_wp2
    go_ret
    exact ⟨rfl, H11.out⟩
theorem own : ownKnob Try.prog.godebug = none := by kernel_rfl
theorem laidOut : laidOutB Try.prog = true := by kernel_rfl
theorem cellsSyn : Try.prog.cellsOf 23 = 4 := by kernel_rfl
set_option maxRecDepth 100000 in
theorem lifted (os : Os) (started : os.Started) (H : Type) (enc : TypeId × Value → H) :
    ReturnsInHanded {} Try.checked os 6 .any (Rows.fnExactCutAtSpec.pre6 enc Try.prog Try.f6 Rows.fnExactCutAtRow.domain false) (Rows.fnExactCutAtSpec.post enc Try.prog Try.f6 false true false false) := by
  refine returnsInHanded_of_change (C := Try.checked) own started (by kernel_rfl) Try.func6
    (ChangeSpec.witness6 (enc := enc) (C := Try.checked) false ⟨#[], #[.agg #[.int .i64 0, .int .i64 0, .int .i64 0, .int .i64 0], .string ⟨#[]⟩, .int .i64 0], []⟩ 8 (by kernel_rfl) (by kernel_rfl) (by kernel_rfl) (by kernel_rfl)) ?_
  intro W base args ds gs before hval0 hW hcnd _
  have hval : ∀ (j : Nat) t v, Try.f6.params[j]? = some t → args[j]? = some v → Value.okWide Try.prog W .any base t v := hval0
  have hW' := hW
  obtain ⟨p, q, hA0, hV, rfl, hfz, hnd⟩ := hW
  have hA : DataW.TrodAll enc Try.prog W 0 (fun _ => true) true Try.f6.params.toList args.toList ds p := hA0
  rw [Try.params6] at hA hval
  obtain ⟨v0, vs0, d0, ds0, p0, q0, hargs, rfl, rfl, h0, r0⟩ := trodAll_cons hA
  obtain ⟨v1, vs1, d1, ds1, p1, q1, rfl, rfl, rfl, h1, r1⟩ := trodAll_cons r0
  obtain ⟨v2, vs2, d2, ds2, p2, q2, rfl, rfl, rfl, h2, r2⟩ := trodAll_cons r1
  obtain ⟨rfl, rfl, rfl⟩ := trodAll_nil r2
  obtain rfl : args = #[v0, v1, v2] := by cases args; simp_all
  obtain ⟨rfl, rfl⟩ := trodVars_none hV
  have k0 := h0
  have lt0 : ∀ x ∈ p0, x.block < W.heap.size := by obtain ⟨m, hm⟩ := k0; exact DataW.trod_lt m _ _ _ hm
  obtain ⟨a0, b0, c0, e0, rfl⟩ : ∃ a b c d : Int, v0 = .agg #[.int .i64 a, .int .i64 b, .int .i64 c, .int .i64 d] := by
    obtain ⟨c0, c1, c2, c3, y0, y1, y2, y3, m, rfl, _, _, hy0, hy1, hy2, hy3⟩ := open_agg4 Try.underlying23 (by kernel_rfl) cellsSyn (hval 0 23 v0 rfl rfl) h0
    obtain ⟨a, e0, _, _⟩ := DataW.trod_int Try.underlying2 hy0
    obtain ⟨b, e1, _, _⟩ := DataW.trod_int Try.underlying2 hy1
    obtain ⟨c, e2, _, _⟩ := DataW.trod_int Try.underlying2 hy2
    obtain ⟨d, e3, _, _⟩ := DataW.trod_int Try.underlying2 hy3
    simp at e0 e1 e2 e3
    subst e0 e1 e2 e3
    exact ⟨a, b, c, d, rfl⟩
  have k1 := h1
  have lt1 : ∀ x ∈ p1, x.block < W.heap.size := by obtain ⟨m, hm⟩ := k1; exact DataW.trod_lt m _ _ _ hm
  obtain ⟨s1, rfl, hs1⟩ : ∃ s : ByteArray, v1 = .string s ∧ s.size ≤ maxLen := by
    obtain ⟨s, rfl, _, _, hs⟩ := open_string Try.underlying9 (hval 1 9 v1 rfl rfl) h1
    exact ⟨s, rfl, hs⟩
  have k2 := h2
  have lt2 : ∀ x ∈ p2, x.block < W.heap.size := by obtain ⟨m, hm⟩ := k2; exact DataW.trod_lt m _ _ _ hm
  obtain ⟨n2, rfl⟩ : ∃ n : Int, v2 = .int .i64 n := by
    obtain ⟨n, rfl, _, _, _⟩ := open_int Try.underlying2 (hval 2 2 v2 rfl rfl) h2
    exact ⟨n, rfl⟩
  clear hA0 hval0
  refine (walk a0 b0 c0 e0 s1 n2 W hs1).mono fun e W' ⟨he, bel⟩ => ?_
  subst he
  exact ⟨_, rfl, _, _, _, [], _, [], hW', trodAll_mk1 (shut_bool Try.underlying4 _), (trodAll_cons_mk (Below.trod laidOut (by kernel_rfl) (of_decide_eq_true (by kernel_rfl)) k0 bel lt0) (trodAll_cons_mk (Below.trod laidOut (by kernel_rfl) (of_decide_eq_true (by kernel_rfl)) k1 bel lt1) (trodAll_cons_mk (Below.trod laidOut (by kernel_rfl) (of_decide_eq_true (by kernel_rfl)) k2 bel lt2) trodAll_mk0))), rfl, bel.frame _, fun h => by cases h⟩
theorem over : Rows.fnExactCutAtRow.holds Try.pinned (OpenSpec.ofChange Rows.fnExactCutAtSpec) :=
  OpenClaim.holds_of_wide 6 Try.f6 rfl rfl rfl rfl rfl rfl rfl ⟨rfl, rfl, rfl, rfl, rfl⟩ rfl rfl rfl rfl rfl (by kernel_rfl) Try.func6 (by kernel_rfl)
    (of_decide_eq_true (by kernel_rfl)) (by unfold Func.isWrapper; first | (rw [if_pos (by decide +kernel)]; kernel_rfl) | (rw [if_neg (by decide +kernel)]; exact ⟨rfl, rfl⟩))
    (fun os started H enc _ => lifted os started H enc)
end fnExactCutAt
theorem fnExactCutAt_holds : Rows.FnExactCutAtSaid := fnExactCutAt.over
#print axioms fnExactCutAt_holds
end Go.Proofs.Ytbpndigccieaiah
