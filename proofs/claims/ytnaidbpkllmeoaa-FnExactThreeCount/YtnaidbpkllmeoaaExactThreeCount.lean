/- FnExactThreeCount returns true at every list of order lines and every text and leaves them as they were: ThreeCount answers as its model; texts of at most 2^48 bytes. -/
import Derived.Test.YtnaidbpkllmeoaaSzOl
import Derived.Test.YtnaidbpkllmeoaaToOl
import Derived.Test.YtnaidbpkllmeoaaEqOl
import Derived.Test.YtnaidbpkllmeoaaOpenOl
import Derived.Test.YtnaidbpkllmeoaaThD
import Derived.Test.YtnaidbpkllmeoaaThE
import Derived.Test.YtnaidbpkllmeoaaThQ
import Derived.Lib.SmallJoins
namespace Go.Proofs.Ytnaidbpkllmeoaa
open Go.ChangeShapes Go.WideShapes Go.ChangeAt Go.RowKit Go.Joins
open Go.ChangeMaps (open_string shut_string)
set_option linter.unusedVariables false
namespace fnExactThreeCount
set_option maxHeartbeats 8000000 in
theorem walk (u : Value) (rs : List OLn) (partner : ByteArray) (w : World) (h : RowOl w u rs) (hpartner : partner.size ≤ maxLen) :
    Calls Try.prog 4 #[u, .string partner] w fun e w' => e = .returned (.bool true) ∧ Below w.heap.size w w' := by
  obtain ⟨A, cap, rfl⟩ := h.val
  have hlen := h.len
  have H0 : Hid (RowOl w (.slice A rs.length cap) rs) := h
  clear h
  unfold maxLen at hpartner
  go_enter Try.func4, Try.ntmps4
  by_cases lp : 1048576 < partner.size
  · have lp' : (1048576 : Int) < (partner.size : Int) := by omega
    go_wp2
    go_ret
    exact ⟨rfl, Below.refl _ _⟩
  have lp' : ¬ (1048576 : Int) < (partner.size : Int) := by omega
  obtain ⟨t, ht⟩ : ∃ t, t = thcT rs partner := ⟨_, rfl⟩
  have QS := fun v W (hv : RowOl W v rs) => threeCount_spec v rs partner W hv (by omega)
  have QI := fun v W (hv : RowOl W v rs) => threeCount_impl v rs partner W hv (by omega)
  rw [← ht] at QS QI
  clear ht
  go_wp2_with fail
  refine (szOls_any _ rs 1048576 _ H0.out (by omega)).mono ?_
  rintro e w1 ⟨r, rfl, hr, hb1⟩
  rcases hr with rfl | ⟨g0, g1, hG⟩
  · have H1 : Hid (Below w.heap.size w w1) := hb1
    clear hb1
    go_wp2
    go_ret
    exact ⟨rfl, H1.out⟩
  have g0' : ¬ r < 0 := by omega
  have HG : Hid (BdOl 1048576 rs) := BdOl.mono hG (by omega)
  have H1 : Hid (Below w.heap.size w w1) := hb1
  clear hG hb1
  go_wp2_with fail
  refine (toOls_any _ rs _ (H0.out.below H1.out) HG.out).mono ?_
  rintro e w2 ⟨v2, rfl, r2, hb2⟩
  have H2 : Hid (Below w.heap.size w w2 ∧ RowOl w2 v2 rs) := ⟨H1.out.trans (hb2.mono H1.out.size), r2.row HG.out⟩
  clear hb2 r2 H1
  go_wp2_with fail
  refine (QS _ _ H2.out.2).mono ?_
  rintro e w3 ⟨rfl, hb3⟩
  have H3 : Hid (Below w.heap.size w w3) := H2.out.1.trans (hb3.mono H2.out.1.size)
  clear hb3 H2 QS
  go_upto_region 8 with fail
  obtain ⟨W4, hW4⟩ : ∃ W4, w3.alloc (.cells #[.int .i64 t.nw, .int .i64 t.pt, .int .i64 t.wy, .int .i64 t.dn, .int .i64 t.gn] 32) = W4 := ⟨_, rfl⟩
  have hb4 : Below w.heap.size w W4 := by rw [← hW4]; exact H3.out.alloc H3.out.size _
  have i4 : W4.heap[w3.heap.size]? = some (.cells #[.int .i64 t.nw, .int .i64 t.pt, .int .i64 t.wy, .int .i64 t.dn, .int .i64 t.gn] 32) := by rw [← hW4]; exact World.alloc_heap_new _ _
  obtain ⟨S, hS⟩ : ∃ S, S = w3.heap.size := ⟨_, rfl⟩
  rw [← hS] at i4
  have H4 : Hid (Below w.heap.size w W4 ∧ ∀ W, Below W4.heap.size W4 W → W.heap[S]? = some (.cells #[.int .i64 t.nw, .int .i64 t.pt, .int .i64 t.wy, .int .i64 t.dn, .int .i64 t.gn] 32) ∧ Below w.heap.size w W) := ⟨hb4, fun W hW => ⟨(hW.block S (Array.getElem?_eq_some_iff.1 i4).1).trans i4, hb4.trans (hW.mono hb4.size)⟩⟩
  try rw [hW4]
  try rw [← hS]
  clear hW4 hS hb4 i4 H3
  go_wp2_with fail
  refine (toOls_any _ rs _ (H0.out.below H4.out.1) HG.out).mono ?_
  rintro e w5 ⟨v5, rfl, r5, hb5⟩
  have H5 : Hid (Below W4.heap.size W4 w5 ∧ RowOl w5 v5 rs) := ⟨hb5, r5.row HG.out⟩
  clear hb5 r5
  go_wp2_with fail
  refine (QI _ _ H5.out.2).mono ?_
  rintro e w6 ⟨rfl, hb6⟩
  have H6 : Hid (Below W4.heap.size W4 w6 ∧ RowOl w6 v5 rs) := ⟨H5.out.1.trans (hb6.mono H5.out.1.size), H5.out.2.below hb6⟩
  clear hb6 H5 QI
  go_upto_region 10 with fail
  obtain ⟨W7, hW7⟩ : ∃ W7, w6.alloc (.cells #[.int .i64 t.nw, .int .i64 t.pt, .int .i64 t.wy, .int .i64 t.dn, .int .i64 t.gn] 32) = W7 := ⟨_, rfl⟩
  have hb7 : Below w6.heap.size w6 W7 := by rw [← hW7]; exact (Below.refl _ _).alloc (Nat.le_refl _) _
  have i7 : W7.heap[w6.heap.size]? = some (.cells #[.int .i64 t.nw, .int .i64 t.pt, .int .i64 t.wy, .int .i64 t.dn, .int .i64 t.gn] 32) := by rw [← hW7]; exact World.alloc_heap_new _ _
  obtain ⟨D, hD⟩ : ∃ D, D = w6.heap.size := ⟨_, rfl⟩
  rw [← hD] at i7
  have H7 : Hid (Below W4.heap.size W4 W7 ∧ RowOl W7 v5 rs) := ⟨H6.out.1.trans (hb7.mono H6.out.1.size), H6.out.2.below hb7⟩
  obtain ⟨c0, c1, c2, c3, c4⟩ := box5T i7
  obtain ⟨d0, d1, d2, d3, d4⟩ := box5T (H4.out.2 W7 H7.out.1).1
  try rw [hW7]
  try rw [← hD]
  clear hW7 hD hb7 i7 H6
  go_wp2_with fail
  refine (eqThr_any t _).mono ?_
  rintro e w8 ⟨rfl, hb8⟩
  have H8 : Hid (Below W4.heap.size W4 w8 ∧ RowOl w8 v5 rs) := ⟨H7.out.1.trans (hb8.mono H7.out.1.size), H7.out.2.below hb8⟩
  clear hb8 H7 c0 c1 c2 c3 c4 d0 d1 d2 d3 d4
  go_wp2_with fail
  refine (toOls_any _ rs _ (H0.out.below (H4.out.2 w8 H8.out.1).2) HG.out).mono ?_
  rintro e w9 ⟨v9, rfl, r9, hb9⟩
  have H9 : Hid (Below W4.heap.size W4 w9 ∧ RowOl w9 v5 rs ∧ RowOl w9 v9 rs) := ⟨H8.out.1.trans (hb9.mono H8.out.1.size), H8.out.2.below hb9, r9.row HG.out⟩
  clear hb9 r9 H8
  go_wp2_with fail
  refine (eqOls_any _ _ rs _ H9.out.2.1 H9.out.2.2).mono ?_
  rintro e w10 ⟨rfl, hb10⟩
  have H10 : Hid (Below w.heap.size w w10) := (H4.out.2 w10 (H9.out.1.trans (hb10.mono H9.out.1.size))).2
  clear hb10
  go_wp2
  go_ret
  exact ⟨rfl, H10.out⟩
theorem own : ownKnob Try.prog.godebug = none := by kernel_rfl
theorem laidOut : laidOutB Try.prog = true := by kernel_rfl
set_option maxRecDepth 100000 in
theorem lifted (os : Os) (started : os.Started) (H : Type) (enc : TypeId × Value → H) :
    ReturnsInHanded {} Try.checked os 4 .any (Rows.fnExactThreeCountSpec.pre6 enc Try.prog Try.f4 Rows.fnExactThreeCountRow.domain false) (Rows.fnExactThreeCountSpec.post enc Try.prog Try.f4 false true false false) := by
  refine returnsInHanded_of_change (C := Try.checked) own started (by kernel_rfl) Try.func4
    (ChangeSpec.witness6 (enc := enc) (C := Try.checked) false ⟨#[], #[.slice none 0 0, .string ⟨#[]⟩], []⟩ 8 (by kernel_rfl) (by kernel_rfl) (by kernel_rfl) (by kernel_rfl)) ?_
  intro W base args ds gs before hval0 hW hcnd _
  have hval : ∀ (j : Nat) t v, Try.f4.params[j]? = some t → args[j]? = some v → Value.okWide Try.prog W .any base t v := hval0
  have hW' := hW
  obtain ⟨p, q, hA0, hV, rfl, hfz, hnd⟩ := hW
  have hA : DataW.TrodAll enc Try.prog W 0 (fun _ => true) true Try.f4.params.toList args.toList ds p := hA0
  rw [Try.params4] at hA hval
  obtain ⟨v0, vs0, d0, ds0, p0, q0, hargs, rfl, rfl, h0, r0⟩ := trodAll_cons hA
  obtain ⟨v1, vs1, d1, ds1, p1, q1, rfl, rfl, rfl, h1, r1⟩ := trodAll_cons r0
  obtain ⟨rfl, rfl, rfl⟩ := trodAll_nil r1
  obtain rfl : args = #[v0, v1] := by cases args; simp_all
  obtain ⟨rfl, rfl⟩ := trodVars_none hV
  have k0 := h0
  have lt0 : ∀ x ∈ p0, x.block < W.heap.size := by obtain ⟨m, hm⟩ := k0; exact DataW.trod_lt m _ _ _ hm
  obtain ⟨rs0, hr0⟩ := openOlsa (hval 0 29 v0 rfl rfl) h0
  have k1 := h1
  have lt1 : ∀ x ∈ p1, x.block < W.heap.size := by obtain ⟨m, hm⟩ := k1; exact DataW.trod_lt m _ _ _ hm
  obtain ⟨s1, rfl, hs1⟩ : ∃ s : ByteArray, v1 = .string s ∧ s.size ≤ maxLen := by
    obtain ⟨s, rfl, _, _, hs⟩ := open_string Try.underlying9 (hval 1 9 v1 rfl rfl) h1
    exact ⟨s, rfl, hs⟩
  clear hA0 hval0
  refine (walk v0 rs0 s1 W hr0 hs1).mono fun e W' ⟨he, bel⟩ => ?_
  subst he
  exact ⟨_, rfl, _, _, _, [], _, [], hW', trodAll_mk1 (shut_bool Try.underlying4 _), (trodAll_cons_mk (Below.trod laidOut (by kernel_rfl) (of_decide_eq_true (by kernel_rfl)) k0 bel lt0) (trodAll_cons_mk (Below.trod laidOut (by kernel_rfl) (of_decide_eq_true (by kernel_rfl)) k1 bel lt1) trodAll_mk0)), rfl, bel.frame _, fun h => by cases h⟩
theorem over : Rows.fnExactThreeCountRow.holds Try.pinned (OpenSpec.ofChange Rows.fnExactThreeCountSpec) :=
  OpenClaim.holds_of_wide 4 Try.f4 rfl rfl rfl rfl rfl rfl rfl ⟨rfl, rfl, rfl, rfl, rfl⟩ rfl rfl rfl rfl rfl (by kernel_rfl) Try.func4 (by kernel_rfl)
    (of_decide_eq_true (by kernel_rfl)) (by unfold Func.isWrapper; first | (rw [if_pos (by decide +kernel)]; kernel_rfl) | (rw [if_neg (by decide +kernel)]; exact ⟨rfl, rfl⟩))
    (fun os started H enc _ => lifted os started H enc)
end fnExactThreeCount
theorem fnExactThreeCount_holds : Rows.FnExactThreeCountSaid := fnExactThreeCount.over
#print axioms fnExactThreeCount_holds
end Go.Proofs.Ytnaidbpkllmeoaa
