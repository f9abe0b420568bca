/- FnExactCloseLines returns true at every list of order lines and leaves it as it was: CloseLines answers as its model, writes into no argument, keeps nothing of one, and its answer owns its memory; no condition. -/
import Derived.Test.YtnaidbpkllmeoaaSzOl
import Derived.Test.YtnaidbpkllmeoaaToOl
import Derived.Test.YtnaidbpkllmeoaaEqOl
import Derived.Test.YtnaidbpkllmeoaaOpenOl
import Derived.Test.YtnaidbpkllmeoaaClI0
import Derived.Test.YtnaidbpkllmeoaaClS0
import Derived.Test.YtnaidbpkllmeoaaMkOl
import Derived.Lib.SmallJoins
namespace Go.Proofs.Ytnaidbpkllmeoaa
open Go.ChangeShapes Go.WideShapes Go.ChangeAt Go.RowKit Go.Joins
open Go.ChangeMaps (open_string shut_string)
set_option linter.unusedVariables false
namespace fnExactCloseLines
theorem bdC {rs : List OLn} (h : BdOl 1048576 rs) : ∀ d ∈ rs, d.partner.size ≤ 1048576 ∧ d.ref.size ≤ 1048576 ∧ d.item.size ≤ 1048576 := fun d hd => by
  obtain ⟨i, hi⟩ := List.getElem?_of_mem hd
  exact h.2 i d hi
theorem lst2Ol {B : Nat} {W : World} {v : Value} {rs : List OLn} (h : OwnOl B W v rs) (hG : BdOl 1048576 rs) : ∃ b, B ≤ b ∧ b < W.heap.size ∧ v = .slice (some ⟨b, 0, none⟩) rs.length rs.length ∧ LOl b W v rs := by
  obtain ⟨b, f, h1, h2, h3, h4⟩ := h
  have hl := hG.len
  exact ⟨b, h1, h3.lt, h2, ⟨_, _, h2, fun _ => ⟨rfl, _, f, h3, Nat.le_refl _, h4⟩⟩, by omega, fun i g hi => by have := hG.2 i g hi; omega⟩
set_option maxHeartbeats 16000000 in
theorem walk (u : Value) (rs : List OLn) (w : World) (h : RowOl w u rs) :
    Calls Try.prog 7 #[u] w fun e w' => e = .returned (.bool true) ∧ Below w.heap.size w w' := by
  obtain ⟨A, cap, rfl⟩ := h.val
  have hlen := h.len
  obtain ⟨W0, hW0⟩ : ∃ W0, W0 = w := ⟨_, rfl⟩
  rw [← hW0] at h ⊢
  have H0 : Hid (RowOl W0 (.slice A rs.length cap) rs ∧ Below W0.heap.size W0 W0) := ⟨h, Below.refl _ _⟩
  clear h hW0
  clear w
  go_enter Try.func7, Try.ntmps7
  go_wp2_with fail
  refine (szOls_any _ rs 1048576 _ H0.out.1 (by omega)).mono ?_
  rintro e w1 ⟨r, rfl, hr, hb1⟩
  rcases hr with rfl | ⟨g0, g1, hG⟩
  · have H1 : Hid (Below W0.heap.size W0 w1) := hb1
    clear hb1
    go_wp2
    go_ret
    exact ⟨rfl, H1.out⟩
  have g0' : ¬ r < 0 := by omega
  have HG : Hid (BdOl 1048576 rs) := BdOl.mono hG (by omega)
  have hrl : rs.length ≤ 1048576 := HG.out.len
  have H1 : Hid (Below W0.heap.size W0 w1) := hb1
  clear hG hb1
  go_wp2_with fail
  refine (toOls_any _ rs _ (H0.out.1.below H1.out) HG.out).mono ?_
  rintro e w2 ⟨v2, rfl, r2, hb2⟩
  have H2 : Hid (Below W0.heap.size W0 w2 ∧ RowOl w2 v2 rs) := ⟨H1.out.trans (hb2.mono H1.out.size), r2.row HG.out⟩
  clear hb2 r2 H1
  go_wp2_with fail
  refine (closeLines_spec _ rs _ H2.out.2).mono ?_
  rintro e w4 ⟨u4, rfl, hr4, hb4⟩
  obtain ⟨ad4, C4, rfl⟩ := hr4.val
  have H4 : Hid (Below W0.heap.size W0 w4 ∧ RowOl w4 (.slice ad4 (closT rs).length C4) (closT rs)) := ⟨H2.out.1.trans (hb4.mono H2.out.1.size), hr4⟩
  clear hr4 hb4 H2
  go_wp2_with fail
  refine (toOls_any _ rs _ (H0.out.1.below H4.out.1) HG.out).mono ?_
  rintro e w5 ⟨v5, rfl, r5, hb5⟩
  obtain ⟨bx, lx, hx5, rfl, L5⟩ := lst2Ol r5 HG.out
  have B5 : Below W0.heap.size W0 w5 := H4.out.1.trans (hb5.mono H4.out.1.size)
  have H5 : Hid (Below W0.heap.size W0 w5 ∧ Below w4.heap.size w4 w5 ∧ LOl bx w5 (.slice (some ⟨bx, 0, none⟩) rs.length rs.length) rs) := ⟨B5, hb5, L5⟩
  clear hb5 r5 B5 L5
  go_wp2_with fail
  refine (closeLines_impl _ rs _ H5.out.2.2.row (bdC HG.out)).mono ?_
  rintro e w6 ⟨u6, bg, rfl, lg, L6, hb6⟩
  have hne : bg ≠ bx := by omega
  have hg4 : w4.heap.size ≤ bg := by have := H5.out.2.1.size; omega
  have hg0 : W0.heap.size ≤ bg := by have := H5.out.1.size; omega
  have hx4 : w4.heap.size ≤ bx := lx
  have hx0 : W0.heap.size ≤ bx := by have := H4.out.1.size; omega
  have H6 : Hid (Below W0.heap.size W0 w6 ∧ Below w4.heap.size w4 w6 ∧ LOl bx w6 (.slice (some ⟨bx, 0, none⟩) rs.length rs.length) rs ∧ LOl bg w6 u6 (closT rs)) := ⟨H5.out.1.trans (hb6.mono H5.out.1.size), H5.out.2.1.trans (hb6.mono H5.out.2.1.size), H5.out.2.2.below hb6, L6⟩
  clear hb6 L6 lg lx hx5
  go_wp2_with fail
  refine (eqOls_any _ _ _ _ H6.out.2.2.2.row (H4.out.2.below H6.out.2.1)).mono ?_
  rintro e w7 ⟨rfl, hb7⟩
  have H7 : Hid (Below W0.heap.size W0 w7 ∧ Below w4.heap.size w4 w7 ∧ LOl bx w7 (.slice (some ⟨bx, 0, none⟩) rs.length rs.length) rs ∧ LOl bg w7 u6 (closT rs)) := ⟨H6.out.1.trans (hb7.mono H6.out.1.size), H6.out.2.1.trans (hb7.mono H6.out.2.1.size), H6.out.2.2.1.below hb7, H6.out.2.2.2.below hb7⟩
  clear hb7 H6
  go_wp2_with fail
  refine (toOls_any _ rs _ (H0.out.1.below H7.out.1) HG.out).mono ?_
  rintro e w8 ⟨v8, rfl, r8, hb8⟩
  have H8 : Hid (Below W0.heap.size W0 w8 ∧ Below w4.heap.size w4 w8 ∧ LOl bx w8 (.slice (some ⟨bx, 0, none⟩) rs.length rs.length) rs ∧ LOl bg w8 u6 (closT rs) ∧ RowOl w8 v8 rs) := ⟨H7.out.1.trans (hb8.mono H7.out.1.size), H7.out.2.1.trans (hb8.mono H7.out.2.1.size), H7.out.2.2.1.below hb8, H7.out.2.2.2.below hb8, r8.row HG.out⟩
  clear hb8 r8 H7
  go_wp2_with fail
  refine (eqOls_any _ _ _ _ H8.out.2.2.1.row H8.out.2.2.2.2).mono ?_
  rintro e w9 ⟨rfl, hb9⟩
  have H9 : Hid (Below W0.heap.size W0 w9 ∧ Below w4.heap.size w4 w9 ∧ LOl bx w9 (.slice (some ⟨bx, 0, none⟩) rs.length rs.length) rs ∧ LOl bg w9 u6 (closT rs)) := ⟨H8.out.1.trans (hb9.mono H8.out.1.size), H8.out.2.1.trans (hb9.mono H8.out.2.1.size), H8.out.2.2.1.below hb9, H8.out.2.2.2.1.below hb9⟩
  clear hb9 H8
  go_wp2_with fail
  refine (markOl_any bx _ rs 1 _ H9.out.2.2.1 ⟨by omega, by omega⟩).mono ?_
  rintro e w10 ⟨rfl, _, hk10⟩
  have hL10 : LOl bg w10 u6 (closT rs) ∧ Below W0.heap.size W0 w10 ∧ Below w4.heap.size w4 w10 := by
    have s0 := H9.out.1.size
    have s4 := H9.out.2.1.size
    exact ⟨H9.out.2.2.2.keep hk10 hne, H9.out.1.trans (hk10.below hx0 s0), H9.out.2.1.trans (hk10.below hx4 s4)⟩
  have H10 : Hid (Below W0.heap.size W0 w10 ∧ Below w4.heap.size w4 w10 ∧ LOl bg w10 u6 (closT rs)) := ⟨hL10.2.1, hL10.2.2, hL10.1⟩
  clear hL10 hk10 H9
  have hkp : ¬ ((1 + rs.length * 8 : Nat) : Int) < 0 := by omega
  go_wp2_with fail
  refine (eqOls_any _ _ _ _ H10.out.2.2.row (H4.out.2.below H10.out.2.1)).mono ?_
  rintro e w11 ⟨rfl, hb11⟩
  have H11 : Hid (Below W0.heap.size W0 w11 ∧ Below w4.heap.size w4 w11 ∧ LOl bg w11 u6 (closT rs)) := ⟨H10.out.1.trans (hb11.mono H10.out.1.size), H10.out.2.1.trans (hb11.mono H10.out.2.1.size), H10.out.2.2.below hb11⟩
  clear hb11 H10
  obtain ⟨N, hN⟩ : ∃ N, N = (closT rs).length := ⟨_, rfl⟩
  have hNl : N ≤ rs.length + 1 := by rw [hN]; exact Nat.le_trans (closT_len rs) (Nat.le_succ _)
  go_wp2_with fail
  refine (markOl_any bg _ _ 1 _ H11.out.2.2 ⟨by omega, by omega⟩).mono ?_
  rintro e w12 ⟨rfl, L12, hk12⟩
  rw [← hN] at L12 ⊢
  have H12 : Hid (Below W0.heap.size W0 w12 ∧ Below w4.heap.size w4 w12 ∧ LOl bg w12 u6 (mkOls 1 N)) := by
    have s0 := H11.out.1.size
    have s4 := H11.out.2.1.size
    exact ⟨H11.out.1.trans (hk12.below hg0 s0), H11.out.2.1.trans (hk12.below hg4 s4), L12⟩
  clear L12 hk12 H11
  go_wp2_with fail
  refine (heldOl_any _ 1 N _ H12.out.2.2.row ⟨by omega, by omega⟩).mono ?_
  rintro e w13 ⟨rfl, hb13⟩
  have H13 : Hid (Below W0.heap.size W0 w13 ∧ Below w4.heap.size w4 w13 ∧ LOl bg w13 u6 (mkOls 1 N)) := ⟨H12.out.1.trans (hb13.mono H12.out.1.size), H12.out.2.1.trans (hb13.mono H12.out.2.1.size), H12.out.2.2.below hb13⟩
  clear hb13 H12
  have hnp : ¬ ((1 + N * 8 : Nat) : Int) < 0 := by omega
  go_wp2_with fail
  refine (toOls_any _ rs _ (H0.out.1.below H13.out.1) HG.out).mono ?_
  rintro e w14 ⟨v14, rfl, r14, hb14⟩
  have H14 : Hid (Below w13.heap.size w13 w14 ∧ RowOl w14 v14 rs) := ⟨hb14, r14.row HG.out⟩
  clear hb14 r14
  go_wp2_with fail
  refine (closeLines_impl _ rs _ H14.out.2 (bdC HG.out)).mono ?_
  rintro e w16 ⟨u16, b16, rfl, _, L16, hb16⟩
  have B16 : Below w13.heap.size w13 w16 := H14.out.1.trans (hb16.mono H14.out.1.size)
  have H16 : Hid (Below W0.heap.size W0 w16 ∧ Below w4.heap.size w4 w16 ∧ LOl bg w16 u6 (mkOls 1 N) ∧ RowOl w16 u16 (closT rs)) := ⟨H13.out.1.trans (B16.mono H13.out.1.size), H13.out.2.1.trans (B16.mono H13.out.2.1.size), H13.out.2.2.below B16, L16.row⟩
  clear hb16 L16 B16 H13 H14
  go_wp2_with fail
  refine (eqOls_any _ _ _ _ H16.out.2.2.2 (H4.out.2.below H16.out.2.1)).mono ?_
  rintro e w17 ⟨rfl, hb17⟩
  have H17 : Hid (Below W0.heap.size W0 w17 ∧ LOl bg w17 u6 (mkOls 1 N)) := ⟨H16.out.1.trans (hb17.mono H16.out.1.size), H16.out.2.2.1.below hb17⟩
  clear hb17 H16
  go_wp2_with fail
  refine (heldOl_any _ 1 N _ H17.out.2.row ⟨by omega, by omega⟩).mono ?_
  rintro e w18 ⟨rfl, hb18⟩
  have H18 : Hid (Below W0.heap.size W0 w18) := H17.out.1.trans (hb18.mono H17.out.1.size)
  clear hb18 H17
  go_wp2
  go_ret
  exact ⟨rfl, H18.out⟩
theorem own : ownKnob Try.prog.godebug = none := by kernel_rfl
theorem laidOut : laidOutB Try.prog = true := by kernel_rfl
set_option maxRecDepth 100000 in
theorem lifted (os : Os) (started : os.Started) (H : Type) (enc : TypeId × Value → H) :
    ReturnsInHanded {} Try.checked os 7 .any (Rows.fnExactCloseLinesSpec.pre6 enc Try.prog Try.f7 Rows.fnExactCloseLinesRow.domain false) (Rows.fnExactCloseLinesSpec.post enc Try.prog Try.f7 false true false false) := by
  refine returnsInHanded_of_change (C := Try.checked) own started (by kernel_rfl) Try.func7
    (ChangeSpec.witness6 (enc := enc) (C := Try.checked) false ⟨#[], #[.slice none 0 0], []⟩ 8 (by kernel_rfl) (by kernel_rfl) (by kernel_rfl) (by kernel_rfl)) ?_
  intro W base args ds gs before hval0 hW hcnd _
  have hval : ∀ (j : Nat) t v, Try.f7.params[j]? = some t → args[j]? = some v → Value.okWide Try.prog W .any base t v := hval0
  have hW' := hW
  obtain ⟨p, q, hA0, hV, rfl, hfz, hnd⟩ := hW
  have hA : DataW.TrodAll enc Try.prog W 0 (fun _ => true) true Try.f7.params.toList args.toList ds p := hA0
  rw [Try.params7] at hA hval
  obtain ⟨v0, vs0, d0, ds0, p0, q0, hargs, rfl, rfl, h0, r0⟩ := trodAll_cons hA
  obtain ⟨rfl, rfl, rfl⟩ := trodAll_nil r0
  obtain rfl : args = #[v0] := by cases args; simp_all
  obtain ⟨rfl, rfl⟩ := trodVars_none hV
  have k0 := h0
  have lt0 : ∀ x ∈ p0, x.block < W.heap.size := by obtain ⟨m, hm⟩ := k0; exact DataW.trod_lt m _ _ _ hm
  obtain ⟨rs0, hr0⟩ := openOlsa (hval 0 29 v0 rfl rfl) h0
  clear hA0 hval0
  refine (walk v0 rs0 W hr0).mono fun e W' ⟨he, bel⟩ => ?_
  subst he
  exact ⟨_, rfl, _, _, _, [], _, [], hW', trodAll_mk1 (shut_bool Try.underlying4 _), (trodAll_cons_mk (Below.trod laidOut (by kernel_rfl) (of_decide_eq_true (by kernel_rfl)) k0 bel lt0) trodAll_mk0), rfl, bel.frame _, fun h => by cases h⟩
theorem over : Rows.fnExactCloseLinesRow.holds Try.pinned (OpenSpec.ofChange Rows.fnExactCloseLinesSpec) :=
  OpenClaim.holds_of_wide 7 Try.f7 rfl rfl rfl rfl rfl rfl rfl ⟨rfl, rfl, rfl, rfl, rfl⟩ rfl rfl rfl rfl rfl (by kernel_rfl) Try.func7 (by kernel_rfl)
    (of_decide_eq_true (by kernel_rfl)) (by unfold Func.isWrapper; first | (rw [if_pos (by decide +kernel)]; kernel_rfl) | (rw [if_neg (by decide +kernel)]; exact ⟨rfl, rfl⟩))
    (fun os started H enc _ => lifted os started H enc)
end fnExactCloseLines
theorem fnExactCloseLines_holds : Rows.FnExactCloseLinesSaid := fnExactCloseLines.over
#print axioms fnExactCloseLines_holds
end Go.Proofs.Ytnaidbpkllmeoaa
