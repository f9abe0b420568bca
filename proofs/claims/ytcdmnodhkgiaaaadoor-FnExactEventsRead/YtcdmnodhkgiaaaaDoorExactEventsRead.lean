/- EventsRead answers at every text as the model does, field by field, and its answer owns its memory. Conditions: none but what the card ties (two tables of the library). -/
import Derived.Test.YtcdmnodhkgiaaaaDoorRdI
import Derived.Test.YtcdmnodhkgiaaaaDoorRdS
import Derived.Test.YtcdmnodhkgiaaaaDoorJoM
import Derived.Test.YtcdmnodhkgiaaaaDoorCards
import Derived.Test.YtcdmnodhkgiaaaaDoorTie
import Derived.Lib.SmallJoins
import Derived.OpenVars
import Derived.Stop.Joined
import Derived.LaidMore
import Derived.SevenTiedAt
import Derived.Lay
import Derived.MakeChecks
namespace Go.Proofs.YtcdmnodhkgiaaaaDoor
open Go.ChangeShapes Go.WideShapes Go.ChangeAt Go.RowKit Go.Joins
open Go.ChangeMaps (open_string shut_string)
set_option linter.unusedVariables false
namespace fnExactEventsRead
theorem rows_of {W : World} {base : Nat} {v : Value} {t : ByteArray} (h : W.ownsRow base 39 4 v (evJ t).1.length (clEvs (evJ t).1)) : ∃ b, base ≤ b ∧ LEv b W v (evJ t).1 :=
  LEv.of_owns h (by have := evJ_len t; omega) fun i g hg => by
    have := ev_size (evJ_all t g (List.mem_of_getElem? hg))
    omega
theorem lev_any {b : Nat} {W : World} {v : Value} {rs : List EvR} (hn : rs = []) (h : LEv b W v rs) (b' : Nat) : LEv b' W v rs := by
  obtain ⟨a, cap, e, _⟩ := h.shape
  exact ⟨⟨a, cap, e, fun h0 => absurd hn h0⟩, h.len, h.sizes⟩
/-- A box that holds what was told, and its list. -/
structure LJ (S b : Nat) (v : Value) (rs : List EvR) (ln cd : Int) (w W : World) : Prop where
  bel : Below w.heap.size w W
  bx : W.heap[S]? = some (.cells #[v, .int .i64 ln, .int .i64 cd] 30)
  l : LEv b W v rs
theorem LJ.below {S b : Nat} {v : Value} {rs : List EvR} {ln cd : Int} {w W W' : World} (h : LJ S b v rs ln cd w W) (hb : Below W.heap.size W W') : LJ S b v rs ln cd w W' :=
  ⟨h.bel.trans (hb.mono h.bel.size), (hb.block S (Array.getElem?_eq_some_iff.1 h.bx).1).trans h.bx, h.l.below hb⟩
theorem LJ.keep {S b c : Nat} {v : Value} {rs : List EvR} {ln cd : Int} {w W W' : World} (h : LJ S b v rs ln cd w W) (hk : Keep c W W') (h1 : S ≠ c) (h2 : b ≠ c) (h3 : w.heap.size ≤ c) : LJ S b v rs ln cd w W' :=
  ⟨h.bel.trans (hk.below h3 h.bel.size), (hk.block S (Array.getElem?_eq_some_iff.1 h.bx).1 h1).trans h.bx, h.l.keep hk h2⟩
theorem LJ.one {b : Nat} {v : Value} {rs : List EvR} {ln cd : Int} {w W : World} (h : Below w.heap.size w W) (hl : LEv b W v rs) : LJ W.heap.size b v rs ln cd w (W.alloc (.cells #[v, .int .i64 ln, .int .i64 cd] 30)) := by
  have hb : Below W.heap.size W (W.alloc (.cells #[v, .int .i64 ln, .int .i64 cd] 30)) := (Below.refl _ _).alloc (Nat.le_refl _) _
  exact ⟨h.trans (hb.mono h.size), World.alloc_heap_new _ _, hl.below hb⟩
set_option maxRecDepth 20000 in
set_option maxHeartbeats 8000000 in
theorem walk (t : ByteArray) (w : World) (hs : t.size ≤ maxLen) (hL : laidMetH Tryd.prog Rows.fnExactEventsReadRow.laid w) :
    Calls Tryd.prog 4 #[.string t] w fun e w' => e = .returned (.bool true) ∧ Below w.heap.size w w' := by
  by_cases h4 : 1048576 < t.size
  · have h4' : (t.size : Int) > 1048576 := by omega
    go_enter Tryd.func4, Tryd.ntmps4
    go_wp2
    go_ret
    exact ⟨rfl, Below.refl _ _⟩
  have h4' : ¬ (t.size : Int) > 1048576 := by omega
  have QS := eventsRead_spec t
  have QI := eventsRead_impl t
  have HR : Hid (∀ (W : World) (base : Nat) (v : Value), W.ownsRow base 39 4 v (evJ t).1.length (clEvs (evJ t).1) → ∃ b, base ≤ b ∧ LEv b W v (evJ t).1) := fun W base v h => rows_of h
  have hlen := evJ_len t
  obtain ⟨rs, hrs⟩ : ∃ rs, rs = (evJ t).1 := ⟨_, rfl⟩
  obtain ⟨ln, hln⟩ : ∃ ln : Int, ln = ((evJ t).2.1 : Nat) := ⟨_, rfl⟩
  obtain ⟨cd, hcd⟩ : ∃ cd, cd = (evJ t).2.2 := ⟨_, rfl⟩
  rw [← hrs] at QS QI HR hlen
  rw [← hln, ← hcd] at QS QI
  clear hrs hln hcd hL hs h4
  go_enter Tryd.func4, Tryd.ntmps4
  go_wp2_with fail
  refine (QS _).mono ?_
  rintro e w1 ⟨vs, rfl, hr1, hb1⟩
  obtain ⟨bs, hbs, hbl, hl1⟩ : ∃ bs, w.heap.size ≤ bs ∧ bs ≤ w1.heap.size ∧ LEv bs w1 vs rs := by
    obtain ⟨b, h1, h2⟩ := HR.out _ _ _ hr1
    by_cases hrn : rs = []
    · exact ⟨w1.heap.size, hb1.size, Nat.le_refl _, lev_any hrn h2 _⟩
    · exact ⟨b, h1, Nat.le_of_lt (h2.lt hrn), h2⟩
  obtain ⟨As, Cs, hvs⟩ := hl1.val
  subst hvs
  have S1 := LJ.one (ln := ln) (cd := cd) hb1 hl1
  have hz1 : (w1.alloc (.cells #[.slice As rs.length Cs, .int .i64 ln, .int .i64 cd] 30)).heap.size = w1.heap.size + 1 := by simp
  have HZ : Hid ((w1.alloc (.cells #[.slice As rs.length Cs, .int .i64 ln, .int .i64 cd] 30)).heap.size = w1.heap.size + 1) := hz1
  clear hz1 hr1 QS hl1
  go_wp2_with fail
  have hz1 := HZ.out
  clear HZ
  obtain ⟨W1, hW1⟩ : ∃ W1, w1.alloc (.cells #[.slice As rs.length Cs, .int .i64 ln, .int .i64 cd] 30) = W1 := ⟨_, rfl⟩
  obtain ⟨S, hS⟩ : ∃ S, w1.heap.size = S := ⟨_, rfl⟩
  rw [hW1] at S1 hz1
  rw [hW1]
  have hz2 := hb1.size
  rw [hS] at S1
  try rw [hS]
  have HS : Hid (LJ S bs (.slice As rs.length Cs) rs ln cd w W1 ∧ w.heap.size ≤ bs ∧ w.heap.size ≤ S ∧ S < W1.heap.size ∧ bs < W1.heap.size) := ⟨S1, hbs, by omega, by omega, by omega⟩
  clear hb1 hbs S1 hbl hz1 hz2 hW1 hS
  refine (QI _).mono ?_
  rintro e w2 ⟨vg, rfl, hr2, hb2⟩
  obtain ⟨bg, hbg, hbn, hl2⟩ : ∃ bg, W1.heap.size ≤ bg ∧ bg ≠ w2.heap.size ∧ LEv bg w2 vg rs := by
    obtain ⟨b, h1, h2⟩ := HR.out _ _ _ hr2
    by_cases hrn : rs = []
    · exact ⟨w2.heap.size + 1, by have := hb2.size; omega, by omega, lev_any hrn h2 _⟩
    · exact ⟨b, h1, Nat.ne_of_lt (h2.lt hrn), h2⟩
  obtain ⟨Ag, Cg, hvg⟩ := hl2.val
  subst hvg
  have S2 := HS.out.1.below hb2
  have G2 := LJ.one (w := w) (ln := ln) (cd := cd) S2.bel hl2
  have hb0 : Below w2.heap.size w2 (w2.alloc (.cells #[.slice Ag rs.length Cg, .int .i64 ln, .int .i64 cd] 30)) := (Below.refl _ _).alloc (Nat.le_refl _) _
  have S2b := S2.below hb0
  have HF : Hid ((w2.alloc (.cells #[.slice Ag rs.length Cg, .int .i64 ln, .int .i64 cd] 30)).cell? ⟨S, 0, none⟩ = some (.slice As rs.length Cs) ∧ (w2.alloc (.cells #[.slice Ag rs.length Cg, .int .i64 ln, .int .i64 cd] 30)).cell? ⟨S, 1, none⟩ = some (.int .i64 ln) ∧ (w2.alloc (.cells #[.slice Ag rs.length Cg, .int .i64 ln, .int .i64 cd] 30)).cell? ⟨S, 2, none⟩ = some (.int .i64 cd)) := jo_bx S2b.bx
  obtain ⟨s0, s1, s2⟩ := HF.out
  clear S2b hb0 HF
  go_wp2_with fail
  obtain ⟨W2, hW2⟩ : ∃ W2, w2.alloc (.cells #[.slice Ag rs.length Cg, .int .i64 ln, .int .i64 cd] 30) = W2 := ⟨_, rfl⟩
  have hbw : Below w2.heap.size w2 W2 := by rw [← hW2]; exact (Below.refl _ _).alloc (Nat.le_refl _) _
  obtain ⟨G, hG⟩ : ∃ G, w2.heap.size = G := ⟨_, rfl⟩
  rw [hW2] at G2
  try rw [hW2]
  rw [hG] at G2 hbn
  try rw [hG]
  have HG : Hid (LJ S bs (.slice As rs.length Cs) rs ln cd w W2 ∧ LJ G bg (.slice Ag rs.length Cg) rs ln cd w W2 ∧ S ≠ bg ∧ bs ≠ bg ∧ G ≠ bg ∧ w.heap.size ≤ bg) := ⟨S2.below hbw, G2, by have := HS.out.2.2.2; omega, by have := HS.out.2.2.2; omega, fun e => hbn e.symm, by have := HS.out.1.bel.size; omega⟩
  clear hr2 hb2 hl2 hbg hbn S2 G2 hbw HS hW2 hG s0 s1 s2
  refine (eqJo_any (.slice Ag rs.length Cg) (.slice As rs.length Cs) rs ln cd _ HG.out.2.1.l.row HG.out.1.l.row).mono ?_
  rintro e w3 ⟨rfl, hb3⟩
  have H3 : Hid (LJ S bs (.slice As rs.length Cs) rs ln cd w w3 ∧ LJ G bg (.slice Ag rs.length Cg) rs ln cd w w3) := ⟨HG.out.1.below hb3, HG.out.2.1.below hb3⟩
  clear hb3
  obtain ⟨s0, s1, s2⟩ := jo_bx H3.out.1.bx
  obtain ⟨g0, g1, g2⟩ := jo_bx H3.out.2.bx
  obtain ⟨m, hm⟩ : ∃ m, m = 1 + rs.length * 4 := ⟨_, rfl⟩
  have hm0 : ¬ (m : Int) < 0 := by omega
  have hmb : m < 1000000000000 := by omega
  have HM : Hid (m = 1 + rs.length * 4) := hm
  have QM := markJo_any bg (.slice Ag rs.length Cg) rs ln cd 1 w3 H3.out.2.l (by omega)
  rw [← hm] at QM
  clear hm
  go_wp2_with fail
  refine QM.mono ?_
  rintro e w4 ⟨rfl, hl4, hk4⟩
  have H4 : Hid (LJ S bs (.slice As rs.length Cs) rs ln cd w w4 ∧ LJ G bg (.slice Ag rs.length Cg) (mkEvs 1 rs.length) ln cd w w4) := ⟨H3.out.1.keep hk4 HG.out.2.2.1 HG.out.2.2.2.1 HG.out.2.2.2.2.2, ⟨H3.out.2.bel.trans (hk4.below HG.out.2.2.2.2.2 H3.out.2.bel.size), (hk4.block G (Array.getElem?_eq_some_iff.1 H3.out.2.bx).1 HG.out.2.2.2.2.1).trans H3.out.2.bx, hl4⟩⟩
  clear s0 s1 s2 g0 g1 g2 hl4 hk4 QM H3
  obtain ⟨s0, s1, s2⟩ := jo_bx H4.out.1.bx
  obtain ⟨g0, g1, g2⟩ := jo_bx H4.out.2.bx
  have QH := heldJo_any (.slice Ag rs.length Cg) 1 rs.length ln cd w4 H4.out.2.l.row (by have := HM.out; omega)
  rw [← HM.out] at QH
  go_wp2_with fail
  refine QH.mono ?_
  rintro e w5 ⟨rfl, hb5⟩
  have H5 : Hid (LJ S bs (.slice As rs.length Cs) rs ln cd w w5 ∧ LJ G bg (.slice Ag rs.length Cg) (mkEvs 1 rs.length) ln cd w w5) := ⟨H4.out.1.below hb5, H4.out.2.below hb5⟩
  clear s0 s1 s2 g0 g1 g2 hb5 QH H4
  go_wp2_with fail
  refine (QI _).mono ?_
  rintro e w6 ⟨vh, rfl, hr6, hb6⟩
  obtain ⟨bh, _, hl6⟩ := HR.out _ _ _ hr6
  obtain ⟨Ah, Ch, hvh⟩ := hl6.val
  subst hvh
  have S6 := H5.out.1.below hb6
  have G6 := H5.out.2.below hb6
  have X6 := LJ.one (w := w) (ln := ln) (cd := cd) S6.bel hl6
  have hb0 : Below w6.heap.size w6 (w6.alloc (.cells #[.slice Ah rs.length Ch, .int .i64 ln, .int .i64 cd] 30)) := (Below.refl _ _).alloc (Nat.le_refl _) _
  have S6b := S6.below hb0
  have HF : Hid ((w6.alloc (.cells #[.slice Ah rs.length Ch, .int .i64 ln, .int .i64 cd] 30)).cell? ⟨S, 0, none⟩ = some (.slice As rs.length Cs) ∧ (w6.alloc (.cells #[.slice Ah rs.length Ch, .int .i64 ln, .int .i64 cd] 30)).cell? ⟨S, 1, none⟩ = some (.int .i64 ln) ∧ (w6.alloc (.cells #[.slice Ah rs.length Ch, .int .i64 ln, .int .i64 cd] 30)).cell? ⟨S, 2, none⟩ = some (.int .i64 cd)) := jo_bx S6b.bx
  obtain ⟨s0, s1, s2⟩ := HF.out
  clear S6b hb0 HF
  go_wp2_with fail
  obtain ⟨W6, hW6⟩ : ∃ W6, w6.alloc (.cells #[.slice Ah rs.length Ch, .int .i64 ln, .int .i64 cd] 30) = W6 := ⟨_, rfl⟩
  have hbw : Below w6.heap.size w6 W6 := by rw [← hW6]; exact (Below.refl _ _).alloc (Nat.le_refl _) _
  obtain ⟨X, hX⟩ : ∃ X, w6.heap.size = X := ⟨_, rfl⟩
  rw [hW6] at X6
  try rw [hW6]
  rw [hX] at X6
  try rw [hX]
  have H6 : Hid (LJ S bs (.slice As rs.length Cs) rs ln cd w W6 ∧ LJ G bg (.slice Ag rs.length Cg) (mkEvs 1 rs.length) ln cd w W6 ∧ LJ X bh (.slice Ah rs.length Ch) rs ln cd w W6) := ⟨S6.below hbw, G6.below hbw, X6⟩
  clear hr6 hb6 hl6 S6 G6 X6 hbw H5 QI hW6 hX s0 s1 s2
  refine (eqJo_any (.slice Ah rs.length Ch) (.slice As rs.length Cs) rs ln cd _ H6.out.2.2.l.row H6.out.1.l.row).mono ?_
  rintro e w7 ⟨rfl, hb7⟩
  have H7 : Hid (LJ G bg (.slice Ag rs.length Cg) (mkEvs 1 rs.length) ln cd w w7) := H6.out.2.1.below hb7
  clear hb7 H6
  obtain ⟨g0, g1, g2⟩ := jo_bx H7.out.bx
  have QH := heldJo_any (.slice Ag rs.length Cg) 1 rs.length ln cd w7 H7.out.l.row (by have := HM.out; omega)
  rw [← HM.out] at QH
  go_wp2_with fail
  refine QH.mono ?_
  rintro e w8 ⟨rfl, hb8⟩
  have H8 : Hid (Below w.heap.size w w8) := H7.out.bel.trans (hb8.mono H7.out.bel.size)
  clear g0 g1 g2 hb8 QH H7
  go_wp2
  go_ret
  exact ⟨rfl, H8.out⟩
theorem own : ownKnob Tryd.prog.godebug = none := by kernel_rfl
theorem laidOut : laidOutB Tryd.prog = true := by kernel_rfl
set_option maxRecDepth 100000 in
theorem lifted (os : Os) (started : os.Started) (H : Type) (enc : TypeId × Value → H) :
    ReturnsInHanded {} Tryd.checked os 4 .any (fun w args => (Rows.fnExactEventsReadSpec.pre enc Tryd.prog Tryd.f4 [] false w args ∧ laidMetH Tryd.prog Rows.fnExactEventsReadRow.laid w) ∧ sizedMet enc Tryd.prog Tryd.f4 (OpenSpec.ofChange Rows.fnExactEventsReadSpec) false w args)
      (Rows.fnExactEventsReadSpec.post enc Tryd.prog Tryd.f4 false true false false) := by
  refine returnsInHanded_of_change_and (C := Tryd.checked) (X := fun w _ => laidMetH Tryd.prog Rows.fnExactEventsReadRow.laid w) (fun _ _ _ hh h => h.of_heap hh) own started (by kernel_rfl) Tryd.func4
    (ChangeSpec.witness_shaped (enc := enc) (C := Tryd.checked) (os := os) (X := fun w _ => laidMetH Tryd.prog Rows.fnExactEventsReadRow.laid w) false (World.laidAll Tryd.prog os Rows.fnExactEventsReadRow.laid) #[.string ⟨#[]⟩] 8 (World.laidAll_os _ _ _) (World.shaped_of_ZipB (by kernel_rfl) (by kernel_rfl)) (by kernel_rfl) (by kernel_rfl) (by kernel_rfl) (by rw [MakeChecks.laidMetH_plain _ _ _ (by kernel_rfl)]; exact laidMet_laidAll _ (by kernel_rfl) (by kernel_rfl))) ?_
  intro W base args ds gs before hval0 hW hcnd _ hL _
  have hval : ∀ (j : Nat) t v, Tryd.f4.params[j]? = some t → args[j]? = some v → Value.okWide Tryd.prog W .any base t v := hval0
  have hW' := hW
  obtain ⟨p, q, hA0, hV, rfl, hfz, hnd⟩ := hW
  have hA : DataW.TrodAll enc Tryd.prog W 0 (fun _ => true) true Tryd.f4.params.toList args.toList ds p := hA0
  rw [Tryd.params4] at hA hval
  obtain ⟨v0, vs0, d0, ds0, p0, q0, hargs, rfl, rfl, h0, r0⟩ := trodAll_cons hA
  obtain ⟨rfl, rfl, rfl⟩ := trodAll_nil r0
  obtain rfl : args = #[v0] := by cases args; simp_all
  obtain ⟨rfl, rfl⟩ := trodVars_none hV
  have k0 := h0
  have lt0 : ∀ x ∈ p0, x.block < W.heap.size := by obtain ⟨m, hm⟩ := k0; exact DataW.trod_lt m _ _ _ hm
  obtain ⟨s0, rfl, hs0⟩ : ∃ s : ByteArray, v0 = .string s ∧ s.size ≤ maxLen := by
    obtain ⟨s, rfl, _, _, hs⟩ := open_string Tryd.underlying9 (hval 0 9 v0 rfl rfl) h0
    exact ⟨s, rfl, hs⟩
  clear hA0 hval0
  refine (walk s0 W hs0 hL).mono fun e W' ⟨he, bel⟩ => ?_
  subst he
  exact ⟨_, rfl, _, _, _, [], _, [], hW', trodAll_mk1 (shut_bool Tryd.underlying4 _), (trodAll_cons_mk (Below.trod laidOut (by kernel_rfl) (of_decide_eq_true (by kernel_rfl)) k0 bel lt0) trodAll_mk0), rfl, bel.frame _, fun h => by cases h⟩
theorem over : Rows.fnExactEventsReadRow.holds Tryd.pinned (OpenSpec.ofChange Rows.fnExactEventsReadSpec) :=
  OpenClaim.holds_of_wide 4 Tryd.f4 rfl rfl rfl rfl rfl rfl rfl ⟨rfl, rfl, rfl, rfl, rfl⟩ rfl rfl rfl rfl rfl (by kernel_rfl) Tryd.func4 (by kernel_rfl)
    (of_decide_eq_true (by kernel_rfl)) (by unfold Func.isWrapper; first | (rw [if_pos (by decide +kernel)]; kernel_rfl) | (rw [if_neg (by decide +kernel)]; exact ⟨rfl, rfl⟩))
    (fun os started H enc _ => lifted os started H enc)
theorem card : Rows.FnExactEventsReadCardSaid :=
  Claim7.holds_tied_plain_at .later [] [.data, .pinned] true (true, "ed963f01cbe095f08cd8eca2db4c333bce875e1f62df3b52bb07c0c21514b5a5") false
    over (fun _ h => by cases h) (by kernel_rfl) (fun _ h => by cases h) fnExactEventsRead_row_tie rfl ⟨rfl, rfl⟩ (by kernel_rfl) rfl
    (fun f fn hf hfn => by
      obtain rfl : f = 4 := Option.some.inj ((show Tryd.prog.funcNamed "loop.example/g00096/laws.FnExactEventsRead" = some 4 by kernel_rfl).symm.trans hf) |>.symm
      obtain rfl : fn = Tryd.f4 := (Option.some.inj (Tryd.func4.symm.trans hfn)).symm
      exact ⟨by kernel_rfl, fun j t ht => by
        rw [Tryd.params4] at ht
        have hj : Tryd.prog.wantsStandIn t = false := by
          rcases j with _ | j
          · have e : t = 9 := by simpa using ht.symm
            subst e
            exact (show Tryd.prog.wantsStandIn 9 = false by kernel_rfl)
          simp at ht
        exact hj⟩)
    (by kernel_rfl)
end fnExactEventsRead
theorem fnExactEventsRead_holds : Rows.FnExactEventsReadCardSaid := fnExactEventsRead.card
#print axioms fnExactEventsRead_holds
end Go.Proofs.YtcdmnodhkgiaaaaDoor
