/- SealChain answers at every list of Events as the model does, writes into no argument, and its answer owns its memory. Conditions: none but what the card ties (the words of events as the program lays them). -/
import Derived.Test.YtibjmokhkjklkaaDoorG25
import Derived.Test.YtibjmokhkjklkaaDoorG32
import Derived.Test.YtibjmokhkjklkaaDoorG33
import Derived.Test.YtibjmokhkjklkaaDoorG36
import Derived.Test.YtibjmokhkjklkaaDoorG38
import Derived.Test.YtibjmokhkjklkaaDoorG40
import Derived.Test.YtibjmokhkjklkaaDoorG41
import Derived.Test.YtibjmokhkjklkaaDoorG44
import Derived.Test.YtibjmokhkjklkaaDoorG03
import Derived.Test.YtibjmokhkjklkaaDoorCards
import Derived.Test.YtibjmokhkjklkaaDoorTie
import Derived.Lib.SmallJoins
import Derived.OpenVars
import Derived.Stop.Joined
import Derived.LaidMore
import Derived.SevenTiedAt
import Derived.Lay
import Derived.MakeChecks
namespace Go.Proofs.YtibjmokhkjklkaaDoor
open Go.ChangeShapes Go.WideShapes Go.ChangeAt Go.RowKit Go.Joins
open Go.ChangeMaps (open_string shut_string)
set_option linter.unusedVariables false
namespace fnExactSealChain
theorem hp_below {W W' : World} {b : Nat} {o : Obj} (h : W.heap[b]? = some o) (hb : Below W.heap.size W W') : W'.heap[b]? = some o := (hb.block _ (Array.getElem?_eq_some_iff.1 h).1).trans h
theorem hp_keep {W W' : World} {b c : Nat} {o : Obj} (h : W.heap[b]? = some o) (hk : Keep c W W') (hc : b ≠ c) : W'.heap[b]? = some o := (hk.block _ (Array.getElem?_eq_some_iff.1 h).1 hc).trans h
/-- A list of numbers that lay ahead of N. -/
def R3 (N : Nat) (u : Value) (l : List Int) (W : World) : Prop := ∃ W3, W3.heap.size = N ∧ RowN W3 u l ∧ Below N W3 W
theorem R3.row {N : Nat} {u : Value} {l : List Int} {W : World} (h : R3 N u l W) : RowN W u l := by
  obtain ⟨W3, rfl, h2, h3⟩ := h
  exact h2.below h3
theorem R3.le {N : Nat} {u : Value} {l : List Int} {W : World} (h : R3 N u l W) : N ≤ W.heap.size := by
  obtain ⟨W3, rfl, h2, h3⟩ := h
  exact h3.size
theorem R3.below {N : Nat} {u : Value} {l : List Int} {W W' : World} (h : R3 N u l W) (hb : Below W.heap.size W W') : R3 N u l W' := by
  have := h.le
  obtain ⟨W3, h1, h2, h3⟩ := h
  exact ⟨W3, h1, h2, h3.trans (hb.mono this)⟩
theorem R3.keep {N c : Nat} {u : Value} {l : List Int} {W W' : World} (h : R3 N u l W) (hk : Keep c W W') (hc : N ≤ c) : R3 N u l W' := by
  have := h.le
  obtain ⟨W3, h1, h2, h3⟩ := h
  exact ⟨W3, h1, h2, h3.trans (hk.below hc this)⟩
theorem bel_keep {n c : Nat} {a W W' : World} (h : Below n a W) (hk : Keep c W W') (hc : n ≤ c) (hn : n ≤ W.heap.size) : Below n a W' := h.trans (hk.below hc hn)
theorem lev_apart {b N m : Nat} {W : World} {v : Value} {rs : List EvR} (h : LEv b W v rs) (hN : N ≤ b) (hm : b < m ∨ rs = []) (c : Nat) (hc : m ≤ c) : ∃ b', LEv b' W v rs ∧ N ≤ b' ∧ b' ≠ c ∧ (b' < m ∨ c < b') := by
  rcases hm with hm | rfl
  · exact ⟨b, h, hN, by omega, .inl hm⟩
  · refine ⟨N + c + 1, ⟨?_, h.len, h.sizes⟩, by omega, by omega, .inr (by omega)⟩
    obtain ⟨a, cap, e, _⟩ := h.shape
    exact ⟨a, cap, e, fun g => absurd rfl g⟩
theorem lev_or {b : Nat} {W : World} {v : Value} {rs : List EvR} (h : LEv b W v rs) : b < W.heap.size ∨ rs = [] := by
  by_cases e : rs = []
  · exact .inr e
  · exact .inl (h.lt e)
set_option maxHeartbeats 8000000 in
theorem walk (u : Value) (rs : List EvR) (w : World) (h : RowEv w u rs) (hL : laidMetH Tryd.prog Rows.fnExactSealChainRow.laid w) :
    Calls Tryd.prog 3 #[u] w fun e w' => e = .returned (.bool true) ∧ Below w.heap.size w w' := by
  obtain ⟨A, cap, rfl⟩ := h.val
  have hlen := h.len
  have H0 : Hid (RowEv w (.slice A rs.length cap) rs) := h
  have T0 : Hid (WrdAt w) := wrd_laid hL
  clear h hL
  obtain ⟨L, hL⟩ : ∃ L, L = chainT rs := ⟨_, rfl⟩
  have HL : Hid (L = chainT rs) := hL
  have hL4 : L.length ≤ 401 := by rw [hL]; have := chainT_len rs; omega
  clear hL
  go_enter Tryd.func3, Tryd.ntmps3
  go_wp2_with fail
  refine (szEvs_any _ rs 1048576 _ H0.out (by omega)).mono ?_
  rintro e w1 ⟨r, rfl, hr, hb⟩
  rcases hr with rfl | ⟨g0, g1, hG⟩
  · have HB : Hid (Below w.heap.size w w1) := hb
    clear hb
    go_wp2
    go_ret
    exact ⟨rfl, HB.out⟩
  have g0' : ¬ r < 0 := by omega
  have HG : Hid (BdEv 1048576 rs) := BdEv.mono hG (by omega)
  have HB : Hid (Below w.heap.size w w1) := hb
  clear hG hb
  go_wp2_with fail
  refine (toEvs_any _ rs _ (H0.out.below HB.out) HG.out).mono ?_
  rintro e wa ⟨v_wa, rfl, r_wa, hb⟩
  have HB : Hid (Below w.heap.size w wa) := HB.out.trans (hb.mono HB.out.size)
  obtain ⟨b_wa, hbb_wa, l_wa⟩ := r_wa.lst HG.out
  have hs_wa := hb.size
  have L_wa : Hid (LEv b_wa wa v_wa rs) := l_wa
  clear l_wa r_wa hb
  have Q := sealChain_spec _ rs _ L_wa.out.row
  rw [← HL.out] at Q
  go_wp2_with fail
  refine Q.mono ?_
  rintro e w3 ⟨u3, rfl, ho3, hb⟩
  clear Q
  obtain ⟨A3, C3, rfl, _, _, hr3⟩ := own_capS ho3 (by omega)
  have HB : Hid (Below w.heap.size w w3) := HB.out.trans (hb.mono HB.out.size)
  clear L_wa
  have R : Hid (R3 w3.heap.size (.slice A3 L.length C3) L w3) := ⟨w3, rfl, hr3, Below.refl _ _⟩
  have hN0 : w.heap.size ≤ w3.heap.size := HB.out.size
  clear hb ho3 hr3
  go_wp2_with fail
  refine (toEvs_any _ rs _ (H0.out.below HB.out) HG.out).mono ?_
  rintro e wd ⟨v_wd, rfl, r_wd, hb⟩
  have HB : Hid (Below w.heap.size w wd) := HB.out.trans (hb.mono HB.out.size)
  have R : Hid (R3 w3.heap.size (.slice A3 L.length C3) L wd) := R.out.below hb
  obtain ⟨b_wd, hbb_wd, l_wd⟩ := r_wd.lst HG.out
  have hs_wd := hb.size
  have L_wd : Hid (LEv b_wd wd v_wd rs) := l_wd
  clear l_wd r_wd hb
  have hbE2 : b_wd < wd.heap.size ∨ rs = [] := lev_or L_wd.out
  have hlast : w3.heap.size ≤ wd.heap.size ∧ wd.heap.size ≤ wd.heap.size := by omega
  have hbE : w3.heap.size ≤ b_wd := hbb_wd
  have Q := sealChain_impl _ rs _ L_wd.out.row (T0.out.below HB.out)
  rw [← HL.out] at Q
  go_wp2_with fail
  refine Q.mono ?_
  rintro e w7 ⟨u7, rfl, ho7, hb⟩
  clear Q
  have HB : Hid (Below w.heap.size w w7) := HB.out.trans (hb.mono HB.out.size)
  have R : Hid (R3 w3.heap.size (.slice A3 L.length C3) L w7) := R.out.below hb
  have L_wd : Hid (LEv b_wd w7 v_wd rs) := L_wd.out.below hb
  clear hb
  obtain ⟨b7, hb7, l7⟩ := LN.of_owns ho7 (by omega)
  obtain ⟨A7, C7, rfl, _, _, _⟩ := own_capS ho7 (by omega)
  have G : Hid (LN b7 w7 (.slice A7 L.length C7) L) := l7
  clear ho7 l7
  go_wp2_with fail
  refine (eqN_any _ _ L _ G.out.row R.out.row).mono ?_
  rintro e w8 ⟨rfl, hb⟩
  have HB : Hid (Below w.heap.size w w8) := HB.out.trans (hb.mono HB.out.size)
  have R : Hid (R3 w3.heap.size (.slice A3 L.length C3) L w8) := R.out.below hb
  have L_wd : Hid (LEv b_wd w8 v_wd rs) := L_wd.out.below hb
  have G : Hid (LN b7 w8 (.slice A7 L.length C7) L) := G.out.below hb
  clear hb
  go_wp2_with fail
  refine (toEvs_any _ rs _ (H0.out.below HB.out) HG.out).mono ?_
  rintro e wg ⟨v_wg, rfl, r_wg, hb⟩
  have HB : Hid (Below w.heap.size w wg) := HB.out.trans (hb.mono HB.out.size)
  have R : Hid (R3 w3.heap.size (.slice A3 L.length C3) L wg) := R.out.below hb
  have L_wd : Hid (LEv b_wd wg v_wd rs) := L_wd.out.below hb
  have G : Hid (LN b7 wg (.slice A7 L.length C7) L) := G.out.below hb
  obtain ⟨b_wg, hbb_wg, l_wg⟩ := r_wg.lst HG.out
  have hs_wg := hb.size
  have L_wg : Hid (LEv b_wg wg v_wg rs) := l_wg
  clear l_wg r_wg hb
  go_wp2_with fail
  refine (eqEvs_any _ _ rs _ L_wd.out.row L_wg.out.row).mono ?_
  rintro e w9 ⟨rfl, hb⟩
  have HB : Hid (Below w.heap.size w w9) := HB.out.trans (hb.mono HB.out.size)
  have R : Hid (R3 w3.heap.size (.slice A3 L.length C3) L w9) := R.out.below hb
  have L_wd : Hid (LEv b_wd w9 v_wd rs) := L_wd.out.below hb
  have G : Hid (LN b7 w9 (.slice A7 L.length C7) L) := G.out.below hb
  clear L_wg
  clear hb
  obtain ⟨b5, l5, hb5, hne5, hor5⟩ := lev_apart L_wd.out hbE hbE2 b7 (by omega)
  go_wp2_with fail
  refine (markEv_any b5 _ rs 1 _ l5 (by have := HG.out.len; omega)).mono ?_
  rintro e wm ⟨rfl, _, hk⟩
  have HB : Hid (Below w.heap.size w wm) := bel_keep HB.out hk (by omega) HB.out.size
  have R : Hid (R3 w3.heap.size (.slice A3 L.length C3) L wm) := R.out.keep hk hb5
  clear L_wd
  have G : Hid (LN b7 wm (.slice A7 L.length C7) L) := G.out.keep hk (fun _ => Ne.symm hne5)
  clear hk l5
  obtain ⟨K1, hK1⟩ : ∃ K1 : Int, K1 = ((1 + rs.length * 4 : Nat) : Int) := ⟨_, rfl⟩
  rw [← hK1]
  have hK0 : ¬ K1 < 0 := by omega
  have hK0b : 0 ≤ K1 ∧ K1 ≤ 100000000000 := by have := HG.out.len; omega
  clear hK1
  go_wp2_with fail
  refine (eqN_any _ _ L _ G.out.row R.out.row).mono ?_
  rintro e wo ⟨rfl, hb⟩
  have HB : Hid (Below w.heap.size w wo) := HB.out.trans (hb.mono HB.out.size)
  have R : Hid (R3 w3.heap.size (.slice A3 L.length C3) L wo) := R.out.below hb
  have G : Hid (LN b7 wo (.slice A7 L.length C7) L) := G.out.below hb
  clear hb
  have hRl := R.out.le
  have hbl := HB.out.size
  go_wp2_with fail
  refine (markN_any b7 _ L 1 _ G.out (by omega)).mono ?_
  rintro e wp ⟨rfl, l8, hk⟩
  have HB : Hid (Below w.heap.size w wp) := bel_keep HB.out hk (by omega) HB.out.size
  have R : Hid (R3 w3.heap.size (.slice A3 L.length C3) L wp) := R.out.keep hk (by omega)
  clear G
  have M : Hid (LN b7 wp (.slice A7 L.length C7) (mkNs 1 L.length)) := l8
  clear hk l8
  obtain ⟨K2, hK2⟩ : ∃ K2 : Int, K2 = 1 + (L.length : Int) := ⟨_, rfl⟩
  rw [← hK2]
  have hK20 : ¬ K2 < 0 := by omega
  have HH : Hid (∀ (W : World), RowN W (.slice A7 L.length C7) (mkNs 1 L.length) → Calls Tryd.prog 14 #[.slice A7 L.length C7, .int .i64 1] W fun e w' => e = .returned (.int .i64 K2) ∧ Below W.heap.size W w') := by
    intro W hW
    rw [hK2]
    exact heldN_any _ L.length 1 W hW (by omega)
  clear hK2
  go_wp2_with fail
  refine (HH.out _ M.out.row).mono ?_
  rintro e wq ⟨rfl, hb⟩
  have HB : Hid (Below w.heap.size w wq) := HB.out.trans (hb.mono HB.out.size)
  have R : Hid (R3 w3.heap.size (.slice A3 L.length C3) L wq) := R.out.below hb
  have M : Hid (LN b7 wq (.slice A7 L.length C7) (mkNs 1 L.length)) := M.out.below hb
  clear hb
  go_wp2_with fail
  refine (toEvs_any _ rs _ (H0.out.below HB.out) HG.out).mono ?_
  rintro e wr ⟨v_wr, rfl, r_wr, hb⟩
  have HB : Hid (Below w.heap.size w wr) := HB.out.trans (hb.mono HB.out.size)
  have R : Hid (R3 w3.heap.size (.slice A3 L.length C3) L wr) := R.out.below hb
  have M : Hid (LN b7 wr (.slice A7 L.length C7) (mkNs 1 L.length)) := M.out.below hb
  obtain ⟨b_wr, hbb_wr, l_wr⟩ := r_wr.lst HG.out
  have hs_wr := hb.size
  have L_wr : Hid (LEv b_wr wr v_wr rs) := l_wr
  clear l_wr r_wr hb
  have Q := sealChain_impl _ rs _ L_wr.out.row (T0.out.below HB.out)
  rw [← HL.out] at Q
  go_wp2_with fail
  refine Q.mono ?_
  rintro e wu ⟨uu, rfl, hou, hb⟩
  clear Q
  have HB : Hid (Below w.heap.size w wu) := HB.out.trans (hb.mono HB.out.size)
  have R : Hid (R3 w3.heap.size (.slice A3 L.length C3) L wu) := R.out.below hb
  have M : Hid (LN b7 wu (.slice A7 L.length C7) (mkNs 1 L.length)) := M.out.below hb
  have L_wr : Hid (LEv b_wr wu v_wr rs) := L_wr.out.below hb
  clear hb
  obtain ⟨Au, Cu, rfl, _, _, hru⟩ := own_capS hou (by omega)
  clear L_wr
  have U : Hid (RowN wu (.slice Au L.length Cu) L) := hru
  clear hou hru
  go_wp2_with fail
  refine (eqN_any _ _ L _ U.out R.out.row).mono ?_
  rintro e wv ⟨rfl, hb⟩
  have HB : Hid (Below w.heap.size w wv) := HB.out.trans (hb.mono HB.out.size)
  have R : Hid (R3 w3.heap.size (.slice A3 L.length C3) L wv) := R.out.below hb
  have M : Hid (LN b7 wv (.slice A7 L.length C7) (mkNs 1 L.length)) := M.out.below hb
  clear hb
  go_wp2_with fail
  refine (HH.out _ M.out.row).mono ?_
  rintro e wx ⟨rfl, hb⟩
  have HB : Hid (Below w.heap.size w wx) := HB.out.trans (hb.mono HB.out.size)
  have R : Hid (R3 w3.heap.size (.slice A3 L.length C3) L wx) := R.out.below hb
  have M : Hid (LN b7 wx (.slice A7 L.length C7) (mkNs 1 L.length)) := M.out.below hb
  clear hb
  go_wp2
  go_ret
  exact ⟨rfl, HB.out⟩
theorem own : ownKnob Tryd.prog.godebug = none := by kernel_rfl
theorem laidOut : laidOutB Tryd.prog = true := by kernel_rfl
theorem door_met (os : Os) (args : Array Value) : laidMetH Tryd.prog Rows.fnExactSealChainRow.laid ((World.doorLaid Tryd.prog 14 os).forCall (fun _ _ => 0) ⟨#[], args, []⟩).memory :=
  laidMetH_of_parts3 (fuel := 8) (laidMet_of_run' 8 (by kernel_rfl) (by kernel_rfl)) (by kernel_rfl) (by kernel_rfl)
set_option maxRecDepth 100000 in
theorem lifted (os : Os) (started : os.Started) (H : Type) (enc : TypeId × Value → H) :
    ReturnsInHanded {} Tryd.checked os 3 .any (fun w args => (Rows.fnExactSealChainSpec.pre enc Tryd.prog Tryd.f3 [] false w args ∧ laidMetH Tryd.prog Rows.fnExactSealChainRow.laid w) ∧ sizedMet enc Tryd.prog Tryd.f3 (OpenSpec.ofChange Rows.fnExactSealChainSpec) false w args)
      (Rows.fnExactSealChainSpec.post enc Tryd.prog Tryd.f3 false true false false) := by
  refine returnsInHanded_of_change_and (C := Tryd.checked) (X := fun w _ => laidMetH Tryd.prog Rows.fnExactSealChainRow.laid w) (fun _ _ _ hh h => h.of_heap hh) own started (by kernel_rfl) Tryd.func3
    (ChangeSpec.witness_shaped (enc := enc) (C := Tryd.checked) (os := os) (X := fun w _ => laidMetH Tryd.prog Rows.fnExactSealChainRow.laid w) false (World.doorLaid Tryd.prog 14 os) #[.slice none 0 0] 8 rfl (World.shaped_of_RefB (by kernel_rfl) (by kernel_rfl)) (by kernel_rfl) (by kernel_rfl) (by kernel_rfl) (door_met os _)) ?_
  intro W base args ds gs before hval0 hW hcnd _ hL _
  have hval : ∀ (j : Nat) t v, Tryd.f3.params[j]? = some t → args[j]? = some v → Value.okWide Tryd.prog W .any base t v := hval0
  have hW' := hW
  obtain ⟨p, q, hA0, hV, rfl, hfz, hnd⟩ := hW
  have hA : DataW.TrodAll enc Tryd.prog W 0 (fun _ => true) true Tryd.f3.params.toList args.toList ds p := hA0
  rw [Tryd.params3] at hA hval
  obtain ⟨v0, vs0, d0, ds0, p0, q0, hargs, rfl, rfl, h0, r0⟩ := trodAll_cons hA
  obtain ⟨rfl, rfl, rfl⟩ := trodAll_nil r0
  obtain rfl : args = #[v0] := by cases args; simp_all
  obtain ⟨_, _, _, _, gd, _, rfl, _⟩ := trodVars_one hV
  have k0 := h0
  have lt0 : ∀ x ∈ p0, x.block < W.heap.size := by obtain ⟨m, hm⟩ := k0; exact DataW.trod_lt m _ _ _ hm
  obtain ⟨rs0, hr0⟩ := openEvsa (hval 0 22 v0 rfl rfl) h0
  clear hA0 hval0
  refine (walk v0 rs0 W hr0 hL).mono fun e W' ⟨he, bel⟩ => ?_
  subst he
  exact ⟨_, rfl, _, _, _, [], _, _, hW', trodAll_mk1 (shut_bool Tryd.underlying4 _), (trodAll_cons_mk (Below.trod laidOut (by kernel_rfl) (of_decide_eq_true (by kernel_rfl)) k0 bel lt0) trodAll_mk0), Below.trodVars laidOut bel (by kernel_rfl) hV, bel.frame _, fun h => by cases h⟩
theorem over : Rows.fnExactSealChainRow.holds Tryd.pinned (OpenSpec.ofChange Rows.fnExactSealChainSpec) :=
  OpenClaim.holds_of_wide 3 Tryd.f3 rfl rfl rfl rfl rfl rfl rfl ⟨rfl, rfl, rfl, rfl, rfl⟩ rfl rfl rfl rfl rfl (by kernel_rfl) Tryd.func3 (by kernel_rfl)
    (of_decide_eq_true (by kernel_rfl)) (by unfold Func.isWrapper; first | (rw [if_pos (by decide +kernel)]; kernel_rfl) | (rw [if_neg (by decide +kernel)]; exact ⟨rfl, rfl⟩))
    (fun os started H enc _ => lifted os started H enc)
theorem card : Rows.FnExactSealChainCardSaid :=
  Claim7.holds_tied_plain_at .later [] [.data] true (true, "d6e7dc45e19172ea6cc2aa3a41c2d910d314ee5d2b6bc359248a11bc9cf2512a") false
    over (fun _ h => by cases h) (by kernel_rfl) (fun _ h => by cases h) fnExactSealChain_row_tie rfl ⟨rfl, rfl⟩ (by kernel_rfl) rfl
    (fun f fn hf hfn => by
      obtain rfl : f = 3 := Option.some.inj ((show Tryd.prog.funcNamed "loop.example/g00096/laws.FnExactSealChain" = some 3 by kernel_rfl).symm.trans hf) |>.symm
      obtain rfl : fn = Tryd.f3 := (Option.some.inj (Tryd.func3.symm.trans hfn)).symm
      exact ⟨by kernel_rfl, fun j t ht => by
        rw [Tryd.params3] at ht
        have hj : Tryd.prog.wantsStandIn t = false := by
          rcases j with _ | j
          · have e : t = 22 := by simpa using ht.symm
            subst e
            exact (show Tryd.prog.wantsStandIn 22 = false by kernel_rfl)
          simp at ht
        exact hj⟩)
    (by kernel_rfl)
end fnExactSealChain
theorem fnExactSealChain_holds : Rows.FnExactSealChainCardSaid := fnExactSealChain.card
#print axioms fnExactSealChain_holds
end Go.Proofs.YtibjmokhkjklkaaDoor
