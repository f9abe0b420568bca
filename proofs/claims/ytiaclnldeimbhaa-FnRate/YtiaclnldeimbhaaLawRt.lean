/- FnRate returns true at every text and leaves it as it was: a partner's rate in a drawn right book is from 0 to 100, a hundred just if all that was ordered was got, and -1 just if nothing was ordered; no condition. -/
import Derived.Test.YtiaclnldeimbhaaBdR
import Derived.Test.YtiaclnldeimbhaaRtQ
import Derived.Test.YtiaclnldeimbhaaRtI
import Derived.Test.YtiaclnldeimbhaaBkS
import Derived.Deep.Cut
import Derived.Deep.CutRange
import Derived.Deep.DeepMust
namespace Go.Proofs.Ytiaclnldeimbhaa
open Go.ChangeShapes Go.WideShapes Go.ChangeAt Go.RowKit
set_option linter.unusedVariables false
namespace fnRate
def IsRow (k : IntKind) (w : World) (a : Option Addr) (len cap : Nat) (zs : List Int) : Prop :=
  (a = none ∧ len = 0 ∧ cap = 0 ∧ zs = []) ∨
  ∃ x, a = some x ∧ len ≤ cap ∧ cap ≤ maxLen ∧ zs.length = cap ∧ (∀ i, i < zs.length → w.cell? (x.add i) = some (.int k (zs.getD i 0))) ∧ ∀ n ∈ zs, (Lit.int k n).wf = true
theorem IsRow.bytesAt {w : World} {a : Option Addr} {len cap : Nat} {zs : List Int} (h : IsRow .u8 w a len cap zs) : BytesAt w a len zs := by
  intro g
  rcases h with ⟨_, rfl, _, _⟩ | ⟨x, rfl, hl, _, hz, hc, _⟩
  · omega
  · obtain ⟨b, off, spot⟩ := x
    have h0 := hc 0 (by omega)
    have hspot : spot = none := by simpa [Addr.add] using World.cell?_spot h0
    subst hspot
    refine ⟨b, off, rfl, fun i hi => ?_⟩
    have hplain : (⟨b, off, none⟩ : Addr).add i = ⟨b, off + i, none⟩ := by unfold Addr.add; split <;> simp_all
    have := hc i (by omega)
    rw [hplain] at this
    simpa [List.getD] using this
theorem IsRow.len_le {w : World} {a : Option Addr} {len cap : Nat} {zs : List Int} (h : IsRow .u8 w a len cap zs) : len ≤ 9223372036854775807 := by
  rcases h with ⟨_, rfl, _, _⟩ | ⟨x, rfl, hl, hm, hz, hc, _⟩
  · omega
  · unfold maxLen at hm
    omega
/-- A book in a box. -/
structure LB (B : Nat) (W : World) (us ul : Value) (p : Bk) : Prop where
  box : W.heap[B]? = some (.cells #[us, ul] 26)
  row : RBk W us ul p
theorem LB.below {B : Nat} {W W' : World} {us ul : Value} {p : Bk} (h : LB B W us ul p) (hb : Below W.heap.size W W') : LB B W' us ul p := ⟨(hb.block _ (Array.getElem?_eq_some_iff.1 h.box).1).trans h.box, h.row.below hb⟩
theorem LB.new {W : World} {us ul : Value} {p : Bk} (h : RBk W us ul p) : LB W.heap.size (W.alloc (.cells #[us, ul] 26)) us ul p := ⟨World.alloc_heap_new _ _, h.below ((Below.refl _ _).alloc (Nat.le_refl _) _)⟩
theorem aB {W : World} (o : Obj) : Below W.heap.size W (W.alloc o) := (Below.refl _ _).alloc (Nat.le_refl _) _
set_option maxRecDepth 100000 in
set_option maxHeartbeats 8000000 in
theorem walk (a0 : Option Addr) (len0 cap0 : Nat) (z0 : List Int) (w : World) (w0 : IsRow .u8 w a0 len0 cap0 z0) :
    Calls Try.prog 3 #[.slice a0 len0 cap0] w fun e w' => e = .returned (.bool true) ∧ Below w.heap.size w w' := by
  have hl0 := w0.len_le
  have HR : Hid (BytesAt w a0 len0 z0) := w0.bytesAt
  clear w0
  by_cases hg : 1048576 < len0
  · have hg' : (1048576 : Int) < (len0 : Int) := by omega
    clear HR
    go_enter Try.func3, Try.ntmps3
    go_wp2
    go_ret
    exact ⟨rfl, Below.refl _ _⟩
  have hg' : (len0 : Int) ≤ 1048576 := by omega
  go_enter Try.func3, Try.ntmps3
  go_wp2_with fail
  refine (drawRateOf_any a0 len0 cap0 z0 _ (by omega) HR.out).mono ?_
  rintro e w1 ⟨us, ul, p, t, rfl, hrow, hbd, ht, hb1⟩
  obtain ⟨P0, P1, P2, P3, rfl, rfl⟩ := hrow.val
  have hlen := hrow.ln.len
  have L1 := LB.new hrow
  have a1 := aB (W := w1) (.cells #[.slice P0 p.stocks.length P1, .slice P2 p.lines.length P3] 26)
  obtain ⟨W1, hW1⟩ : ∃ W1, w1.alloc (.cells #[.slice P0 p.stocks.length P1, .slice P2 p.lines.length P3] 26) = W1 := ⟨_, rfl⟩
  obtain ⟨B1, hB1⟩ : ∃ B1, B1 = w1.heap.size := ⟨_, rfl⟩
  rw [hW1, ← hB1] at L1
  rw [hW1] at a1
  have H1 : Hid (LB B1 W1 (.slice P0 p.stocks.length P1) (.slice P2 p.lines.length P3) p ∧ Below w.heap.size w W1) := ⟨L1, hb1.trans (a1.mono hb1.size)⟩
  have HWE : Hid (w1.alloc (.cells #[.slice P0 p.stocks.length P1, .slice P2 p.lines.length P3] 26) = W1 ∧ B1 = w1.heap.size) := ⟨hW1, hB1⟩
  clear hrow hbd hb1 L1 a1 hW1 hB1 HR
  go_upto_region 4 with fail
  try rw [HWE.out.1]
  try rw [← HWE.out.2]
  clear HWE
  obtain ⟨k0, k1⟩ := box2 H1.out.1.box
  obtain ⟨x, hx⟩ : ∃ x, x = rateT p t := ⟨_, rfl⟩
  have HX : Hid (x = rateT p t) := hx
  have Q1 := fun W h => rateOf_impl p (.slice P0 p.stocks.length P1) (.slice P2 p.lines.length P3) t W h (by omega)
  rw [← hx] at Q1
  clear hx
  go_wp2_with fail
  refine (Q1 _ H1.out.1.row).mono ?_
  rintro e w2 ⟨rfl, hb2⟩
  have H2 : Hid (LB B1 w2 (.slice P0 p.stocks.length P1) (.slice P2 p.lines.length P3) p ∧ Below w.heap.size w w2) := ⟨H1.out.1.below hb2, H1.out.2.trans (hb2.mono H1.out.2.size)⟩
  clear hb2 H1 k0 k1 Q1
  obtain ⟨k0, k1⟩ := box2 H2.out.1.box
  obtain ⟨c, hc⟩ : ∃ c, c = bkB p := ⟨_, rfl⟩
  have HCk : Hid (c = bkB p) := hc
  have Q2 := fun W h => bookRight_spec p (.slice P0 p.stocks.length P1) (.slice P2 p.lines.length P3) W h
  rw [← hc] at Q2
  clear hc
  go_wp2_with fail
  refine (Q2 _ H2.out.1.row).mono ?_
  rintro e w3 ⟨rfl, hb3⟩
  have H3 : Hid (LB B1 w3 (.slice P0 p.stocks.length P1) (.slice P2 p.lines.length P3) p ∧ Below w.heap.size w w3) := ⟨H2.out.1.below hb3, H2.out.2.trans (hb3.mono H2.out.2.size)⟩
  clear hb3 H2 k0 k1 Q2
  cases c with
  | false =>
    obtain rfl : x = -1 := HX.out.trans (rateT_no (by omega) HCk.out.symm)
    go_wp2
    go_ret
    exact ⟨rfl, H3.out.2⟩
  | true =>
    have hR := (bkB_iff.1 HCk.out.symm).2
    have hl := hR.len
    have HK : Hid (∀ l ∈ p.lines, LnOk l) := hR.ok
    have HN : Hid (x = quoT (gotS t p.lines) (ordS t p.lines)) := HX.out.trans (rateT_yes (by omega) HCk.out.symm)
    clear hR
    obtain ⟨rs, hrs⟩ : ∃ rs, rs = p.lines := ⟨_, rfl⟩
    rw [← hrs] at hl hlen
    have HQ : Hid (rs = p.lines) := hrs
    have HRow : Hid (RowOl w3 (.slice P2 rs.length P3) rs) := by rw [hrs]; exact H3.out.1.row.ln
    obtain ⟨k0, k1⟩ := box2 H3.out.1.box
    rw [← hrs] at k1
    clear hrs k0
    go_wp2_with fail
    go_loopw [6, 7, 8] (fun y z ix wr => ∃ (k : Nat) (g o : Int), ix = .int .i64 (k : Int) ∧ y = .int .i64 o ∧ z = .int .i64 g ∧ k ≤ rs.length ∧ 0 ≤ g ∧ g ≤ o ∧ o ≤ 1000000 * (k : Int) ∧ (g = sumL OLn.got (prK t rs k) ∧ o = sumL OLn.ordered (prK t rs k)) ∧ wr = w3) (fun _ _ ix _ => rs.length - (intOf ix).toNat)
    case atStart => exact ⟨0, 0, 0, rfl, rfl, rfl, by omega, by omega, by omega, by omega, ⟨by simp [prK, sumL], by simp [prK, sumL]⟩, rfl⟩
    case round =>
      obtain ⟨k, g, o, rfl, rfl, rfl, hk, hg0, hg1, ho1, hse, rfl⟩ := hrel
      have HE : Hid (g = sumL OLn.got (prK t rs k) ∧ o = sumL OLn.ordered (prK t rs k)) := hse
      clear hse
      by_cases hlt : k < rs.length
      · have hlt' : (k : Int) < (rs.length : Int) := by omega
        obtain ⟨b, of, cap', l, e, hs, hat, hz⟩ := HRow.out.at hlt
        simp only [Value.slice.injEq, true_and] at e
        obtain ⟨rfl, rfl⟩ := e
        have HS : Hid (rs[k]? = some l) := hs
        have hok := HK.out l (by rw [← HQ.out]; exact List.mem_of_getElem? hs)
        have m0 := hok.g0
        have m1 : l.got ≤ l.ordered := by have := hok.gs; have := hok.so; omega
        have m3 := hok.o2
        obtain ⟨q0, q1, q2, q3, q4, q5, q6, q7⟩ := hat
        clear hs hz hok
        cases e1 : (l.partner.toList == t.toList) with
        | false =>
          have HZ : Hid (prK t rs (k + 1) = prK t rs k) := prK_no HS.out e1
          go_wp2
          go_roundw
          case rel => exact ⟨k + 1, g, o, by go_num, rfl, rfl, by omega, by omega, by omega, by omega, by rw [HZ.out]; exact HE.out, trivial⟩
          case measure => simp [intOf]; omega
        | true =>
          have HZ : Hid (prK t rs (k + 1) = prK t rs k ++ [l]) := prK_yes HS.out e1
          go_wp2
          go_roundw
          case rel => exact ⟨k + 1, g + l.got, o + l.ordered, by go_num, by go_num, by go_num, by omega, by omega, by omega, by omega, by rw [HZ.out, sumL_one, sumL_one, ← HE.out.1, ← HE.out.2]; exact ⟨rfl, rfl⟩, trivial⟩
          case measure => simp [intOf]; omega
      · obtain rfl : k = rs.length := by omega
        have HT : Hid (x = quoT g o) := by
          show _ = _
          rw [HN.out, HE.out.1, HE.out.2, prK_all, HQ.out]
          rfl
        by_cases hz : o = 0
        · subst hz
          obtain rfl : x = -1 := HT.out.trans (quoT_no g)
          go_wp2
          go_ret
          exact ⟨rfl, H3.out.2⟩
        · have ho2 : 0 < o := by omega
          have hz' : (o == 0) = false := by simp [hz]
          have hI := rate_is hg0 ho2 hg1
          rw [← quoT_yes hz, ← HT.out] at hI
          obtain ⟨i0, i1, ie, j0, j1, j2, j3⟩ := hI
          have hw1 : IntKind.i64.wrap (x * o) = x * o := by rw [IntKind.wrap_i64]; omega
          have hw2 : IntKind.i64.wrap ((x + 1) * o) = (x + 1) * o := by rw [IntKind.wrap_i64]; omega
          cases e1 : (x == 100) with
          | true =>
            rw [e1] at ie
            have ie' := ie.symm
            clear ie
            go_wp2
            go_ret
            exact ⟨rfl, H3.out.2⟩
          | false =>
            rw [e1] at ie
            have ie' := ie.symm
            clear ie
            go_wp2
            go_ret
            exact ⟨rfl, H3.out.2⟩
theorem own : ownKnob Try.prog.godebug = none := by kernel_rfl
theorem laidOut : laidOutB Try.prog = true := by kernel_rfl
set_option maxRecDepth 100000 in
theorem lifted (os : Os) (started : os.Started) (H : Type) (enc : TypeId × Value → H) :
    ReturnsInHanded {} Try.checked os 3 .any (Rows.fnRateSpec.pre6 enc Try.prog Try.f3 Rows.fnRateRow.domain false) (Rows.fnRateSpec.post enc Try.prog Try.f3 false true false false) := by
  refine returnsInHanded_of_change (C := Try.checked) own started (by kernel_rfl) Try.func3
    (ChangeSpec.witness6 (enc := enc) (C := Try.checked) false ⟨#[], #[.slice none 0 0], []⟩ 8 (by kernel_rfl) (by kernel_rfl) (by kernel_rfl) (by kernel_rfl)) ?_
  intro W base args ds gs before hval0 hW hcnd _
  have hval : ∀ (j : Nat) t v, Try.f3.params[j]? = some t → args[j]? = some v → Value.okWide Try.prog W .any base t v := hval0
  have hW' := hW
  obtain ⟨p, q, hA0, hV, rfl, hfz, hnd⟩ := hW
  have hA : DataW.TrodAll enc Try.prog W 0 (fun _ => true) true Try.f3.params.toList args.toList ds p := hA0
  rw [Try.params3] at hA hval
  obtain ⟨v0, vs0, d0, ds0, p0, q0, hargs, rfl, rfl, h0, r0⟩ := trodAll_cons hA
  obtain ⟨rfl, rfl, rfl⟩ := trodAll_nil r0
  obtain rfl : args = #[v0] := by cases args; simp_all
  obtain ⟨rfl, rfl⟩ := trodVars_none hV
  obtain ⟨a0, len0, cap0, rfl⟩ := okWide_slice Try.underlying22 (hval 0 22 v0 rfl rfl)
  have k0 := h0
  have lt0 : ∀ x ∈ p0, x.block < W.heap.size := by obtain ⟨m, hm⟩ := k0; exact DataW.trod_lt m _ _ _ hm
  obtain ⟨z0, w0⟩ : ∃ zs, IsRow .u8 W a0 len0 cap0 zs := by
    obtain ⟨fuel, hf⟩ := h0
    rcases open_ints Try.underlying22 Try.underlying5 (by kernel_rfl) hf with ⟨hcs, _⟩ | ⟨x, l, c, zs, hcs, _, hl, hm, hz, _, hcell, hwz⟩
    · simp [Value.cells] at hcs
      obtain ⟨rfl, rfl, rfl⟩ := hcs
      exact ⟨[], .inl ⟨rfl, rfl, rfl, rfl⟩⟩
    · simp [Value.cells] at hcs
      obtain ⟨rfl, rfl, rfl⟩ := hcs
      exact ⟨zs, .inr ⟨_, rfl, hl, hm, by simpa using hz, hcell, hwz⟩⟩
  clear hA0 hval0
  refine (walk a0 len0 cap0 z0 W w0).mono fun e W' ⟨he, bel⟩ => ?_
  subst he
  exact ⟨_, rfl, _, _, _, [], _, [], hW', trodAll_mk1 (shut_bool Try.underlying4 _), (trodAll_cons_mk (Below.trod laidOut (by kernel_rfl) (of_decide_eq_true (by kernel_rfl)) k0 bel lt0) trodAll_mk0), rfl, bel.frame _, fun h => by cases h⟩
theorem over : Rows.fnRateRow.holds Try.pinned (OpenSpec.ofChange Rows.fnRateSpec) :=
  OpenClaim.holds_of_wide 3 Try.f3 rfl rfl rfl rfl rfl rfl rfl ⟨rfl, rfl, rfl, rfl, rfl⟩ rfl rfl rfl rfl rfl (by kernel_rfl) Try.func3 (by kernel_rfl)
    (of_decide_eq_true (by kernel_rfl)) (by unfold Func.isWrapper; first | (rw [if_pos (by decide +kernel)]; kernel_rfl) | (rw [if_neg (by decide +kernel)]; exact ⟨rfl, rfl⟩))
    (fun os started H enc _ => lifted os started H enc)
end fnRate
theorem fnRate_holds : Rows.FnRateSaid := fnRate.over
#print axioms fnRate_holds
end Go.Proofs.Ytiaclnldeimbhaa
