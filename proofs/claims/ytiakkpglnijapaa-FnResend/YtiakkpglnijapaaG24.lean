/- Texts of ours put together: OuPs. -/
import Derived.Test.YtiakkpglnijapaaG22
import Derived.Test.YtiakkpglnijapaaG23
import Derived.Test.YtiakkpglnijapaaG06
import Derived.Test.YtiakkpglnijapaaG14
import Derived.Deep.Cut
import Derived.Deep.CutRange
namespace Go.Proofs.Ytiakkpglnijapaa
open Go.ChangeShapes Go.WideShapes Go.ChangeAt Go.RowKit
open Go.Sort
theorem at_newOu (W : World) (c : OutR) : AtOu (W.alloc (.cells #[.string c.partner, .int .i64 c.number, .string c.text, .int .i64 c.tries, .int .i64 c.due] 25)) W.heap.size 0 c := by
  obtain ⟨a0, a1, a2, a3, a4⟩ := box5 (World.alloc_heap_new W (.cells #[.string c.partner, .int .i64 c.number, .string c.text, .int .i64 c.tries, .int .i64 c.due] 25))
  exact ⟨a0, a1, a2, a3, a4⟩
theorem owns_grw {B : Nat} {W W' : World} {v : Value} {L : List OutR} (h : W.ownsRow B 25 5 (v) L.length (clOus L)) (hb : Below W.heap.size W W') : W'.ownsRow B 25 5 (v) L.length (clOus L) := by
  refine h.kept (row := none) ⟨hb.os, hb.tape, hb.output, hb.size, fun j hj _ => hb.block j hj⟩ ?_
  rcases h.2 with ⟨e, _⟩ | ⟨g, cap, cur, e, _⟩
  · exact .inl (by rw [e]; rfl)
  · exact .inr (by rw [e]; simp [Value.ownBlock])
theorem any_app (l c : OutR) (ts : List OutR) : (ts ++ [c]).any (fun x => befO l x) = (ts.any (fun x => befO l x) || befO l c) := by simp
theorem pt_no {d b : Bool} (h : false = (!d && b)) : d = (d || b) := by revert h; cases d <;> cases b <;> decide
theorem pt_yes {d b : Bool} (h : true = (!d && b)) : d = false ∧ b = true := by revert h; cases d <;> cases b <;> decide
theorem ba_yes {a b : ByteArray} (h : (a.toList == b.toList) = true) : a = b := ba_listU (by simpa using h)
theorem ba_no {a b : ByteArray} (h : (a.toList == b.toList) = false) : a ≠ b := fun e => by
  rw [e] at h
  simp at h
set_option maxRecDepth 20000 in
set_option maxHeartbeats 16000000 in
theorem outboxPut_specO (v : Value) (rs : List OutR) (l : OutR) (w : World) (h : RowOu w v rs) (hzl : l.partner.size ≤ 9223372036854775807 ∧ l.text.size ≤ 9223372036854775807) :
    Calls Try.prog 6 #[v, .agg #[.string l.partner, .int .i64 l.number, .string l.text, .int .i64 l.tries, .int .i64 l.due]] w fun e w' => ∃ u b, e = .returned (.agg #[u, .slice none 0 0, .slice none 0 0, .int .i64 (putO rs l).code]) ∧ w.heap.size ≤ b ∧ LOu b w' u (putO rs l).list ∧ Below w.heap.size w w' := by
  have hlen := h.len
  obtain ⟨A, Cp, rfl⟩ := h.val
  have HZ : Hid (∀ x, x = l ∨ x ∈ rs → x.partner.size ≤ 9223372036854775807 ∧ x.text.size ≤ 9223372036854775807) := fun x hx => by
    rcases hx with rfl | hx
    · exact hzl
    · obtain ⟨i, hi⟩ := List.getElem?_of_mem hx
      exact h.sizes i x hi
  have mixed : Try.prog.follows .mixedOrders = true := by kernel_rfl
  obtain ⟨W0, hW0⟩ : ∃ W0, (w.alloc (.cells #[.string l.partner, .int .i64 l.number, .string l.text, .int .i64 l.tries, .int .i64 l.due] 25)).alloc (.cells #[.slice none 0 0, .slice none 0 0, .slice none 0 0, .int .i64 0] 30) = W0 := ⟨_, rfl⟩
  have hb0 : Below w.heap.size w W0 := by rw [← hW0]; exact ((Below.refl _ _).alloc (Nat.le_refl _) _).alloc (by simp) _
  obtain ⟨k0, k1⟩ := fl_twoU w (.cells #[.string l.partner, .int .i64 l.number, .string l.text, .int .i64 l.tries, .int .i64 l.due] 25) (.cells #[.slice none 0 0, .slice none 0 0, .slice none 0 0, .int .i64 0] 30)
  rw [hW0] at k0 k1
  obtain ⟨B, hB⟩ : ∃ B, B = w.heap.size := ⟨_, rfl⟩
  obtain ⟨R, hR⟩ : ∃ R, R = w.heap.size + 1 := ⟨_, rfl⟩
  rw [← hB] at k0
  rw [← hR] at k1
  have hge : w.heap.size ≤ R := by omega
  have HK : Hid (∀ W, Below W0.heap.size W0 W → W.heap[B]? = some (.cells #[.string l.partner, .int .i64 l.number, .string l.text, .int .i64 l.tries, .int .i64 l.due] 25) ∧ W.heap[R]? = some (.cells #[.slice none 0 0, .slice none 0 0, .slice none 0 0, .int .i64 0] 30)) := fun W hW => ⟨(hW.block _ (Array.getElem?_eq_some_iff.1 k0).1).trans k0, (hW.block _ (Array.getElem?_eq_some_iff.1 k1).1).trans k1⟩
  have HB : Hid (Below w.heap.size w W0) := hb0
  have HRW : Hid (∀ W, Below W0.heap.size W0 W → RowOu W (.slice A rs.length Cp) rs) := fun W hW => (h.below hb0).below hW
  have HW : Hid ((w.alloc (.cells #[.string l.partner, .int .i64 l.number, .string l.text, .int .i64 l.tries, .int .i64 l.due] 25)).alloc (.cells #[.slice none 0 0, .slice none 0 0, .slice none 0 0, .int .i64 0] 30) = W0 ∧ B = w.heap.size ∧ R = w.heap.size + 1) := ⟨hW0, hB, hR⟩
  clear hW0 hb0 k0 k1 hB hR h
  go_enter Try.func6, Try.ntmps6
  go_upto_region 1 with fail
  try rw [HW.out.1]
  try rw [← HW.out.2.2]
  try rw [← HW.out.2.1]
  clear HW
  by_cases h4 : 400 < rs.length
  · have h4' : (400 : Int) < (rs.length : Int) := by omega
    go_wp2_with fail
    refine (wrong_any 2 _).mono ?_
    rintro e we ⟨rfl, hbe⟩
    have bE : Below W0.heap.size W0 we := (Below.refl W0.heap.size W0).trans (hbe.mono (Below.refl W0.heap.size W0).size)
    clear hbe
    have hRe := (HK.out we (bE)).2
    obtain ⟨r0, r1, r2, r3⟩ := bx4 hRe
    have hfR : ∀ o, we.frozen? ⟨R, o, none⟩ = false := fun o => by simp [World.frozen?, hRe]
    have HEE : Hid (Below w.heap.size w we ∧ we.heap[R]? = some (.cells #[.slice none 0 0, .slice none 0 0, .slice none 0 0, .int .i64 0] 30)) := ⟨HB.out.trans ((bE).mono HB.out.size), hRe⟩
    clear hRe
    go_wp2
    obtain ⟨f0, f1, f2, f3⟩ := bx4 (st4 (y0 := .slice none 0 0) (y1 := .slice none 0 0) (y2 := .slice none 0 0) (y3 := .int .i64 2) HEE.out.2)
    have HFB : Hid (Below w.heap.size w ((((we.setCell ⟨R, 0, none⟩ (.slice none 0 0)).setCell ⟨R, 1, none⟩ (.slice none 0 0)).setCell ⟨R, 2, none⟩ (.slice none 0 0)).setCell ⟨R, 3, none⟩ (.int .i64 2))) := (((HEE.out.1.setCell hge _).setCell hge _).setCell hge _).setCell hge _
    refine bodyPost_ret (v := .agg #[.slice none 0 0, .slice none 0 0, .slice none 0 0, .int .i64 2]) (by simp [results, Try.results6, go_sem, f0, f1, f2, f3]) rfl ?_
    rw [putO_big h4]
    exact ⟨_, w.heap.size, rfl, Nat.le_refl _, LOu.nil _ _, HFB.out⟩
  have h4' : ¬ (400 : Int) < (rs.length : Int) := by omega
  go_wp2_with fail
  refine (outboxRight_spec _ rs _ (HRW.out _ (Below.refl _ _))).mono ?_
  rintro e w1 ⟨rfl, hb1⟩
  have H1 : Hid (Below W0.heap.size W0 w1) := hb1
  clear hb1
  cases hrb : ousB rs
  · have HE : Hid (putO rs l = errO 1) := putO_form h4 fun ⟨h, _⟩ => ousB_iff'.1 hrb h
    clear hrb
    go_wp2_with fail
    refine (wrong_any 1 _).mono ?_
    rintro e we ⟨rfl, hbe⟩
    have bE : Below W0.heap.size W0 we := (H1.out).trans (hbe.mono (H1.out).size)
    clear hbe
    have hRe := (HK.out we (bE)).2
    obtain ⟨r0, r1, r2, r3⟩ := bx4 hRe
    have hfR : ∀ o, we.frozen? ⟨R, o, none⟩ = false := fun o => by simp [World.frozen?, hRe]
    have HEE : Hid (Below w.heap.size w we ∧ we.heap[R]? = some (.cells #[.slice none 0 0, .slice none 0 0, .slice none 0 0, .int .i64 0] 30)) := ⟨HB.out.trans ((bE).mono HB.out.size), hRe⟩
    clear hRe
    go_wp2
    obtain ⟨f0, f1, f2, f3⟩ := bx4 (st4 (y0 := .slice none 0 0) (y1 := .slice none 0 0) (y2 := .slice none 0 0) (y3 := .int .i64 1) HEE.out.2)
    have HFB : Hid (Below w.heap.size w ((((we.setCell ⟨R, 0, none⟩ (.slice none 0 0)).setCell ⟨R, 1, none⟩ (.slice none 0 0)).setCell ⟨R, 2, none⟩ (.slice none 0 0)).setCell ⟨R, 3, none⟩ (.int .i64 1))) := (((HEE.out.1.setCell hge _).setCell hge _).setCell hge _).setCell hge _
    refine bodyPost_ret (v := .agg #[.slice none 0 0, .slice none 0 0, .slice none 0 0, .int .i64 1]) (by simp [results, Try.results6, go_sem, f0, f1, f2, f3]) rfl ?_
    rw [HE.out]
    exact ⟨_, w.heap.size, rfl, Nat.le_refl _, LOu.nil _ _, HFB.out⟩
  have HRL : Hid (RightO rs) := ousB_iff.1 hrb
  clear hrb
  obtain ⟨ok, hok⟩ : ∃ ok, ok = ouB l := ⟨_, rfl⟩
  have Q2 := fun w => l12Out_grows l w hzl.2
  rw [← hok] at Q2
  have HOK : Hid (ok = ouB l) := hok
  clear hok hzl
  obtain ⟨c0, c1, c2, c3, c4⟩ := box5 (HK.out w1 H1.out).1
  go_wp2_with fail
  refine (Q2 _).mono ?_
  rintro e w2 ⟨rfl, hg2⟩
  have H2 : Hid (Below W0.heap.size W0 w2) := H1.out.trans (hg2.below.mono H1.out.size)
  clear hg2 c0 c1 c2 c3 c4 Q2
  cases ok with
  | false =>
    have HE : Hid (putO rs l = errO 1) := putO_form h4 fun ⟨_, h⟩ => ouB_iff'.1 HOK.out.symm h
    go_wp2_with fail
    refine (wrong_any 1 _).mono ?_
    rintro e we ⟨rfl, hbe⟩
    have bE : Below W0.heap.size W0 we := (H2.out).trans (hbe.mono (H2.out).size)
    clear hbe
    have hRe := (HK.out we (bE)).2
    obtain ⟨r0, r1, r2, r3⟩ := bx4 hRe
    have hfR : ∀ o, we.frozen? ⟨R, o, none⟩ = false := fun o => by simp [World.frozen?, hRe]
    have HEE : Hid (Below w.heap.size w we ∧ we.heap[R]? = some (.cells #[.slice none 0 0, .slice none 0 0, .slice none 0 0, .int .i64 0] 30)) := ⟨HB.out.trans ((bE).mono HB.out.size), hRe⟩
    clear hRe
    go_wp2
    obtain ⟨f0, f1, f2, f3⟩ := bx4 (st4 (y0 := .slice none 0 0) (y1 := .slice none 0 0) (y2 := .slice none 0 0) (y3 := .int .i64 1) HEE.out.2)
    have HFB : Hid (Below w.heap.size w ((((we.setCell ⟨R, 0, none⟩ (.slice none 0 0)).setCell ⟨R, 1, none⟩ (.slice none 0 0)).setCell ⟨R, 2, none⟩ (.slice none 0 0)).setCell ⟨R, 3, none⟩ (.int .i64 1))) := (((HEE.out.1.setCell hge _).setCell hge _).setCell hge _).setCell hge _
    refine bodyPost_ret (v := .agg #[.slice none 0 0, .slice none 0 0, .slice none 0 0, .int .i64 1]) (by simp [results, Try.results6, go_sem, f0, f1, f2, f3]) rfl ?_
    rw [HE.out]
    exact ⟨_, w.heap.size, rfl, Nat.le_refl _, LOu.nil _ _, HFB.out⟩
  | true =>
  have HOL : Hid (OuOk l) := ouB_iff.1 HOK.out.symm
  obtain ⟨w3, hw3⟩ : ∃ w3, w3 = w2 := ⟨_, rfl⟩
  rw [← hw3] at H2 ⊢
  clear hw3
  have hb3 : Below w3.heap.size w3 (w3.alloc (.cells #[] 25)) := (Below.refl _ _).alloc (Nat.le_refl _) _
  have hown0 : (w3.alloc (.cells #[] 25)).ownsRow w3.heap.size 25 5 (.slice (some ⟨w3.heap.size, 0, none⟩) ([] : List OutR).length 0) ([] : List OutR).length (clOus ([] : List OutR)) := own0Ou w3 (Nat.le_refl _)
  have HO : Hid _ := And.intro hb3 hown0
  have H3 : Hid (∀ W, Below w3.heap.size w3 W → Below W0.heap.size W0 W) := fun W hW => H2.out.trans (hW.mono H2.out.size)
  clear hb3 hown0
  go_wp2_with fail
  go_loopw [5, 6, 7] (fun lv dv i wr => ∃ (k : Nat) (A : Option Addr) (C : Nat) (ts oL : List OutR) (dn : Bool), i = .int .i64 (k : Int) ∧ k ≤ rs.length ∧ ts = rs.take k ∧ dn = ts.any (fun x => befO l x) ∧ oL = (if dn then mIns l ts else ts) ∧ (∀ x ∈ ts, keyO x ≠ keyO l) ∧ lv = .slice A oL.length C ∧ dv = .bool dn ∧ wr.ownsRow w3.heap.size 25 5 (.slice A oL.length C) oL.length (clOus oL) ∧ Below w3.heap.size w3 wr) (fun _ _ i _ => rs.length - (RowKit.intOf i).toNat)
  case atStart => exact ⟨0, _, 0, [], [], false, rfl, by omega, by simp, rfl, rfl, fun x hx => by simp at hx, rfl, rfl, HO.out.2, HO.out.1⟩
  case round =>
    obtain ⟨k, A0, C0, ts, oL, dn, rfl, hk, hts, hdn, hoL, hno, rfl, rfl, hR, hb⟩ := hrel
    have hol : oL.length ≤ 402 := by
      have htl : ts.length ≤ 400 := by rw [hts, List.length_take]; omega
      rw [hoL]
      cases dn with
      | true => have := (mIns_perm l ts).length_eq; simp at this ⊢; omega
      | false => simp; omega
    have HI : Hid (ts = rs.take k ∧ dn = ts.any (fun x => befO l x) ∧ oL = (if dn then mIns l ts else ts) ∧ wr.ownsRow w3.heap.size 25 5 (.slice A0 oL.length C0) oL.length (clOus oL) ∧ Below w3.heap.size w3 wr ∧ ∀ x ∈ ts, keyO x ≠ keyO l) := ⟨hts, hdn, hoL, hR, hb, hno⟩
    clear hts hdn hoL hR hb hno
    by_cases hlt : k < rs.length
    · have hlt' : (k : Int) < (rs.length : Int) := by omega
      obtain ⟨b, o, cap', c, e, hs, hat, _⟩ := (HRW.out _ H2.out).at hlt
      simp only [Value.slice.injEq, true_and] at e
      obtain ⟨rfl, rfl⟩ := e
      have HAT : Hid (∀ W, Below w3.heap.size w3 W → AtOu W b (o + k * 5) c) := fun W hW => hat.below hW
      have e3 : rs.take (k + 1) = rs.take k ++ [c] := by
        rw [List.take_add_one, hs]
        rfl
      have HE3 : Hid (rs.take (k + 1) = ts ++ [c] ∧ rs[k]? = some c) := ⟨by rw [HI.out.1]; exact e3, hs⟩
      clear hs e3 hat
      obtain ⟨q0, q1, q2, q3, q4⟩ := HAT.out wr HI.out.2.2.2.2.1
      obtain ⟨c0, c1, c2, c3, c4⟩ := box5 (HK.out wr (H3.out wr HI.out.2.2.2.2.1)).1
      have l0 := cell_lt q0
      have lB := cell_lt c0
      have f0 := cell_grown l0 q0
      have f1 := cell_grown l0 q1
      have f2 := cell_grown l0 q2
      have f3 := cell_grown l0 q3
      have f4 := cell_grown l0 q4
      have d0 := cell_grown lB c0
      have d1 := cell_grown lB c1
      have d2 := cell_grown lB c2
      have d3 := cell_grown lB c3
      have d4 := cell_grown lB c4
      clear q0 q1 q2 q3 q4 c0 c1 c2 c3 c4
      obtain ⟨sm, hsm⟩ : ∃ sm, sm = decide (keyO c = keyO l) := ⟨_, rfl⟩
      have HSM : Hid (sm = decide (keyO c = keyO l)) := hsm
      clear hsm
      go_upto_region 10 with fail
      go_cut [45] from 28 to 44 (fun s wx => s = .bool sm ∧ Below wr.heap.size wr wx)
      case first =>
        cases e1 : (c.partner.toList == l.partner.toList)
        · have hE : sm = false := by rw [HSM.out]; exact decide_eq_false fun e => ba_no e1 (congrArg Prod.fst e)
          subst hE
          refine wp_region_quiet_grown mixed (by kernel_rfl) ?_
          repeat (go_big_quiet_step (fail))
          refine wpQuiet_nil ?_
          intro _ hw'
          obtain ⟨⟨nq, osq⟩, hw''⟩ := hw'
          subst hw''
          go_wp2_with fail
          go_meet
          exact ⟨rfl, GrwU.below ⟨nq, osq, rfl⟩⟩
        · by_cases e2 : c.number = l.number
          · have hE : sm = true := by rw [HSM.out]; exact decide_eq_true (by simp [keyO, ba_yes e1, e2])
            subst hE
            have e2' : (c.number == l.number) = true := by simp [e2]
            have e2'' : decide (c.number = l.number) = true := by simp [e2]
            refine wp_region_quiet_grown mixed (by kernel_rfl) ?_
            repeat (go_big_quiet_step (fail))
            refine wpQuiet_nil ?_
            intro _ hw'
            obtain ⟨⟨nq, osq⟩, hw''⟩ := hw'
            subst hw''
            go_wp2_with fail
            go_meet
            exact ⟨by first | rfl | simp [e2'], GrwU.below ⟨nq, osq, rfl⟩⟩
          · have hE : sm = false := by rw [HSM.out]; exact decide_eq_false fun e => e2 (congrArg Prod.snd e)
            subst hE
            have e2' : (c.number == l.number) = false := by simp [e2]
            have e2'' : decide (c.number = l.number) = false := by simp [e2]
            refine wp_region_quiet_grown mixed (by kernel_rfl) ?_
            repeat (go_big_quiet_step (fail))
            refine wpQuiet_nil ?_
            intro _ hw'
            obtain ⟨⟨nq, osq⟩, hw''⟩ := hw'
            subst hw''
            go_wp2_with fail
            go_meet
            exact ⟨by first | rfl | simp [e2'], GrwU.below ⟨nq, osq, rfl⟩⟩
      case rest =>
      obtain ⟨rfl, hbx⟩ := hcut
      rename World => w4
      have H4 : Hid (w4.ownsRow w3.heap.size 25 5 (.slice A0 oL.length C0) oL.length (clOus oL) ∧ Below w3.heap.size w3 w4) := ⟨owns_grw HI.out.2.2.2.1 hbx, HI.out.2.2.2.2.1.trans (hbx.mono HI.out.2.2.2.2.1.size)⟩
      clear hbx f0 f1 f2 f3 f4 d0 d1 d2 d3 d4 l0 lB
      cases sm with
      | true =>
        have HE : Hid (putO rs l = errO 11) := putO_there HRL.out HOL.out ⟨c, List.mem_of_getElem? HE3.out.2, of_decide_eq_true HSM.out.symm⟩
        go_wp2_with fail
        refine (wrong_any 11 _).mono ?_
        rintro e we ⟨rfl, hbe⟩
        have bE : Below W0.heap.size W0 we := (H3.out _ H4.out.2).trans (hbe.mono (H3.out _ H4.out.2).size)
        clear hbe
        have hRe := (HK.out we (bE)).2
        obtain ⟨r0, r1, r2, r3⟩ := bx4 hRe
        have hfR : ∀ o, we.frozen? ⟨R, o, none⟩ = false := fun o => by simp [World.frozen?, hRe]
        have HEE : Hid (Below w.heap.size w we ∧ we.heap[R]? = some (.cells #[.slice none 0 0, .slice none 0 0, .slice none 0 0, .int .i64 0] 30)) := ⟨HB.out.trans ((bE).mono HB.out.size), hRe⟩
        clear hRe
        go_wp2
        obtain ⟨f0, f1, f2, f3⟩ := bx4 (st4 (y0 := .slice none 0 0) (y1 := .slice none 0 0) (y2 := .slice none 0 0) (y3 := .int .i64 11) HEE.out.2)
        have HFB : Hid (Below w.heap.size w ((((we.setCell ⟨R, 0, none⟩ (.slice none 0 0)).setCell ⟨R, 1, none⟩ (.slice none 0 0)).setCell ⟨R, 2, none⟩ (.slice none 0 0)).setCell ⟨R, 3, none⟩ (.int .i64 11))) := (((HEE.out.1.setCell hge _).setCell hge _).setCell hge _).setCell hge _
        refine bodyPost_ret (v := .agg #[.slice none 0 0, .slice none 0 0, .slice none 0 0, .int .i64 11]) (by simp [results, Try.results6, go_sem, f0, f1, f2, f3]) rfl ?_
        rw [HE.out]
        exact ⟨_, w.heap.size, rfl, Nat.le_refl _, LOu.nil _ _, HFB.out⟩
      | false =>
      have HNK : Hid (∀ x ∈ ts ++ [c], keyO x ≠ keyO l) := fun x hx => by
        rcases List.mem_append.1 hx with g | g
        · exact HI.out.2.2.2.2.2 x g
        · rw [List.mem_singleton.1 g]
          exact of_decide_eq_false HSM.out.symm
      have Q4 := before_growsU l c
      obtain ⟨bf, hbf⟩ : ∃ bf, bf = befO l c := ⟨_, rfl⟩
      rw [← hbf] at Q4
      have HBF : Hid (bf = befO l c) := hbf
      clear hbf
      obtain ⟨q0, q1, q2, q3, q4⟩ := HAT.out w4 H4.out.2
      obtain ⟨c0, c1, c2, c3, c4⟩ := box5 (HK.out w4 (H3.out w4 H4.out.2)).1
      have l0 := cell_lt q0
      have lB := cell_lt c0
      have f0 := cell_grown l0 q0
      have f1 := cell_grown l0 q1
      have f2 := cell_grown l0 q2
      have f3 := cell_grown l0 q3
      have f4 := cell_grown l0 q4
      have d0 := cell_grown lB c0
      have d1 := cell_grown lB c1
      have d2 := cell_grown lB c2
      have d3 := cell_grown lB c3
      have d4 := cell_grown lB c4
      clear q0 q1 q2 q3 q4 c0 c1 c2 c3 c4
      obtain ⟨pt, hpt⟩ : ∃ pt, pt = (!dn && bf) := ⟨_, rfl⟩
      have HPT : Hid (pt = (!dn && bf)) := hpt
      clear hpt
      go_upto_region 12 with fail
      go_cut [56] from 47 to 55 (fun s wx => s = .bool pt ∧ Below w4.heap.size w4 wx)
      case first =>
        cases dn with
        | true =>
          have hE : pt = false := HPT.out
          subst hE
          refine wp_region_quiet_grown mixed (by kernel_rfl) ?_
          repeat (go_big_quiet_step (first | (go_at_call 23; refine Calls.grown_of (Q4 _))))
          refine wpQuiet_nil ?_
          intro _ hw'
          obtain ⟨⟨nq, osq⟩, hw''⟩ := hw'
          subst hw''
          go_wp2_with fail
          go_meet
          exact ⟨rfl, GrwU.below ⟨nq, osq, rfl⟩⟩
        | false =>
          have hE : pt = bf := HPT.out
          subst hE
          refine wp_region_quiet_grown mixed (by kernel_rfl) ?_
          repeat (go_big_quiet_step (first | (go_at_call 23; refine Calls.grown_of (Q4 _))))
          refine wpQuiet_nil ?_
          intro _ hw'
          obtain ⟨⟨nq, osq⟩, hw''⟩ := hw'
          subst hw''
          go_wp2_with fail
          go_meet
          exact ⟨rfl, GrwU.below ⟨nq, osq, rfl⟩⟩
      case rest =>
      obtain ⟨rfl, hbx⟩ := hcut
      rename World => W5
      have H5 : Hid (W5.ownsRow w3.heap.size 25 5 (.slice A0 oL.length C0) oL.length (clOus oL) ∧ Below w3.heap.size w3 W5) := ⟨owns_grw H4.out.1 hbx, H4.out.2.trans (hbx.mono H4.out.2.size)⟩
      clear hbx f0 f1 f2 f3 f4 d0 d1 d2 d3 d4 l0 lB Q4
      cases pt with
      | false =>
        obtain ⟨q0, q1, q2, q3, q4⟩ := HAT.out W5 H5.out.2
        have hrow8 : (W5.alloc (.cells #[.string c.partner, .int .i64 c.number, .string c.text, .int .i64 c.tries, .int .i64 c.due] 25)).ownsRow w3.heap.size 25 5 (.slice A0 oL.length C0) oL.length (clOus oL) := (H5.out.1).alloc _
        have hat8 : AtOu (W5.alloc (.cells #[.string c.partner, .int .i64 c.number, .string c.text, .int .i64 c.tries, .int .i64 c.due] 25)) W5.heap.size 0 c := at_newOu _ _
        have hsz8 := (H5.out.2).size
        go_wp2_with (first | (at_builtin; refine wpList_appOu rfl _ _ rfl rfl rfl hrow8 hat8 (by omega) (by simp; omega) ?_; rintro v8 w8 hown8 hgrow8 ⟨A8, C8, rfl⟩))
        have H8 : Hid (w8.ownsRow w3.heap.size 25 5 (.slice A8 (oL ++ [c]).length C8) (oL ++ [c]).length (clOus (oL ++ [c])) ∧ Below w3.heap.size w3 w8) := ⟨hown8, ((H5.out.2).alloc hsz8 _).trans ⟨hgrow8.os, hgrow8.tape, hgrow8.output, hgrow8.size, fun q hq => hgrow8.block q (by simp; omega) (fun e => by have := (hrow8.lt q e.symm).1; omega)⟩⟩
        clear hown8 hgrow8 hrow8 hat8 hsz8
        go_wp2
        go_roundw
        case rel =>
          refine ⟨k + 1, A8, C8, ts ++ [c], oL ++ [c], dn, by go_num, by omega, HE3.out.1.symm, ?_, ?_, HNK.out, by simp, rfl, H8.out.1, H8.out.2⟩
          · rw [any_app, ← HI.out.2.1, ← HBF.out]
            exact pt_no HPT.out
          · have h2 := HI.out.2.2.1
            cases dn with
            | true => rw [h2, if_pos rfl, if_pos rfl, mIns_app_yes l c ts HI.out.2.1.symm]
            | false => rw [h2]; rfl
        case measure => simp [RowKit.intOf]; omega
      | true =>
        have hd : dn = false ∧ bf = true := pt_yes HPT.out
        have HD : Hid (dn = false ∧ bf = true) := hd
        clear hd
        have HOT : Hid (oL = ts) := by have h2 := HI.out.2.2.1; rw [HD.out.1] at h2; exact h2
        obtain ⟨c0, c1, c2, c3, c4⟩ := box5 (HK.out W5 (H3.out W5 H5.out.2)).1
        have hrow7 : (W5.alloc (.cells #[.string l.partner, .int .i64 l.number, .string l.text, .int .i64 l.tries, .int .i64 l.due] 25)).ownsRow w3.heap.size 25 5 (.slice A0 oL.length C0) oL.length (clOus oL) := (H5.out.1).alloc _
        have hat7 : AtOu (W5.alloc (.cells #[.string l.partner, .int .i64 l.number, .string l.text, .int .i64 l.tries, .int .i64 l.due] 25)) W5.heap.size 0 l := at_newOu _ _
        have hsz7 := (H5.out.2).size
        go_upto_region 14 with (first | (at_builtin; refine wpList_appOu rfl _ _ rfl rfl rfl hrow7 hat7 (by omega) (by simp; omega) ?_; rintro v7 w7 hown7 hgrow7 ⟨A7, C7, rfl⟩))
        have H7 : Hid (w7.ownsRow w3.heap.size 25 5 (.slice A7 (oL ++ [l]).length C7) (oL ++ [l]).length (clOus (oL ++ [l])) ∧ Below w3.heap.size w3 w7) := ⟨hown7, ((H5.out.2).alloc hsz7 _).trans ⟨hgrow7.os, hgrow7.tape, hgrow7.output, hgrow7.size, fun q hq => hgrow7.block q (by simp; omega) (fun e => by have := (hrow7.lt q e.symm).1; omega)⟩⟩
        clear hown7 hgrow7 hrow7 hat7 hsz7
        obtain ⟨pL, hpL⟩ : ∃ pL, pL = oL ++ [l] := ⟨_, rfl⟩
        have hml : pL.length ≤ 403 := by rw [hpL]; simp; omega
        have HPE : Hid ((oL ++ [l]).length = pL.length ∧ oL.length + 1 = pL.length ∧ pL = oL ++ [l]) := ⟨by rw [hpL], by rw [hpL]; simp, hpL⟩
        rw [← hpL] at H7
        clear hpL
        try rw [HPE.out.1]
        try rw [HPE.out.2.1]
        obtain ⟨q0, q1, q2, q3, q4⟩ := HAT.out w7 H7.out.2
        clear c0 c1 c2 c3 c4
        have hrow8 : (w7.alloc (.cells #[.string c.partner, .int .i64 c.number, .string c.text, .int .i64 c.tries, .int .i64 c.due] 25)).ownsRow w3.heap.size 25 5 (.slice A7 pL.length C7) pL.length (clOus pL) := (H7.out.1).alloc _
        have hat8 : AtOu (w7.alloc (.cells #[.string c.partner, .int .i64 c.number, .string c.text, .int .i64 c.tries, .int .i64 c.due] 25)) w7.heap.size 0 c := at_newOu _ _
        have hsz8 := (H7.out.2).size
        go_wp2_with (first | (at_builtin; refine wpList_appOu rfl _ _ rfl rfl rfl hrow8 hat8 (by omega) (by simp; omega) ?_; rintro v8 w8 hown8 hgrow8 ⟨A8, C8, rfl⟩))
        have H8 : Hid (w8.ownsRow w3.heap.size 25 5 (.slice A8 (pL ++ [c]).length C8) (pL ++ [c]).length (clOus (pL ++ [c])) ∧ Below w3.heap.size w3 w8) := ⟨hown8, ((H7.out.2).alloc hsz8 _).trans ⟨hgrow8.os, hgrow8.tape, hgrow8.output, hgrow8.size, fun q hq => hgrow8.block q (by simp; omega) (fun e => by have := (hrow8.lt q e.symm).1; omega)⟩⟩
        clear hown8 hgrow8 hrow8 hat8 hsz8
        go_wp2
        go_roundw
        case rel =>
          refine ⟨k + 1, A8, C8, ts ++ [c], pL ++ [c], true, by go_num, by omega, HE3.out.1.symm, ?_, ?_, HNK.out, by simp, rfl, H8.out.1, H8.out.2⟩
          · rw [any_app, ← HBF.out, HD.out.2, Bool.or_true]
          · rw [if_pos rfl, mIns_app_new l c (by rw [← HBF.out]; exact HD.out.2) ts (by rw [← HI.out.2.1]; exact HD.out.1), HPE.out.2.2, HOT.out]
            simp
        case measure => simp [RowKit.intOf]; omega
    · obtain rfl : k = rs.length := by omega
      obtain ⟨mL, hmL⟩ : ∃ mL, mL = mIns l rs := ⟨_, rfl⟩
      have hts : ts = rs := by rw [HI.out.1, List.take_length]
      have HNO : Hid (∀ x ∈ rs, keyO x ≠ keyO l) := by
        have h := HI.out.2.2.2.2.2
        rw [hts] at h
        exact h
      have hml : mL.length = rs.length + 1 := by
        have := (mIns_perm l rs).length_eq
        rw [hmL, this]
        simp
      have HML : Hid (mL = insT rs (plcO rs l) l ∧ mL.length = rs.length + 1) := ⟨by rw [hmL]; exact mIns_eq HRL.out.pair HNO.out, hml⟩
      have HOLd : Hid ((dn = true → oL = mL) ∧ (dn = false → oL ++ [l] = mL)) := by
        have h1 := HI.out.2.1
        have h2 := HI.out.2.2.1
        rw [hts] at h1 h2
        refine ⟨fun hd => ?_, fun hd => ?_⟩
        · rw [h2, hd, hmL]
          rfl
        · rw [h2, hd, hmL, mIns_app_no l rs (by rw [← h1]; exact hd)]
          rfl
      have hml' : mL.length ≤ 402 := by omega
      obtain ⟨c0, c1, c2, c3, c4⟩ := box5 (HK.out wr (H3.out wr HI.out.2.2.2.2.1)).1
      clear hmL hts hml
      go_upto_if 69 with fail
      go_cut [5] from 70 to 73 (fun s5 wx => ∃ A C, s5 = .slice A mL.length C ∧ wx.ownsRow w3.heap.size 25 5 (.slice A mL.length C) mL.length (clOus mL) ∧ Below w3.heap.size w3 wx)
      case first =>
        cases dn with
        | true =>
          have e := HOLd.out.1 (by first | exact rfl | exact trivial)
          subst e
          go_wp2_with fail
          go_meet
          exact ⟨_, _, rfl, HI.out.2.2.2.1, HI.out.2.2.2.2.1⟩
        | false =>
          have hrow8 : (wr.alloc (.cells #[.string l.partner, .int .i64 l.number, .string l.text, .int .i64 l.tries, .int .i64 l.due] 25)).ownsRow w3.heap.size 25 5 (.slice A0 oL.length C0) oL.length (clOus oL) := (HI.out.2.2.2.1).alloc _
          have hat8 : AtOu (wr.alloc (.cells #[.string l.partner, .int .i64 l.number, .string l.text, .int .i64 l.tries, .int .i64 l.due] 25)) wr.heap.size 0 l := at_newOu _ _
          have hsz8 := (HI.out.2.2.2.2.1).size
          go_wp2_with (first | (at_builtin; refine wpList_appOu rfl _ _ rfl rfl rfl hrow8 hat8 (by omega) (by simp; omega) ?_; rintro v8 w8 hown8 hgrow8 ⟨A8, C8, rfl⟩))
          have H8 : Hid (w8.ownsRow w3.heap.size 25 5 (.slice A8 (oL ++ [l]).length C8) (oL ++ [l]).length (clOus (oL ++ [l])) ∧ Below w3.heap.size w3 w8) := ⟨hown8, ((HI.out.2.2.2.2.1).alloc hsz8 _).trans ⟨hgrow8.os, hgrow8.tape, hgrow8.output, hgrow8.size, fun q hq => hgrow8.block q (by simp; omega) (fun e => by have := (hrow8.lt q e.symm).1; omega)⟩⟩
          clear hown8 hgrow8 hrow8 hat8 hsz8
          have H9 : Hid (w8.ownsRow w3.heap.size 25 5 (.slice A8 mL.length C8) mL.length (clOus mL) ∧ Below w3.heap.size w3 w8 ∧ oL.length + 1 = mL.length) := by
            have h8 := H8.out
            have e := HOLd.out.2 (by first | exact rfl | exact trivial)
            rw [e] at h8
            exact ⟨h8.1, h8.2, by rw [← e]; simp⟩
          go_wp2_with fail
          go_meet
          exact ⟨A8, C8, by first | rw [H9.out.2.2] | (rw [← H9.out.2.2]; simp) | rfl, H9.out.1, H9.out.2.1⟩
      case rest =>
        obtain ⟨A9, C9, rfl, hR9, hb9⟩ := hcut
        rename World => w9
        have hz9 : ∀ (i : Nat) (g : OutR), mL[i]? = some g → g.partner.size ≤ 9223372036854775807 ∧ g.text.size ≤ 9223372036854775807 := fun i g hi => HZ.out g (by
          have h1 := List.mem_of_getElem? hi
          rw [HML.out.1] at h1
          exact insT_mem h1)
        obtain ⟨b9, hb9', hL9⟩ := LOu.of_owns hR9 (by omega) hz9
        have hRl : R < w3.heap.size := (Array.getElem?_eq_some_iff.1 (HK.out w3 H2.out).2).1
        have H9 : Hid (Below w3.heap.size w3 w9 ∧ LOu b9 w9 (.slice A9 mL.length C9) mL ∧ b9 ≠ R ∧ w.heap.size ≤ b9) := ⟨hb9, hL9, by omega, Nat.le_trans HB.out.size (Nat.le_trans H2.out.size hb9')⟩
        clear hR9 hb9 hb9' hRl hz9 hL9 c0 c1 c2 c3 c4 HI
        by_cases hf : rs.length = 60
        · have hf' : (60 : Int) < (mL.length : Int) := by have := HML.out.2; omega
          have HE : Hid (putO rs l = errO 12) := putO_full HRL.out HOL.out HNO.out hf
          go_wp2_with fail
          refine (wrong_any 12 _).mono ?_
          rintro e we ⟨rfl, hbe⟩
          have bE : Below W0.heap.size W0 we := (H3.out _ H9.out.1).trans (hbe.mono (H3.out _ H9.out.1).size)
          clear hbe
          have hRe := (HK.out we (bE)).2
          obtain ⟨r0, r1, r2, r3⟩ := bx4 hRe
          have hfR : ∀ o, we.frozen? ⟨R, o, none⟩ = false := fun o => by simp [World.frozen?, hRe]
          have HEE : Hid (Below w.heap.size w we ∧ we.heap[R]? = some (.cells #[.slice none 0 0, .slice none 0 0, .slice none 0 0, .int .i64 0] 30)) := ⟨HB.out.trans ((bE).mono HB.out.size), hRe⟩
          clear hRe
          go_wp2
          obtain ⟨f0, f1, f2, f3⟩ := bx4 (st4 (y0 := .slice none 0 0) (y1 := .slice none 0 0) (y2 := .slice none 0 0) (y3 := .int .i64 12) HEE.out.2)
          have HFB : Hid (Below w.heap.size w ((((we.setCell ⟨R, 0, none⟩ (.slice none 0 0)).setCell ⟨R, 1, none⟩ (.slice none 0 0)).setCell ⟨R, 2, none⟩ (.slice none 0 0)).setCell ⟨R, 3, none⟩ (.int .i64 12))) := (((HEE.out.1.setCell hge _).setCell hge _).setCell hge _).setCell hge _
          refine bodyPost_ret (v := .agg #[.slice none 0 0, .slice none 0 0, .slice none 0 0, .int .i64 12]) (by simp [results, Try.results6, go_sem, f0, f1, f2, f3]) rfl ?_
          rw [HE.out]
          exact ⟨_, w.heap.size, rfl, Nat.le_refl _, LOu.nil _ _, HFB.out⟩
        · have hf' : ¬ (60 : Int) < (mL.length : Int) := by have := HML.out.2; have := HRL.out.len; omega
          have HE : Hid (putO rs l = ⟨mL, [], [], 0⟩) := by
            have h := putO_yes HRL.out HOL.out HNO.out hf
            rw [← HML.out.1] at h
            exact h
          have bE := H3.out _ H9.out.1
          have hRe := (HK.out w9 (bE)).2
          obtain ⟨r0, r1, r2, r3⟩ := bx4 hRe
          have hfR : ∀ o, w9.frozen? ⟨R, o, none⟩ = false := fun o => by simp [World.frozen?, hRe]
          have HEE : Hid (Below w.heap.size w w9 ∧ w9.heap[R]? = some (.cells #[.slice none 0 0, .slice none 0 0, .slice none 0 0, .int .i64 0] 30)) := ⟨HB.out.trans ((bE).mono HB.out.size), hRe⟩
          clear hRe
          go_wp2
          obtain ⟨f0, f1, f2, f3⟩ := bx4 (st4 (y0 := .slice A9 mL.length C9) (y1 := .slice none 0 0) (y2 := .slice none 0 0) (y3 := .int .i64 0) HEE.out.2)
          have HFB : Hid (Below w.heap.size w ((((w9.setCell ⟨R, 0, none⟩ (.slice A9 mL.length C9)).setCell ⟨R, 1, none⟩ (.slice none 0 0)).setCell ⟨R, 2, none⟩ (.slice none 0 0)).setCell ⟨R, 3, none⟩ (.int .i64 0))) := (((HEE.out.1.setCell hge _).setCell hge _).setCell hge _).setCell hge _
          refine bodyPost_ret (v := .agg #[.slice A9 mL.length C9, .slice none 0 0, .slice none 0 0, .int .i64 0]) (by simp [results, Try.results6, go_sem, f0, f1, f2, f3]) rfl ?_
          rw [HE.out]
          first | exact ⟨_, b9, rfl, H9.out.2.2.2, (((H9.out.2.1.setR H9.out.2.2.1 0 _).setR H9.out.2.2.1 1 _).setR H9.out.2.2.1 2 _).setR H9.out.2.2.1 3 _, HFB.out⟩ | exact ⟨_, rfl, b9, H9.out.2.2.2, (((H9.out.2.1.setR H9.out.2.2.1 0 _).setR H9.out.2.2.1 1 _).setR H9.out.2.2.1 2 _).setR H9.out.2.2.1 3 _, HFB.out⟩
theorem outboxPut_spec (v : Value) (rs : List OutR) (l : OutR) (w : World) (h : RowOu w v rs) (hzl : l.partner.size ≤ 9223372036854775807 ∧ l.text.size ≤ 9223372036854775807) :
    Calls Try.prog 6 #[v, .agg #[.string l.partner, .int .i64 l.number, .string l.text, .int .i64 l.tries, .int .i64 l.due]] w fun e w' => ∃ u, e = .returned (.agg #[u, .slice none 0 0, .slice none 0 0, .int .i64 (putO rs l).code]) ∧ RowOu w' u (putO rs l).list ∧ Below w.heap.size w w' :=
  (outboxPut_specO v rs l w h hzl).mono fun _ _ ⟨u, _, e, _, hL, hb⟩ => ⟨u, e, hL.row, hb⟩
end Go.Proofs.Ytiakkpglnijapaa
