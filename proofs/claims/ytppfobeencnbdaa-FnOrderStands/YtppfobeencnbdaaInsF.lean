/- Contract of the model's LinesAdd. -/
import Derived.Test.YtppfobeencnbdaaInsP
import Derived.Test.YtppfobeencnbdaaAppZOl
import Derived.Test.YtppfobeencnbdaaLnB
import Derived.Deep.Cut
import Derived.Deep.CutRange
namespace Go.Proofs.Ytppfobeencnbdaa
open Go.ChangeShapes Go.WideShapes Go.ChangeAt Go.RowKit
open Go.Sort
theorem at_newOl (W : World) (c : OLn) : AtOl (W.alloc (.cells #[.string c.partner, .string c.ref, .int .i64 c.no, .string c.item, .int .i64 c.ordered, .int .i64 c.sent, .int .i64 c.got, .int .i64 c.cut] 31)) W.heap.size 0 c := by
  obtain ⟨a0, a1, a2, a3, a4, a5, a6, a7⟩ := box8 (World.alloc_heap_new W (.cells #[.string c.partner, .string c.ref, .int .i64 c.no, .string c.item, .int .i64 c.ordered, .int .i64 c.sent, .int .i64 c.got, .int .i64 c.cut] 31))
  exact ⟨a0, a1, a2, a3, a4, a5, a6, a7⟩
theorem owns_grw {w3 W W' : World} {v : Value} {L : List OLn} (h : W.ownsRow w3.heap.size 31 8 (v) L.length (clOls L)) (hb : Below W.heap.size W W') : W'.ownsRow w3.heap.size 31 8 (v) L.length (clOls L) := by
  refine h.kept (row := none) ⟨hb.os, hb.tape, hb.output, hb.size, fun j hj _ => hb.block j hj⟩ ?_
  rcases h.2 with ⟨e, _⟩ | ⟨g, cap, cur, e, _⟩
  · exact .inl (by rw [e]; rfl)
  · exact .inr (by rw [e]; simp [Value.ownBlock])
theorem owns_some {w3 W : World} {A : Option Addr} {C : Nat} {L : List OLn} (h : W.ownsRow w3.heap.size 31 8 (.slice A L.length C) L.length (clOls L)) (hL : L ≠ []) : ∃ ad, A = some ad ∧ w3.heap.size ≤ ad.block := by
  rcases h.2 with ⟨e, h0⟩ | ⟨g, cap, cur, e, h3, _⟩
  · exact absurd (List.eq_nil_of_length_eq_zero h0) hL
  · simp only [Value.slice.injEq] at e
    exact ⟨_, e.1, h3⟩
theorem any_app (l c : OLn) (ts : List OLn) : (ts ++ [c]).any (fun x => befL l x) = (ts.any (fun x => befL l x) || befL l c) := by simp
set_option maxRecDepth 20000 in
set_option maxHeartbeats 8000000 in
theorem linesAdd_specO (ad : Addr) (Cp : Nat) (rs : List OLn) (l : OLn) (w : World) (h : RowOl w (.slice (some ad) rs.length Cp) rs) (hzl : l.partner.size ≤ 9223372036854775807 ∧ l.ref.size ≤ 9223372036854775807 ∧ l.item.size ≤ 9223372036854775807) :
    Calls Try.prog 33 #[.slice (some ad) rs.length Cp, .agg #[.string l.partner, .string l.ref, .int .i64 l.no, .string l.item, .int .i64 l.ordered, .int .i64 l.sent, .int .i64 l.got, .int .i64 l.cut]] w fun e w' => ∃ ad' C', e = .returned (.slice (some ad') (addT rs l).length C') ∧ RowOl w' (.slice (some ad') (addT rs l).length C') (addT rs l) ∧ w.heap.size ≤ ad'.block ∧ Below w.heap.size w w' := by
  have hlen := h.len
  obtain ⟨W0, hW0⟩ : ∃ W0, w.alloc (.cells #[.string l.partner, .string l.ref, .int .i64 l.no, .string l.item, .int .i64 l.ordered, .int .i64 l.sent, .int .i64 l.got, .int .i64 l.cut] 31) = W0 := ⟨_, rfl⟩
  have hb0 : Below w.heap.size w W0 := by rw [← hW0]; exact (Below.refl _ _).alloc (Nat.le_refl _) _
  have hx0 : W0.heap[w.heap.size]? = some (.cells #[.string l.partner, .string l.ref, .int .i64 l.no, .string l.item, .int .i64 l.ordered, .int .i64 l.sent, .int .i64 l.got, .int .i64 l.cut] 31) := by rw [← hW0]; exact World.alloc_heap_new _ _
  obtain ⟨B, hB⟩ : ∃ B, B = w.heap.size := ⟨_, rfl⟩
  rw [← hB] at hx0
  have H0 : Hid (Below w.heap.size w W0 ∧ W0.heap[B]? = some (.cells #[.string l.partner, .string l.ref, .int .i64 l.no, .string l.item, .int .i64 l.ordered, .int .i64 l.sent, .int .i64 l.got, .int .i64 l.cut] 31) ∧ RowOl W0 (.slice (some ad) rs.length Cp) rs) := ⟨hb0, hx0, h.below hb0⟩
  have HW : Hid (w.alloc (.cells #[.string l.partner, .string l.ref, .int .i64 l.no, .string l.item, .int .i64 l.ordered, .int .i64 l.sent, .int .i64 l.got, .int .i64 l.cut] 31) = W0 ∧ B = w.heap.size) := ⟨hW0, hB⟩
  have HZ : Hid (∀ x, x = l ∨ x ∈ rs → x.partner.size ≤ 9223372036854775807 ∧ x.ref.size ≤ 9223372036854775807 ∧ x.item.size ≤ 9223372036854775807) := fun x hx => by
    rcases hx with rfl | hx
    · exact hzl
    · obtain ⟨i, hi⟩ := List.getElem?_of_mem hx
      exact h.sizes i x hi
  clear hW0 hb0 hx0 hB h hzl
  have mixed : Try.prog.follows .mixedOrders = true := by kernel_rfl
  go_enter Try.func33, Try.ntmps33
  go_upto_region 1 with fail
  try rw [HW.out.1]
  try rw [← HW.out.2]
  clear HW
  by_cases h4 : 400 < rs.length
  · have h4' : (400 : Int) < (rs.length : Int) := by omega
    have HE : Hid (addT rs l = []) := addT_big h4
    go_wp2
    go_ret
    refine ⟨_, _, by rw [HE.out]; rfl, by rw [HE.out]; exact ⟨⟨_, _, rfl, fun h => absurd rfl h⟩, by simp, fun i g hi => by simp at hi⟩, H0.out.1.size, H0.out.1.alloc H0.out.1.size _⟩
  have h4' : ¬ (400 : Int) < (rs.length : Int) := by omega
  have ha1 : Below W0.heap.size W0 (W0.alloc (.cells #[] 31)) := (Below.refl _ _).alloc (Nat.le_refl _) _
  have hown := own0Ol W0 (Nat.le_refl W0.heap.size)
  have hrow := H0.out.2.2.below ha1
  have HA1 : Hid (Below W0.heap.size W0 (W0.alloc (.cells #[] 31))) := ha1
  clear ha1
  go_wp2_with (first | (at_builtin; refine wpList_copyOl (by rfl) _ _ rfl rfl rfl hown hrow (by omega) (by simp) ?_; intro A1 C1 w1 hr1 hA1 hb1))
  obtain ⟨ad1, rfl, hab1⟩ := hA1
  have HAB : Hid (w.heap.size ≤ ad1.block) := Nat.le_trans H0.out.1.size hab1
  have b1 : Below W0.heap.size W0 w1 := HA1.out.trans hb1
  have H1 : Hid (Below w.heap.size w w1 ∧ w1.heap[B]? = some (.cells #[.string l.partner, .string l.ref, .int .i64 l.no, .string l.item, .int .i64 l.ordered, .int .i64 l.sent, .int .i64 l.got, .int .i64 l.cut] 31) ∧ RowOl w1 (.slice (some ad) rs.length Cp) rs ∧ RowOl w1 (.slice (some ad1) rs.length C1) rs) := ⟨H0.out.1.trans (b1.mono H0.out.1.size), (b1.block _ (Array.getElem?_eq_some_iff.1 H0.out.2.1).1).trans H0.out.2.1, H0.out.2.2.below b1, hr1⟩
  clear hb1 hr1 b1 H0 HA1 hown hrow
  go_wp2_with fail
  refine (linesRight_spec _ rs _ H1.out.2.2.1).mono ?_
  rintro e w2 ⟨rfl, hb2⟩
  have H2 : Hid (Below w.heap.size w w2 ∧ w2.heap[B]? = some (.cells #[.string l.partner, .string l.ref, .int .i64 l.no, .string l.item, .int .i64 l.ordered, .int .i64 l.sent, .int .i64 l.got, .int .i64 l.cut] 31) ∧ RowOl w2 (.slice (some ad) rs.length Cp) rs ∧ RowOl w2 (.slice (some ad1) rs.length C1) rs) := ⟨H1.out.1.trans (hb2.mono H1.out.1.size), (hb2.block _ (Array.getElem?_eq_some_iff.1 H1.out.2.1).1).trans H1.out.2.1, H1.out.2.2.1.below hb2, H1.out.2.2.2.below hb2⟩
  clear hb2 H1
  cases hrb : lnsB rs
  · have HE : Hid (addT rs l = rs) := addT_no h4 fun ⟨h, _⟩ => lnsB_iff'.1 hrb h
    clear hrb
    go_wp2
    go_ret
    exact ⟨_, _, by rw [HE.out]; rfl, by rw [HE.out]; exact H2.out.2.2.2, HAB.out, H2.out.1⟩
  have HRL : Hid (RightL rs) := lnsB_iff.1 hrb
  clear hrb
  obtain ⟨w3, hw3⟩ : ∃ w3, w3 = w2 := ⟨_, rfl⟩
  rw [← hw3] at H2 ⊢
  clear hw3
  have hb3 : Below w3.heap.size w3 (w3.alloc (.cells #[] 31)) := (Below.refl _ _).alloc (Nat.le_refl _) _
  have hown0 : (w3.alloc (.cells #[] 31)).ownsRow w3.heap.size 31 8 (.slice (some ⟨w3.heap.size, 0, none⟩) ([] : List OLn).length 0) ([] : List OLn).length (clOls ([] : List OLn)) := own0Ol w3 (Nat.le_refl _)
  have HO : Hid _ := And.intro hb3 hown0
  clear hb3 hown0
  go_wp2_with fail
  go_loopw [6, 7, 8] (fun lv dv i wr => ∃ (k : Nat) (A : Option Addr) (C : Nat) (ts oL : List OLn) (dn : Bool), i = .int .i64 (k : Int) ∧ k ≤ rs.length ∧ ts = rs.take k ∧ dn = ts.any (fun x => befL l x) ∧ oL = (if dn then mIns l ts else ts) ∧ lv = .slice A oL.length C ∧ dv = .bool dn ∧ wr.ownsRow w3.heap.size 31 8 (.slice A oL.length C) oL.length (clOls oL) ∧ Below w3.heap.size w3 wr) (fun _ _ i _ => rs.length - (RowKit.intOf i).toNat)
  case atStart => exact ⟨0, _, 0, [], [], false, rfl, by omega, by simp, rfl, rfl, rfl, rfl, HO.out.2, HO.out.1⟩
  case round =>
    obtain ⟨k, A0, C0, ts, oL, dn, rfl, hk, hts, hdn, hoL, rfl, rfl, hR, hb⟩ := hrel
    have hol : oL.length ≤ 402 := by
      have htl : ts.length ≤ 400 := by rw [hts, List.length_take]; omega
      rw [hoL]
      cases dn with
      | true => have := (mIns_perm l ts).length_eq; simp at this ⊢; omega
      | false => simp; omega
    have HI : Hid (ts = rs.take k ∧ dn = ts.any (fun x => befL l x) ∧ oL = (if dn then mIns l ts else ts) ∧ wr.ownsRow w3.heap.size 31 8 (.slice A0 oL.length C0) oL.length (clOls oL) ∧ Below w3.heap.size w3 wr) := ⟨hts, hdn, hoL, hR, hb⟩
    clear hts hdn hoL hR hb
    by_cases hlt : k < rs.length
    · have hlt' : (k : Int) < (rs.length : Int) := by omega
      obtain ⟨b, o, cap', c, e, hs, ⟨q0, q1, q2, q3, q4, q5, q6, q7⟩, _⟩ := (H2.out.2.2.1.below HI.out.2.2.2.2).at hlt
      simp only [Value.slice.injEq, Option.some.injEq, true_and] at e
      obtain ⟨rfl, rfl⟩ := e
      have l0 := cell_lt q0
      have HAT : Hid (∀ W, Below wr.heap.size wr W → AtOl W b (o + k * 8) c) := fun W hW => (show AtOl wr b (o + k * 8) c from ⟨q0, q1, q2, q3, q4, q5, q6, q7⟩).below hW
      have hbx := (HI.out.2.2.2.2.block _ (Array.getElem?_eq_some_iff.1 H2.out.2.1).1).trans H2.out.2.1
      have HBX : Hid (∀ W, Below wr.heap.size wr W → W.heap[B]? = some (.cells #[.string l.partner, .string l.ref, .int .i64 l.no, .string l.item, .int .i64 l.ordered, .int .i64 l.sent, .int .i64 l.got, .int .i64 l.cut] 31)) := fun W hW => (hW.block _ (Array.getElem?_eq_some_iff.1 hbx).1).trans hbx
      obtain ⟨c0, c1, c2, c3, c4, c5, c6, c7⟩ := box8 hbx
      have lB := cell_lt c0
      have f0 := cell_grown l0 q0
      have f1 := cell_grown l0 q1
      have f2 := cell_grown l0 q2
      have f3 := cell_grown l0 q3
      have f4 := cell_grown l0 q4
      have f5 := cell_grown l0 q5
      have f6 := cell_grown l0 q6
      have f7 := cell_grown l0 q7
      have d0 := cell_grown lB c0
      have d1 := cell_grown lB c1
      have d2 := cell_grown lB c2
      have d3 := cell_grown lB c3
      have d4 := cell_grown lB c4
      have d5 := cell_grown lB c5
      have d6 := cell_grown lB c6
      have d7 := cell_grown lB c7
      have e3 : rs.take (k + 1) = rs.take k ++ [c] := by
        rw [List.take_add_one, hs]
        rfl
      have HE3 : Hid (rs.take (k + 1) = ts ++ [c]) := by rw [HI.out.1]; exact e3
      clear q0 q1 q2 q3 q4 q5 q6 q7 c0 c1 c2 c3 c4 c5 c6 c7 hbx hs e3
      have Q4 := before_grows l c
      obtain ⟨bf, hbf⟩ : ∃ bf, bf = befL l c := ⟨_, rfl⟩
      rw [← hbf] at Q4
      have HBF : Hid (bf = befL l c) := hbf
      clear hbf
      go_upto_region 11 with fail
      cases dn with
      | true =>
        refine wp_region_quiet_grown mixed (by kernel_rfl) ?_
        repeat (go_big_quiet_step (first | (go_at_call 19; refine Calls.grown_of (Q4 _))))
        refine wpQuiet_nil ?_
        intro _ hw'
        obtain ⟨⟨nq, osq⟩, hw''⟩ := hw'
        subst hw''
        have bg := Grw.below (w := wr) ⟨nq, osq, rfl⟩
        obtain ⟨W5, hW5⟩ : ∃ W5, W5 = grow (wr.drewN nq) osq := ⟨_, rfl⟩
        rw [← hW5] at bg ⊢
        have H5 : Hid (W5.ownsRow w3.heap.size 31 8 (.slice A0 oL.length C0) oL.length (clOls oL) ∧ Below w3.heap.size w3 W5) := ⟨owns_grw HI.out.2.2.2.1 bg, HI.out.2.2.2.2.trans (bg.mono HI.out.2.2.2.2.size)⟩
        obtain ⟨q0, q1, q2, q3, q4, q5, q6, q7⟩ := HAT.out W5 bg
        clear hW5 bg f0 f1 f2 f3 f4 f5 f6 f7 d0 d1 d2 d3 d4 d5 d6 d7
        have hrow8 : (W5.alloc (.cells #[.string c.partner, .string c.ref, .int .i64 c.no, .string c.item, .int .i64 c.ordered, .int .i64 c.sent, .int .i64 c.got, .int .i64 c.cut] 31)).ownsRow w3.heap.size 31 8 (.slice A0 oL.length C0) oL.length (clOls oL) := (H5.out.1).alloc _
        have hat8 : AtOl (W5.alloc (.cells #[.string c.partner, .string c.ref, .int .i64 c.no, .string c.item, .int .i64 c.ordered, .int .i64 c.sent, .int .i64 c.got, .int .i64 c.cut] 31)) W5.heap.size 0 c := at_newOl _ _
        have hsz8 := (H5.out.2).size
        go_wp2_with (first | (at_builtin; refine wpList_appOl rfl _ _ rfl rfl rfl hrow8 hat8 (by omega) (by simp; omega) ?_; rintro v8 w8 hown8 hgrow8 ⟨A8, C8, rfl⟩))
        have H8 : Hid (w8.ownsRow w3.heap.size 31 8 (.slice A8 (oL ++ [c]).length C8) (oL ++ [c]).length (clOls (oL ++ [c])) ∧ Below w3.heap.size w3 w8) := ⟨hown8, ((H5.out.2).alloc hsz8 _).trans ⟨hgrow8.os, hgrow8.tape, hgrow8.output, hgrow8.size, fun q hq => hgrow8.block q (by simp; omega) (fun e => by have := (hrow8.lt q e.symm).1; omega)⟩⟩
        clear hown8 hgrow8 hrow8 hat8 hsz8
        go_wp2
        go_roundw
        case rel =>
          refine ⟨k + 1, A8, C8, ts ++ [c], oL ++ [c], true, by go_num, by omega, HE3.out.symm, ?_, ?_, by simp, rfl, H8.out.1, H8.out.2⟩
          · rw [any_app, ← HI.out.2.1]
            rfl
          · rw [HI.out.2.2.1, if_pos rfl, if_pos rfl, mIns_app_yes l c ts HI.out.2.1.symm]
        case measure => simp [RowKit.intOf]; omega
      | false =>
        have HOT : Hid (oL = ts) := HI.out.2.2.1
        cases bf with
        | false =>
          refine wp_region_quiet_grown mixed (by kernel_rfl) ?_
          repeat (go_big_quiet_step (first | (go_at_call 19; refine Calls.grown_of (Q4 _))))
          refine wpQuiet_nil ?_
          intro _ hw'
          obtain ⟨⟨nq, osq⟩, hw''⟩ := hw'
          subst hw''
          have bg := Grw.below (w := wr) ⟨nq, osq, rfl⟩
          obtain ⟨W5, hW5⟩ : ∃ W5, W5 = grow (wr.drewN nq) osq := ⟨_, rfl⟩
          rw [← hW5] at bg ⊢
          have H5 : Hid (W5.ownsRow w3.heap.size 31 8 (.slice A0 oL.length C0) oL.length (clOls oL) ∧ Below w3.heap.size w3 W5) := ⟨owns_grw HI.out.2.2.2.1 bg, HI.out.2.2.2.2.trans (bg.mono HI.out.2.2.2.2.size)⟩
          obtain ⟨q0, q1, q2, q3, q4, q5, q6, q7⟩ := HAT.out W5 bg
          clear hW5 bg f0 f1 f2 f3 f4 f5 f6 f7 d0 d1 d2 d3 d4 d5 d6 d7
          have hrow8 : (W5.alloc (.cells #[.string c.partner, .string c.ref, .int .i64 c.no, .string c.item, .int .i64 c.ordered, .int .i64 c.sent, .int .i64 c.got, .int .i64 c.cut] 31)).ownsRow w3.heap.size 31 8 (.slice A0 oL.length C0) oL.length (clOls oL) := (H5.out.1).alloc _
          have hat8 : AtOl (W5.alloc (.cells #[.string c.partner, .string c.ref, .int .i64 c.no, .string c.item, .int .i64 c.ordered, .int .i64 c.sent, .int .i64 c.got, .int .i64 c.cut] 31)) W5.heap.size 0 c := at_newOl _ _
          have hsz8 := (H5.out.2).size
          go_wp2_with (first | (at_builtin; refine wpList_appOl rfl _ _ rfl rfl rfl hrow8 hat8 (by omega) (by simp; omega) ?_; rintro v8 w8 hown8 hgrow8 ⟨A8, C8, rfl⟩))
          have H8 : Hid (w8.ownsRow w3.heap.size 31 8 (.slice A8 (oL ++ [c]).length C8) (oL ++ [c]).length (clOls (oL ++ [c])) ∧ Below w3.heap.size w3 w8) := ⟨hown8, ((H5.out.2).alloc hsz8 _).trans ⟨hgrow8.os, hgrow8.tape, hgrow8.output, hgrow8.size, fun q hq => hgrow8.block q (by simp; omega) (fun e => by have := (hrow8.lt q e.symm).1; omega)⟩⟩
          clear hown8 hgrow8 hrow8 hat8 hsz8
          go_wp2
          go_roundw
          case rel =>
            refine ⟨k + 1, A8, C8, ts ++ [c], oL ++ [c], false, by go_num, by omega, HE3.out.symm, ?_, ?_, by simp, rfl, H8.out.1, H8.out.2⟩
            · rw [any_app, ← HI.out.2.1, ← HBF.out]
              rfl
            · rw [HOT.out]
              rfl
          case measure => simp [RowKit.intOf]; omega
        | true =>
          refine wp_region_quiet_grown mixed (by kernel_rfl) ?_
          repeat (go_big_quiet_step (first | (go_at_call 19; refine Calls.grown_of (Q4 _))))
          refine wpQuiet_nil ?_
          intro _ hw'
          obtain ⟨⟨nq, osq⟩, hw''⟩ := hw'
          subst hw''
          have bg := Grw.below (w := wr) ⟨nq, osq, rfl⟩
          obtain ⟨W5, hW5⟩ : ∃ W5, W5 = grow (wr.drewN nq) osq := ⟨_, rfl⟩
          rw [← hW5] at bg ⊢
          have H5 : Hid (W5.ownsRow w3.heap.size 31 8 (.slice A0 oL.length C0) oL.length (clOls oL) ∧ Below w3.heap.size w3 W5) := ⟨owns_grw HI.out.2.2.2.1 bg, HI.out.2.2.2.2.trans (bg.mono HI.out.2.2.2.2.size)⟩
          obtain ⟨c0, c1, c2, c3, c4, c5, c6, c7⟩ := box8 (HBX.out W5 bg)
          have HBG : Hid (Below wr.heap.size wr W5) := bg
          clear hW5 bg f0 f1 f2 f3 f4 f5 f6 f7 d0 d1 d2 d3 d4 d5 d6 d7
          have hrow7 : (W5.alloc (.cells #[.string l.partner, .string l.ref, .int .i64 l.no, .string l.item, .int .i64 l.ordered, .int .i64 l.sent, .int .i64 l.got, .int .i64 l.cut] 31)).ownsRow w3.heap.size 31 8 (.slice A0 oL.length C0) oL.length (clOls oL) := (H5.out.1).alloc _
          have hat7 : AtOl (W5.alloc (.cells #[.string l.partner, .string l.ref, .int .i64 l.no, .string l.item, .int .i64 l.ordered, .int .i64 l.sent, .int .i64 l.got, .int .i64 l.cut] 31)) W5.heap.size 0 l := at_newOl _ _
          have hsz7 := (H5.out.2).size
          go_upto_region 14 with (first | (at_builtin; refine wpList_appOl rfl _ _ rfl rfl rfl hrow7 hat7 (by omega) (by simp; omega) ?_; rintro v7 w7 hown7 hgrow7 ⟨A7, C7, rfl⟩))
          have H7 : Hid (w7.ownsRow w3.heap.size 31 8 (.slice A7 (oL ++ [l]).length C7) (oL ++ [l]).length (clOls (oL ++ [l])) ∧ Below w3.heap.size w3 w7) := ⟨hown7, ((H5.out.2).alloc hsz7 _).trans ⟨hgrow7.os, hgrow7.tape, hgrow7.output, hgrow7.size, fun q hq => hgrow7.block q (by simp; omega) (fun e => by have := (hrow7.lt q e.symm).1; omega)⟩⟩
          clear hown7 hgrow7 hrow7 hat7 hsz7
          obtain ⟨q0, q1, q2, q3, q4, q5, q6, q7⟩ := (H2.out.2.2.1.below H7.out.2).at hlt |>.elim fun b2 h => h.elim fun o2 h => h.elim fun c2 h => h.elim fun g2 h => (show AtOl w7 b (o + k * 8) c from by
            obtain ⟨e, hs, hat, _⟩ := h
            simp only [Value.slice.injEq, Option.some.injEq, Addr.mk.injEq, and_true, true_and] at e
            obtain ⟨⟨rfl, rfl⟩, rfl⟩ := e
            have : g2 = c := by
              have h3 := HE3.out
              rw [List.take_add_one, hs, HI.out.1] at h3
              simpa using h3
            rw [← this]
            exact hat)
          obtain ⟨pL, hpL⟩ : ∃ pL, pL = oL ++ [l] := ⟨_, rfl⟩
          have hml : pL.length ≤ 403 := by rw [hpL]; simp; omega
          have HPE : Hid ((oL ++ [l]).length = pL.length ∧ oL.length + 1 = pL.length ∧ pL = oL ++ [l]) := ⟨by rw [hpL], by rw [hpL]; simp, hpL⟩
          rw [← hpL] at H7
          clear hpL
          try rw [HPE.out.1]
          try rw [HPE.out.2.1]
          have hrow8 : (w7.alloc (.cells #[.string c.partner, .string c.ref, .int .i64 c.no, .string c.item, .int .i64 c.ordered, .int .i64 c.sent, .int .i64 c.got, .int .i64 c.cut] 31)).ownsRow w3.heap.size 31 8 (.slice A7 pL.length C7) pL.length (clOls pL) := (H7.out.1).alloc _
          have hat8 : AtOl (w7.alloc (.cells #[.string c.partner, .string c.ref, .int .i64 c.no, .string c.item, .int .i64 c.ordered, .int .i64 c.sent, .int .i64 c.got, .int .i64 c.cut] 31)) w7.heap.size 0 c := at_newOl _ _
          have hsz8 := (H7.out.2).size
          go_wp2_with (first | (at_builtin; refine wpList_appOl rfl _ _ rfl rfl rfl hrow8 hat8 (by omega) (by simp; omega) ?_; rintro v8 w8 hown8 hgrow8 ⟨A8, C8, rfl⟩))
          have H8 : Hid (w8.ownsRow w3.heap.size 31 8 (.slice A8 (pL ++ [c]).length C8) (pL ++ [c]).length (clOls (pL ++ [c])) ∧ Below w3.heap.size w3 w8) := ⟨hown8, ((H7.out.2).alloc hsz8 _).trans ⟨hgrow8.os, hgrow8.tape, hgrow8.output, hgrow8.size, fun q hq => hgrow8.block q (by simp; omega) (fun e => by have := (hrow8.lt q e.symm).1; omega)⟩⟩
          clear hown8 hgrow8 hrow8 hat8 hsz8
          go_wp2
          go_roundw
          case rel =>
            refine ⟨k + 1, A8, C8, ts ++ [c], pL ++ [c], true, by go_num, by omega, HE3.out.symm, ?_, ?_, by simp, rfl, H8.out.1, H8.out.2⟩
            · rw [any_app, ← HI.out.2.1, ← HBF.out]
              rfl
            · rw [if_pos rfl, mIns_app_new l c HBF.out.symm ts HI.out.2.1.symm, HPE.out.2.2, HOT.out]
              simp
          case measure => simp [RowKit.intOf]; omega
    · obtain rfl : k = rs.length := by omega
      obtain ⟨mL, hmL⟩ : ∃ mL, mL = mIns l rs := ⟨_, rfl⟩
      have hml : mL.length ≤ 402 := by
        have := (mIns_perm l rs).length_eq
        rw [hmL, this]
        simp
        omega
      have HML : Hid (mL = mIns l rs) := hmL
      have hts : ts = rs := by rw [HI.out.1, List.take_length]
      have HOL : Hid ((dn = true → oL = mL) ∧ (dn = false → oL ++ [l] = mL)) := by
        have h1 := HI.out.2.1
        have h2 := HI.out.2.2.1
        rw [hts] at h1 h2
        refine ⟨fun hd => ?_, fun hd => ?_⟩
        · rw [h2, hd, hmL]
          rfl
        · rw [h2, hd, hmL, mIns_app_no l rs (by rw [← h1]; exact hd)]
          rfl
      have hbx := (HI.out.2.2.2.2.block _ (Array.getElem?_eq_some_iff.1 H2.out.2.1).1).trans H2.out.2.1
      obtain ⟨c0, c1, c2, c3, c4, c5, c6, c7⟩ := box8 hbx
      clear hmL hts hbx
      go_upto_if 49 with fail
      go_cut [6] from 50 to 53 (fun s6 wx => ∃ A C, s6 = .slice A mL.length C ∧ wx.ownsRow w3.heap.size 31 8 (.slice A mL.length C) mL.length (clOls mL) ∧ Below w3.heap.size w3 wx)
      case first =>
        cases dn with
        | true =>
          have e := HOL.out.1 (by first | exact rfl | exact trivial)
          subst e
          go_wp2_with fail
          go_meet
          exact ⟨_, _, rfl, HI.out.2.2.2.1, HI.out.2.2.2.2⟩
        | false =>
          have hrow8 : (wr.alloc (.cells #[.string l.partner, .string l.ref, .int .i64 l.no, .string l.item, .int .i64 l.ordered, .int .i64 l.sent, .int .i64 l.got, .int .i64 l.cut] 31)).ownsRow w3.heap.size 31 8 (.slice A0 oL.length C0) oL.length (clOls oL) := (HI.out.2.2.2.1).alloc _
          have hat8 : AtOl (wr.alloc (.cells #[.string l.partner, .string l.ref, .int .i64 l.no, .string l.item, .int .i64 l.ordered, .int .i64 l.sent, .int .i64 l.got, .int .i64 l.cut] 31)) wr.heap.size 0 l := at_newOl _ _
          have hsz8 := (HI.out.2.2.2.2).size
          go_wp2_with (first | (at_builtin; refine wpList_appOl rfl _ _ rfl rfl rfl hrow8 hat8 (by omega) (by simp; omega) ?_; rintro v8 w8 hown8 hgrow8 ⟨A8, C8, rfl⟩))
          have H8 : Hid (w8.ownsRow w3.heap.size 31 8 (.slice A8 (oL ++ [l]).length C8) (oL ++ [l]).length (clOls (oL ++ [l])) ∧ Below w3.heap.size w3 w8) := ⟨hown8, ((HI.out.2.2.2.2).alloc hsz8 _).trans ⟨hgrow8.os, hgrow8.tape, hgrow8.output, hgrow8.size, fun q hq => hgrow8.block q (by simp; omega) (fun e => by have := (hrow8.lt q e.symm).1; omega)⟩⟩
          clear hown8 hgrow8 hrow8 hat8 hsz8
          have H9 : Hid (w8.ownsRow w3.heap.size 31 8 (.slice A8 mL.length C8) mL.length (clOls mL) ∧ Below w3.heap.size w3 w8 ∧ oL.length + 1 = mL.length) := by
            have h8 := H8.out
            have e := HOL.out.2 (by first | exact rfl | exact trivial)
            rw [e] at h8
            exact ⟨h8.1, h8.2, by rw [← e]; simp⟩
          go_wp2_with fail
          go_meet
          exact ⟨A8, C8, by first | rw [H9.out.2.2] | (rw [← H9.out.2.2]; simp) | rfl, H9.out.1, H9.out.2.1⟩
      case rest =>
        obtain ⟨A9, C9, rfl, hR9, hb9⟩ := hcut
        rename World => w9
        have hz9 : ∀ (i : Nat) (g : OLn), mL[i]? = some g → g.partner.size ≤ 9223372036854775807 ∧ g.ref.size ≤ 9223372036854775807 ∧ g.item.size ≤ 9223372036854775807 := fun i g hi => HZ.out g (by
          have h1 := List.mem_of_getElem? hi
          rw [HML.out] at h1
          exact List.mem_cons.1 ((mIns_perm l rs).mem_iff.1 h1))
        obtain ⟨b9, _, hL9⟩ := LOl.of_owns hR9 (by omega) hz9
        obtain ⟨ad9, rfl, hab9⟩ := owns_some hR9 (fun e => by
          have h1 := (mIns_perm l rs).length_eq
          rw [← HML.out, e] at h1
          simp at h1)
        have HA9 : Hid (w.heap.size ≤ ad9.block) := Nat.le_trans H2.out.1.size hab9
        clear hab9
        have H9 : Hid (Below w.heap.size w w9 ∧ RowOl w9 (.slice (some ad1) rs.length C1) rs ∧ RowOl w9 (.slice (some ad9) mL.length C9) mL) := ⟨H2.out.1.trans (hb9.mono H2.out.1.size), H2.out.2.2.2.below hb9, hL9.row⟩
        clear hR9 hb9 hz9 hL9 c0 c1 c2 c3 c4 c5 c6 c7 HI
        go_wp2_with fail
        refine (linesRight_spec _ _ _ H9.out.2.2).mono ?_
        rintro e w10 ⟨rfl, hb10⟩
        have H10 : Hid (Below w.heap.size w w10 ∧ RowOl w10 (.slice (some ad1) rs.length C1) rs ∧ RowOl w10 (.slice (some ad9) mL.length C9) mL) := ⟨H9.out.1.trans (hb10.mono H9.out.1.size), H9.out.2.1.below hb10, H9.out.2.2.below hb10⟩
        clear hb10 H9
        cases hri : lnsB mL
        · have HE : Hid (addT rs l = rs) := addT_mno HRL.out (by rw [← HML.out]; exact lnsB_iff'.1 hri)
          clear hri
          go_wp2
          go_ret
          exact ⟨_, _, by rw [HE.out]; rfl, by rw [HE.out]; exact H10.out.2.1, HAB.out, H10.out.1⟩
        · have HE : Hid (addT rs l = mL) := by
            have h1 := lnsB_iff.1 hri
            rw [HML.out] at h1 ⊢
            exact addT_m HRL.out h1
          clear hri
          go_wp2
          go_ret
          exact ⟨_, _, by rw [HE.out]; rfl, by rw [HE.out]; exact H10.out.2.2, HA9.out, H10.out.1⟩
theorem linesAdd_spec (ad : Addr) (Cp : Nat) (rs : List OLn) (l : OLn) (w : World) (h : RowOl w (.slice (some ad) rs.length Cp) rs) (hzl : l.partner.size ≤ 9223372036854775807 ∧ l.ref.size ≤ 9223372036854775807 ∧ l.item.size ≤ 9223372036854775807) :
    Calls Try.prog 33 #[.slice (some ad) rs.length Cp, .agg #[.string l.partner, .string l.ref, .int .i64 l.no, .string l.item, .int .i64 l.ordered, .int .i64 l.sent, .int .i64 l.got, .int .i64 l.cut]] w fun e w' => ∃ ad' C', e = .returned (.slice (some ad') (addT rs l).length C') ∧ RowOl w' (.slice (some ad') (addT rs l).length C') (addT rs l) ∧ Below w.heap.size w w' :=
  (linesAdd_specO ad Cp rs l w h hzl).mono fun _ _ ⟨a, c, h1, h2, _, h4⟩ => ⟨a, c, h1, h2, h4⟩
end Go.Proofs.Ytppfobeencnbdaa
