/- Texts of ours put together: RdG, RdM. -/
import Derived.Test.YtjnikogaleofaaaDoorG24
import Derived.Test.YtjnikogaleofaaaDoorG25
namespace Go.Proofs.YtjnikogaleofaaaDoor
open Go.ChangeShapes Go.WideShapes Go.ChangeAt Go.RowKit
theorem keep_ofB {R : Nat} {w w' : World} (h : Below w.heap.size w w') : Keep R w w' := Keep.of_below h
theorem setR3 {W : World} {b t : Nat} {x0 x1 x2 x3 x4 x5 x6 x7 x8 x9 x10 y6 y7 y8 : Value} (h : W.heap[b]? = some (.cells #[x0, x1, x2, x3, x4, x5, x6, x7, x8, x9, x10] t)) : (((W.setCell ⟨b, 6, none⟩ y6).setCell ⟨b, 7, none⟩ y7).setCell ⟨b, 8, none⟩ y8).heap[b]? = some (.cells #[x0, x1, x2, x3, x4, x5, y6, y7, y8, x9, x10] t) := by
  simp [World.setCell, Array.getElem?_modify, h]
theorem setR1 {W : World} {b t : Nat} {x0 x1 x2 x3 x4 x5 x6 x7 x8 x9 x10 y1 : Value} (h : W.heap[b]? = some (.cells #[x0, x1, x2, x3, x4, x5, x6, x7, x8, x9, x10] t)) : (W.setCell ⟨b, 1, none⟩ y1).heap[b]? = some (.cells #[x0, y1, x2, x3, x4, x5, x6, x7, x8, x9, x10] t) := by
  simp [World.setCell, Array.getElem?_modify, h]
theorem frozeR {W : World} {P t : Nat} {cs : Array Value} (h : W.heap[P]? = some (.cells cs t)) : ∀ o, W.frozen? ⟨P, o, none⟩ = false := fun o => by simp [World.frozen?, h]
theorem Keep.setR {R : Nat} {w W : World} (h : Keep R w W) (o : Nat) (v : Value) : Keep R w (W.setCell ⟨R, o, none⟩ v) := ⟨h.os, h.tape, h.output, by simpa [World.setCell] using h.size, fun k hk hne => by
  rw [← h.block k hk hne]
  simp only [World.setCell, Array.getElem?_modify]
  rw [if_neg (fun e => hne e.symm)]⟩
set_option maxRecDepth 20000 in
set_option maxHeartbeats 16000000 in
theorem beginBundle_any (R b o C nb Cb nm Cm : Nat) (Ab Am : Option Addr) (at_ : Nat) (num n k mn : Int) (frm tt : ByteArray) (dv : Value) (gs : List Seg) (tag : ByteArray) (es : List (List ByteArray)) (w : World)
    (h : w.heap[R]? = some (.cells #[.slice (some ⟨b, o, none⟩) gs.length C, .int .i64 (at_ : Int), .int .i64 num, .string frm, .string tt, .slice Ab nb Cb, .int .i64 n, .int .i64 k, (.slice Am nm Cm), .int .i64 mn, dv] 67)) (hg : RowG w (.slice (some ⟨b, o, none⟩) gs.length C) gs) (hat : gs[at_]? = some (tag, es)) (hE : BdE 1048576 es) (hEr : ErrsAt w) (hl : gs.length ≤ 1000000) :
    Calls Tryd.prog 37 #[.pointer (some ⟨R, 0, none⟩)] w fun e w' => Keep R w w' ∧ ((∃ k' n', tag = ⟨#[71, 82, 72]⟩ ∧ nb ≠ 5 ∧ hdGR (tag, es) = some (k', n') ∧ e = .returned (.bool true) ∧ w'.heap[R]? = some (.cells #[.slice (some ⟨b, o, none⟩) gs.length C, .int .i64 ((at_ + 1 : Nat) : Int), .int .i64 num, .string frm, .string tt, .slice Ab nb Cb, .int .i64 n', .int .i64 k', .slice none 0 0, .int .i64 mn, dv] 67)) ∨
      (¬ (tag = ⟨#[71, 82, 72]⟩ ∧ nb ≠ 5 ∧ (hdGR (tag, es)).isSome = true) ∧ e = .returned (.bool false) ∧ w'.heap[R]? = some (.cells #[.slice (some ⟨b, o, none⟩) gs.length C, .int .i64 (at_ : Int), .int .i64 num, .string frm, .string tt, .slice Ab nb Cb, .int .i64 n, .int .i64 k, (.slice Am nm Cm), .int .i64 mn, dv] 67))) := by
  have hlt : at_ < gs.length := (List.getElem?_eq_some_iff.1 hat).1
  have hRl := (Array.getElem?_eq_some_iff.1 h).1
  obtain ⟨b', o', cap, g, u, e, hg', c0, c1, hEs, htz⟩ := hg.at hlt
  rw [hat] at hg'
  cases hg'
  simp only [Value.slice.injEq, Option.some.injEq, Addr.mk.injEq, and_true, true_and] at e
  obtain ⟨⟨rfl, rfl⟩, rfl⟩ := e
  obtain ⟨Au, Cu, rfl⟩ := hEs.val
  dsimp only at c0 c1 hEs htz
  have HR : Hid (∀ W, Below w.heap.size w W → W.heap[R]? = some (.cells #[.slice (some ⟨b, o, none⟩) gs.length C, .int .i64 (at_ : Int), .int .i64 num, .string frm, .string tt, .slice Ab nb Cb, .int .i64 n, .int .i64 k, (.slice Am nm Cm), .int .i64 mn, dv] 67) ∧ W.cell? ⟨b, o + at_ * 2, none⟩ = some (.string tag) ∧ W.cell? ⟨b, o + at_ * 2 + 1, none⟩ = some (.slice Au es.length Cu) ∧ RowE W (.slice Au es.length Cu) es ∧ ErrsAt W ∧ Keep R w W) := fun W hW => ⟨(hW.block R hRl).trans h, (hW.cell (cell_lt c0)).trans c0, (hW.cell (cell_lt c1)).trans c1, hEs.below hW, hEr.below hW, Keep.of_below hW⟩
  have HE : Hid (BdE 1048576 es) := hE
  clear h hg hEs hEr hE c0 c1
  go_enter Tryd.func37, Tryd.ntmps37
  go_wp2_with fail
  obtain ⟨h0, p0, p1, _, _, _⟩ := HR.out w (Below.refl _ _)
  refine (next_any R b o gs.length C at_ tag Au es.length Cu _ _ _ _ _ _ _ _ _ w h0 hlt p0 p1).mono ?_
  rintro e w1 ⟨rfl, hb1⟩
  have H1 : Hid (Below w.heap.size w w1) := hb1
  clear hb1 h0 p0 p1
  go_wp2_with fail
  refine (wordsN_any 2 (by omega) tag _ es _ (HR.out w1 H1.out).2.2.2.1).mono ?_
  rintro e w2 ⟨hb2, hw⟩
  have H2 : Hid (Below w.heap.size w w2) := H1.out.trans (hb2.mono H1.out.size)
  clear hb2 H1
  rcases hw with ⟨ws, q, Cq, hes, hwl, rfl, hcs⟩ | ⟨hno, rfl⟩
  · match ws, hwl with
    | [a, d], _ =>
      have ca := hcs 0 a rfl
      have cd := hcs 1 d rfl
      have za : a.size ≤ 281474976710656 := by
        have := (HE.out.2 0 [a] (by rw [hes]; rfl)).2 0 a rfl
        omega
      have zd : d.size ≤ 281474976710656 := by
        have := (HE.out.2 1 [d] (by rw [hes]; rfl)).2 0 d rfl
        omega
      have HG : Hid (hdGR (tag, es) = match numIn a.data.toList 1 7, numIn d.data.toList 1 999999 with
        | some k, some n => some (k, n)
        | _, _ => none) := by show _ = _; rw [hes]; rfl
      clear hcs hes
      obtain ⟨h0, p0, p1, _, _, _⟩ := HR.out w2 H2.out
      go_wp2_with fail
      refine (nextIs_any R b o gs.length C at_ ⟨#[71, 82, 72]⟩ tag Au es.length Cu _ _ _ _ _ _ _ _ _ w2 h0 hlt p0 p1).mono ?_
      rintro e w3 ⟨rfl, hb3⟩
      have H3 : Hid (Below w.heap.size w w3) := H2.out.trans (hb3.mono H2.out.size)
      have ea := (hb3.cell (cell_lt ca)).trans ca
      have ed := (hb3.cell (cell_lt cd)).trans cd
      clear hb3 h0 p0 p1 ca cd H2
      by_cases ht : tag = ⟨#[71, 82, 72]⟩
      case neg =>
        have e1 : (tag.toList == (⟨#[71, 82, 72]⟩ : ByteArray).toList) = false := (toList_neq ht).1
        have HF : Hid (¬ (tag = ⟨#[71, 82, 72]⟩ ∧ nb ≠ 5 ∧ (hdGR (tag, es)).isSome = true)) := fun h => ht h.1
        clear ht HG
        rw [e1]
        go_wp2
        go_ret
        exact ⟨(HR.out w3 H3.out).2.2.2.2.2, .inr ⟨HF.out, rfl, (HR.out w3 H3.out).1⟩⟩
      case pos =>
        have e1 : (tag.toList == (⟨#[71, 82, 72]⟩ : ByteArray).toList) = true := by rw [ht]; simp
        rw [e1]
        have HTg : Hid (tag = ⟨#[71, 82, 72]⟩) := ht
        clear ht e1
        obtain ⟨r0, r1, r2, r3, r4, r5, r6, r7, r8, r9, r10⟩ := box11R (HR.out w3 H3.out).1
        by_cases h5 : nb = 5
        case pos =>
          have HF : Hid (¬ (tag = ⟨#[71, 82, 72]⟩ ∧ nb ≠ 5 ∧ (hdGR (tag, es)).isSome = true)) := fun h => h.2.1 h5
          have h5' : (nb : Int) = 5 := by omega
          clear HG
          go_wp2
          go_ret
          exact ⟨(HR.out w3 H3.out).2.2.2.2.2, .inr ⟨HF.out, rfl, (HR.out w3 H3.out).1⟩⟩
        case neg =>
          have h5' : ¬ (nb : Int) = 5 := by omega
          go_wp2_with fail
          refine (numberWithin_any a 1 7 _ za (by omega) (by omega) (HR.out w3 H3.out).2.2.2.2.1).mono ?_
          rintro e w4 ⟨rfl, hb4⟩
          have H4 : Hid (Below w.heap.size w w4) := H3.out.trans (hb4.mono H3.out.size)
          have ed4 := (hb4.cell (cell_lt ed)).trans ed
          clear hb4 H3 ea ed r0 r1 r2 r3 r4 r5 r6 r7 r8 r9 r10
          obtain ⟨va, hva⟩ : ∃ va, va = numIn a.data.toList 1 7 := ⟨_, rfl⟩
          have Qn := nwV_none (l := a.data.toList) (lo := 1) (hi := 7)
          have Qs := fun v => nwV_some (l := a.data.toList) (lo := 1) (hi := 7) (v := v)
          rw [← hva] at HG Qn Qs
          clear hva
          cases va with
          | none =>
            rw [Qn rfl]
            have HD : Hid (hdGR (tag, es) = none) := by show _ = none; rw [HG.out]
            clear HG Qn Qs
            go_wp2_with fail
            refine (numberWithin_any d 1 999999 _ zd (by omega) (by omega) (HR.out w4 H4.out).2.2.2.2.1).mono ?_
            rintro e w5 ⟨rfl, hb5⟩
            have H5 : Hid (Below w.heap.size w w5) := H4.out.trans (hb5.mono H4.out.size)
            clear hb5 ed4
            cases hd : numIn d.data.toList 1 999999 with
            | none =>
              rw [nwV_none hd]
              clear hd
              go_wp2
              go_ret
              exact ⟨(HR.out w5 H5.out).2.2.2.2.2, .inr ⟨fun h => (by have := h.2.2; rw [HD.out] at this; cases this), rfl, (HR.out w5 H5.out).1⟩⟩
            | some v =>
              rw [nwV_some hd]
              clear hd
              go_wp2
              go_ret
              exact ⟨(HR.out w5 H5.out).2.2.2.2.2, .inr ⟨fun h => (by have := h.2.2; rw [HD.out] at this; cases this), rfl, (HR.out w5 H5.out).1⟩⟩
          | some va =>
            rw [Qs va rfl]
            clear Qn Qs
            go_wp2_with fail
            refine (numberWithin_any d 1 999999 _ zd (by omega) (by omega) (HR.out w4 H4.out).2.2.2.2.1).mono ?_
            rintro e w5 ⟨rfl, hb5⟩
            have H5 : Hid (Below w.heap.size w w5) := H4.out.trans (hb5.mono H4.out.size)
            clear hb5 ed4
            cases hd : numIn d.data.toList 1 999999 with
            | none =>
              have HD : Hid (hdGR (tag, es) = none) := by show _ = none; rw [HG.out, hd]
              rw [nwV_none hd]
              clear hd HG
              go_wp2
              go_ret
              exact ⟨(HR.out w5 H5.out).2.2.2.2.2, .inr ⟨fun h => (by have := h.2.2; rw [HD.out] at this; cases this), rfl, (HR.out w5 H5.out).1⟩⟩
            | some v =>
              have HD : Hid (hdGR (tag, es) = some (va, v)) := by show _ = _; rw [HG.out, hd]
              rw [nwV_some hd]
              clear hd HG
              have HX := (HR.out w5 H5.out).1
              have HX : Hid _ := HX
              have hfz := frozeR HX.out
              obtain ⟨r0, r1, r2, r3, r4, r5, r6, r7, r8, r9, r10⟩ := box11R HX.out
              have hw : IntKind.i64.wrap ((at_ : Int) + 1) = (at_ : Int) + 1 := by rw [IntKind.wrap_i64]; omega
              go_wp2
              go_ret
              refine ⟨((((HR.out w5 H5.out).2.2.2.2.2.setR 6 _).setR 7 _).setR 8 _).setR 1 _, .inl ⟨va, v, HTg.out, h5, HD.out, rfl, ?_⟩⟩
              exact setR1 (setR3 HX.out)
  · have HF : Hid (hdGR (tag, es) = none) := by
      show _ = none
      unfold hdGR
      split
      · rename_i a d he
        exact absurd he (hno [a, d] rfl)
      · rfl
    clear hno
    obtain ⟨h0, p0, p1, _, _, _⟩ := HR.out w2 H2.out
    go_wp2_with fail
    refine (nextIs_any R b o gs.length C at_ ⟨#[71, 82, 72]⟩ tag Au es.length Cu _ _ _ _ _ _ _ _ _ w2 h0 hlt p0 p1).mono ?_
    rintro e w3 ⟨rfl, hb3⟩
    have H3 : Hid (Below w.heap.size w w3) := H2.out.trans (hb3.mono H2.out.size)
    clear hb3 h0 p0 p1
    cases e1 : (tag.toList == (⟨#[71, 82, 72]⟩ : ByteArray).toList)
    all_goals go_wp2
    all_goals go_ret
    all_goals exact ⟨(HR.out w3 H3.out).2.2.2.2.2, .inr ⟨fun h => (by have := h.2.2; rw [HF.out] at this; cases this), rfl, (HR.out w3 H3.out).1⟩⟩
end Go.Proofs.YtjnikogaleofaaaDoor
namespace Go.Proofs.YtjnikogaleofaaaDoor
open Go.ChangeShapes Go.WideShapes Go.ChangeAt Go.RowKit
theorem setR2 {W : World} {b t : Nat} {x0 x1 x2 x3 x4 x5 x6 x7 x8 x9 x10 y9 y10 : Value} (h : W.heap[b]? = some (.cells #[x0, x1, x2, x3, x4, x5, x6, x7, x8, x9, x10] t)) : ((W.setCell ⟨b, 9, none⟩ y9).setCell ⟨b, 10, none⟩ y10).heap[b]? = some (.cells #[x0, x1, x2, x3, x4, x5, x6, x7, x8, y9, y10] t) := by
  simp [World.setCell, Array.getElem?_modify, h]
set_option maxRecDepth 20000 in
set_option maxHeartbeats 16000000 in
theorem beginMessage_any (R b o C nm Cm nd Cd : Nat) (Am Ad : Option Addr) (at_ : Nat) (num n k mn : Int) (frm tt : ByteArray) (bv : Value) (gs : List Seg) (tag : ByteArray) (es : List (List ByteArray)) (w : World)
    (h : w.heap[R]? = some (.cells #[.slice (some ⟨b, o, none⟩) gs.length C, .int .i64 (at_ : Int), .int .i64 num, .string frm, .string tt, bv, .int .i64 n, .int .i64 k, .slice Am nm Cm, .int .i64 mn, (.slice Ad nd Cd)] 67)) (hg : RowG w (.slice (some ⟨b, o, none⟩) gs.length C) gs) (hat : gs[at_]? = some (tag, es)) (hE : BdE 1048576 es) (hEr : ErrsAt w) (hl : gs.length ≤ 1000000) :
    Calls Tryd.prog 39 #[.pointer (some ⟨R, 0, none⟩)] w fun e w' => Keep R w w' ∧ ((∃ n', tag = ⟨#[77, 83, 72]⟩ ∧ nm ≠ 10 ∧ hdMS (tag, es) = some n' ∧ e = .returned (.bool true) ∧ w'.heap[R]? = some (.cells #[.slice (some ⟨b, o, none⟩) gs.length C, .int .i64 ((at_ + 1 : Nat) : Int), .int .i64 num, .string frm, .string tt, bv, .int .i64 n, .int .i64 k, .slice Am nm Cm, .int .i64 n', .slice none 0 0] 67)) ∨
      (¬ (tag = ⟨#[77, 83, 72]⟩ ∧ nm ≠ 10 ∧ (hdMS (tag, es)).isSome = true) ∧ e = .returned (.bool false) ∧ w'.heap[R]? = some (.cells #[.slice (some ⟨b, o, none⟩) gs.length C, .int .i64 (at_ : Int), .int .i64 num, .string frm, .string tt, bv, .int .i64 n, .int .i64 k, .slice Am nm Cm, .int .i64 mn, (.slice Ad nd Cd)] 67))) := by
  have hlt : at_ < gs.length := (List.getElem?_eq_some_iff.1 hat).1
  have hRl := (Array.getElem?_eq_some_iff.1 h).1
  obtain ⟨b', o', cap, g, u, e, hg', c0, c1, hEs, htz⟩ := hg.at hlt
  rw [hat] at hg'
  cases hg'
  simp only [Value.slice.injEq, Option.some.injEq, Addr.mk.injEq, and_true, true_and] at e
  obtain ⟨⟨rfl, rfl⟩, rfl⟩ := e
  obtain ⟨Au, Cu, rfl⟩ := hEs.val
  dsimp only at c0 c1 hEs htz
  have HR : Hid (∀ W, Below w.heap.size w W → W.heap[R]? = some (.cells #[.slice (some ⟨b, o, none⟩) gs.length C, .int .i64 (at_ : Int), .int .i64 num, .string frm, .string tt, bv, .int .i64 n, .int .i64 k, .slice Am nm Cm, .int .i64 mn, (.slice Ad nd Cd)] 67) ∧ W.cell? ⟨b, o + at_ * 2, none⟩ = some (.string tag) ∧ W.cell? ⟨b, o + at_ * 2 + 1, none⟩ = some (.slice Au es.length Cu) ∧ RowE W (.slice Au es.length Cu) es ∧ ErrsAt W ∧ Keep R w W) := fun W hW => ⟨(hW.block R hRl).trans h, (hW.cell (cell_lt c0)).trans c0, (hW.cell (cell_lt c1)).trans c1, hEs.below hW, hEr.below hW, Keep.of_below hW⟩
  have HE : Hid (BdE 1048576 es) := hE
  clear h hg hEs hEr hE c0 c1
  go_enter Tryd.func39, Tryd.ntmps39
  go_wp2_with fail
  obtain ⟨h0, p0, p1, _, _, _⟩ := HR.out w (Below.refl _ _)
  refine (next_any R b o gs.length C at_ tag Au es.length Cu _ _ _ _ _ _ _ _ _ w h0 hlt p0 p1).mono ?_
  rintro e w1 ⟨rfl, hb1⟩
  have H1 : Hid (Below w.heap.size w w1) := hb1
  clear hb1 h0 p0 p1
  go_wp2_with fail
  refine (wordsN_any 1 (by omega) tag _ es _ (HR.out w1 H1.out).2.2.2.1).mono ?_
  rintro e w2 ⟨hb2, hw⟩
  have H2 : Hid (Below w.heap.size w w2) := H1.out.trans (hb2.mono H1.out.size)
  clear hb2 H1
  rcases hw with ⟨ws, q, Cq, hes, hwl, rfl, hcs⟩ | ⟨hno, rfl⟩
  · match ws, hwl with
    | [a], _ =>
      have ca := hcs 0 a rfl
      have za : a.size ≤ 281474976710656 := by
        have := (HE.out.2 0 [a] (by rw [hes]; rfl)).2 0 a rfl
        omega
      have HG : Hid (hdMS (tag, es) = numIn a.data.toList 1 999999) := by show _ = _; rw [hes]; rfl
      clear hcs hes
      obtain ⟨h0, p0, p1, _, _, _⟩ := HR.out w2 H2.out
      go_wp2_with fail
      refine (nextIs_any R b o gs.length C at_ ⟨#[77, 83, 72]⟩ tag Au es.length Cu _ _ _ _ _ _ _ _ _ w2 h0 hlt p0 p1).mono ?_
      rintro e w3 ⟨rfl, hb3⟩
      have H3 : Hid (Below w.heap.size w w3) := H2.out.trans (hb3.mono H2.out.size)
      have ea := (hb3.cell (cell_lt ca)).trans ca
      clear hb3 h0 p0 p1 ca H2
      by_cases ht : tag = ⟨#[77, 83, 72]⟩
      case neg =>
        have e1 : (tag.toList == (⟨#[77, 83, 72]⟩ : ByteArray).toList) = false := (toList_neq ht).1
        have HF : Hid (¬ (tag = ⟨#[77, 83, 72]⟩ ∧ nm ≠ 10 ∧ (hdMS (tag, es)).isSome = true)) := fun h => ht h.1
        clear ht HG
        rw [e1]
        go_wp2
        go_ret
        exact ⟨(HR.out w3 H3.out).2.2.2.2.2, .inr ⟨HF.out, rfl, (HR.out w3 H3.out).1⟩⟩
      case pos =>
        have e1 : (tag.toList == (⟨#[77, 83, 72]⟩ : ByteArray).toList) = true := by rw [ht]; simp
        rw [e1]
        have HTg : Hid (tag = ⟨#[77, 83, 72]⟩) := ht
        clear ht e1
        obtain ⟨r0, r1, r2, r3, r4, r5, r6, r7, r8, r9, r10⟩ := box11R (HR.out w3 H3.out).1
        by_cases h5 : nm = 10
        case pos =>
          have HF : Hid (¬ (tag = ⟨#[77, 83, 72]⟩ ∧ nm ≠ 10 ∧ (hdMS (tag, es)).isSome = true)) := fun h => h.2.1 h5
          have h5' : (nm : Int) = 10 := by omega
          clear HG
          go_wp2
          go_ret
          exact ⟨(HR.out w3 H3.out).2.2.2.2.2, .inr ⟨HF.out, rfl, (HR.out w3 H3.out).1⟩⟩
        case neg =>
          have h5' : ¬ (nm : Int) = 10 := by omega
          go_wp2_with fail
          refine (numberWithin_any a 1 999999 _ za (by omega) (by omega) (HR.out w3 H3.out).2.2.2.2.1).mono ?_
          rintro e w5 ⟨rfl, hb5⟩
          have H5 : Hid (Below w.heap.size w w5) := H3.out.trans (hb5.mono H3.out.size)
          clear hb5 H3 ea r0 r1 r2 r3 r4 r5 r6 r7 r8 r9 r10
          cases hd : numIn a.data.toList 1 999999 with
          | none =>
            have HD : Hid (hdMS (tag, es) = none) := by show _ = none; rw [HG.out, hd]
            rw [nwV_none hd]
            clear hd HG
            go_wp2
            go_ret
            exact ⟨(HR.out w5 H5.out).2.2.2.2.2, .inr ⟨(fun h => (by have := h.2.2; rw [HD.out] at this; cases this)), rfl, (HR.out w5 H5.out).1⟩⟩
          | some v =>
            have HD : Hid (hdMS (tag, es) = some v) := by show _ = _; rw [HG.out, hd]
            rw [nwV_some hd]
            clear hd HG
            have HX := (HR.out w5 H5.out).1
            have HX : Hid _ := HX
            have hfz := frozeR HX.out
            obtain ⟨r0, r1, r2, r3, r4, r5, r6, r7, r8, r9, r10⟩ := box11R HX.out
            have hw : IntKind.i64.wrap ((at_ : Int) + 1) = (at_ : Int) + 1 := by rw [IntKind.wrap_i64]; omega
            go_wp2
            go_ret
            refine ⟨(((HR.out w5 H5.out).2.2.2.2.2.setR 9 _).setR 10 _).setR 1 _, .inl ⟨v, HTg.out, h5, HD.out, rfl, ?_⟩⟩
            exact setR1 (setR2 HX.out)
  · have HF : Hid (hdMS (tag, es) = none) := by
      show _ = none
      unfold hdMS
      split
      · rename_i a he
        exact absurd he (hno [a] rfl)
      · rfl
    clear hno
    obtain ⟨h0, p0, p1, _, _, _⟩ := HR.out w2 H2.out
    go_wp2_with fail
    refine (nextIs_any R b o gs.length C at_ ⟨#[77, 83, 72]⟩ tag Au es.length Cu _ _ _ _ _ _ _ _ _ w2 h0 hlt p0 p1).mono ?_
    rintro e w3 ⟨rfl, hb3⟩
    have H3 : Hid (Below w.heap.size w w3) := H2.out.trans (hb3.mono H2.out.size)
    clear hb3 h0 p0 p1
    cases e1 : (tag.toList == (⟨#[77, 83, 72]⟩ : ByteArray).toList)
    all_goals go_wp2
    all_goals go_ret
    all_goals exact ⟨(HR.out w3 H3.out).2.2.2.2.2, .inr ⟨(fun h => (by have := h.2.2; rw [HF.out] at this; cases this)), rfl, (HR.out w3 H3.out).1⟩⟩
end Go.Proofs.YtjnikogaleofaaaDoor
