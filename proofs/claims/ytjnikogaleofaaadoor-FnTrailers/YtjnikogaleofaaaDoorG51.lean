/- Texts of ours put together: L3I. -/
import Derived.Test.YtjnikogaleofaaaDoorG06
import Derived.Test.YtjnikogaleofaaaDoorG13
import Derived.Test.YtjnikogaleofaaaDoorG15
import Derived.Test.YtjnikogaleofaaaDoorG16
namespace Go.Proofs.YtjnikogaleofaaaDoor
open Go.ChangeShapes Go.WideShapes Go.ChangeAt Go.RowKit Go.Shelf
theorem info50d : (Tryd.prog.info? 50).map (fun i => (i.zero, i.size, i.bytes)) = some (some (.agg #[.int .i64 0, .slice none 0 0]), 2, 32) := by kernel_rfl
theorem info48d : (Tryd.prog.info? 48).map (fun i => (i.zero, i.size, i.bytes)) = some (some (.agg #[.int .i64 0, .int .i64 0, .slice none 0 0]), 3, 40) := by kernel_rfl
theorem cells3_any (w : World) (a b c : ByteArray) (g : Nat) (hg : g = w.heap.size) : ∀ (i : Nat) (t : ByteArray), [a, b, c][i]? = some t → (w.alloc (.cells #[.string a, .string b, .string c] 9)).cell? ⟨g, i, none⟩ = some (.string t) := by
  subst hg
  intro i t ht
  have h1 := World.alloc_heap_new w (.cells #[.string a, .string b, .string c] 9)
  have hi := (List.getElem?_eq_some_iff.1 ht).1
  simp at hi
  have hc : i = 0 ∨ i = 1 ∨ i = 2 := by omega
  rcases hc with rfl | rfl | rfl <;> simp at ht <;> subst ht <;> simp [go_sem]
theorem four_cells (w : World) (a b c d : ByteArray) (g : Nat) (hg : g = w.heap.size) : ∀ (i : Nat) (t : ByteArray), [a, b, c, d][i]? = some t → (w.alloc (.cells #[.string a, .string b, .string c, .string d] 9)).cell? ⟨g, i, none⟩ = some (.string t) := by
  subst hg
  intro i t ht
  have h1 := World.alloc_heap_new w (.cells #[.string a, .string b, .string c, .string d] 9)
  have hi := (List.getElem?_eq_some_iff.1 ht).1
  simp at hi
  have hc : i = 0 ∨ i = 1 ∨ i = 2 ∨ i = 3 := by omega
  rcases hc with rfl | rfl | rfl | rfl <;> simp at ht <;> subst ht <;> simp [go_sem]
theorem hp_drewL {X : World} {o : Obj} {b : Nat} (h : X.heap[b]? = some o) : X.drew.heap[b]? = some o := h
theorem undrewGL {X W : World} {row : Option Nat} (h : X.drew.grownBy W row) : X.grownBy W row := ⟨h.os, h.tape, h.output, h.size, h.block⟩
/-- One of three numbers that lie in a new block. -/
theorem three_ints {B : Nat} {w w' : World} {t : Nat} {q : Int} (hk : Keep B (w.alloc (.cells #[.int .i64 0, .int .i64 999999, .int .i64 1000000] t)) w') (h0 : 0 ≤ q) (h1 : q < 3) (hB : B < w.heap.size) : ∃ d : Int, w'.cell? ⟨w.heap.size, q.toNat, none⟩ = some (.int .i64 d) ∧ 0 ≤ d ∧ d ≤ 1000000 := by
  have hc : q = 0 ∨ q = 1 ∨ q = 2 := by omega
  rcases hc with rfl | rfl | rfl
  · exact ⟨0, hk.cell (by simp [go_sem]) (by omega), by omega, by omega⟩
  · exact ⟨999999, hk.cell (by simp [go_sem]) (by omega), by omega, by omega⟩
  · exact ⟨1000000, hk.cell (by simp [go_sem]) (by omega), by omega, by omega⟩
set_option maxRecDepth 20000 in
set_option maxHeartbeats 4000000 in
theorem l03Ix_any (B : Nat) (w : World) (hS : IsSrc B w) :
    Calls Tryd.prog 10 #[.pointer (some ⟨B, 0, none⟩)] w fun e w' => ∃ (frm tt : ByteArray) (num : Int) (v : Value) (bs : List BunV), e = .returned (.agg #[.string frm, .string tt, .int .i64 num, v]) ∧ (frm.size ≤ 100 ∧ tt.size ≤ 100 ∧ 0 ≤ num ∧ num ≤ 1000000) ∧ BdBs bs ∧ OwnWBs w.heap.size w' v bs ∧ IsSrc B w' ∧ Keep B w w' := by
  have hlt := hS.lt
  have HS : Hid (IsSrc B w) := hS
  clear hS
  go_enter Tryd.func10, Tryd.ntmps10
  go_wp2_with fail
  refine (pick_any B (w.heap.size + 1) 3 3 [⟨#[65, 67, 77, 69]⟩, ⟨#[66, 79, 76, 84]⟩, ⟨#[67, 45, 49]⟩] _ (by omega) (by omega) rfl (by omega) (cells3_any _ _ _ _ _ (by simp)) (HS.out.below (((Below.refl _ _).alloc (by omega) _).alloc (by simp; omega) _))).mono ?_
  rintro e w1 ⟨frm0, rfl, hf0, hs1, hk1⟩
  have hzf : frm0.size ≤ 100 := by
    simp only [List.mem_cons, List.not_mem_nil, or_false] at hf0
    rcases hf0 with rfl | rfl | rfl <;> decide
  clear hf0
  have hz1 := hk1.size
  simp only [World.size_alloc] at hz1
  have H1 : Hid (IsSrc B w1 ∧ Keep B w w1 ∧ w1.heap[w.heap.size]? = some (.cells #[.string ⟨#[]⟩, .string ⟨#[]⟩, .int .i64 0, .slice none 0 0] 25)) := ⟨hs1, (((Keep.refl _ _).alloc _).alloc _).trans hk1, (hk1.block w.heap.size (by simp; omega) (by omega)).trans ((Below.heap_alloc _ _ _ (by simp)).trans (World.alloc_heap_new w _))⟩
  clear hs1 hk1
  go_wp2_with fail
  refine (n_any B 60 _ (by omega) (by omega) H1.out.1).mono ?_
  rintro e w2 ⟨q2, rfl, hq20, hq21, hs2, hk2⟩
  have hz2 := hk2.size
  have hX2 : XSt B w.heap.size w2.heap.size w (w2.alloc (.cells #[.string frm0, .string ⟨#[68, 79, 67, 75]⟩, .int .i64 (1 + q2), .slice none 0 0] 25)) frm0 ⟨#[68, 79, 67, 75]⟩ (1 + q2) (.slice none 0 0) [] :=
    ⟨(H1.out.2.1.trans hk2).alloc _, hs2.below ((Below.refl _ _).alloc (by omega) _), (Below.heap_alloc _ _ _ (by omega)).trans ((hk2.block w.heap.size (by omega) (by omega)).trans H1.out.2.2), World.alloc_heap_new w2 _, OwnWBs.nil _ _, ⟨by simp, fun x h => by cases h⟩, Nat.le_refl _, by omega, hlt, hzf, by decide, by omega, by omega⟩
  have HX : Hid (XSt B w.heap.size w2.heap.size w (w2.alloc (.cells #[.string frm0, .string ⟨#[68, 79, 67, 75]⟩, .int .i64 (1 + q2), .slice none 0 0] 25)) frm0 ⟨#[68, 79, 67, 75]⟩ (1 + q2) (.slice none 0 0) []) := hX2
  clear hs2 hk2 hX2 H1
  go_wp2_with fail
  refine (n_any B 2 _ (by omega) (by omega) HX.out.src).mono ?_
  rintro e w3 ⟨q3, rfl, hq30, hq31, hs3, hk3⟩
  have HX3 : Hid (XSt B w.heap.size w2.heap.size w w3 frm0 ⟨#[68, 79, 67, 75]⟩ (1 + q2) (.slice none 0 0) []) := HX.out.keep hk3 hs3
  clear hs3 hk3 HX
  obtain ⟨n3, rfl⟩ : ∃ n3 : Nat, q3 = (n3 : Int) := ⟨q3.toNat, by omega⟩
  obtain ⟨num0, hnum⟩ : ∃ num0 : Int, num0 = 1 + q2 := ⟨_, rfl⟩
  go_upto_block 0 with fail
  go_cut [4, 5, 6, 7, 8, 9] from 20 to 79 (fun _ _ _ _ _ _ wx => ∃ (v : Value) (bs : List BunV), XSt B w.heap.size w2.heap.size w wx frm0 ⟨#[68, 79, 67, 75]⟩ (1 + q2) v bs ∧ SepW bs ∧ 1 ≤ bs.length ∧ bs.length ≤ 2)
  case first =>
    go_wp2_with fail
    go_loopw [4, 5, 6, 7, 8, 9] (fun c _ _ _ _ _ wr => ∃ (m : Nat) (v : Value) (bs : List BunV), c = .int .i64 (m : Int) ∧ bs.length + m ≤ 2 ∧ 1 ≤ bs.length + m ∧ SepW bs ∧ XSt B w.heap.size w2.heap.size w wr frm0 ⟨#[68, 79, 67, 75]⟩ (1 + q2) v bs) (fun c _ _ _ _ _ _ => (intOf c).toNat)
    case atStart => exact ⟨1 + n3, _, _, by go_num, by simp; omega, by simp, fun i j x y _ h => by simp at h, HX3.out⟩
    case round =>
      obtain ⟨m, v, bs, rfl, hm, hm1, hsep, hX⟩ := hrel
      clear HX3
      rcases Nat.eq_zero_or_pos m with rfl | hm0
      · have HX : Hid (XSt B w.heap.size w2.heap.size w wr frm0 ⟨#[68, 79, 67, 75]⟩ (1 + q2) v bs ∧ SepW bs) := ⟨hX, hsep⟩
        clear hX hsep
        go_wp2_with fail
        go_meet
        case rel => exact ⟨v, bs, HX.out.1, HX.out.2, by omega, by omega⟩
      · have hm1' : 0 < (m : Int) := by omega
        have HX : Hid (XSt B w.heap.size w2.heap.size w wr frm0 ⟨#[68, 79, 67, 75]⟩ (1 + q2) v bs ∧ SepW bs) := ⟨hX, hsep⟩
        have hltX := hX.lt
        have hrX := hX.rx
        clear hX hsep
        obtain ⟨wo, hwo⟩ : ∃ wo, wo = wr := ⟨_, rfl⟩
        subst hwo
        go_wp2_with fail
        refine (n_any B 7 _ (by omega) (by omega) HX.out.1.src).mono ?_
        rintro e w6 ⟨q6, rfl, hq60, hq61, hs6, hk6⟩
        have H6 : Hid (IsSrc B w6 ∧ Keep B wo w6) := ⟨hs6, hk6⟩
        have hz6 := hk6.size
        clear hs6 hk6
        go_wp2_with fail
        refine (n_any B 99 _ (by omega) (by omega) H6.out.1).mono ?_
        rintro e w7 ⟨q7, rfl, hq70, hq71, hs7, hk7⟩
        have hz7 := hk7.size
        have HB : Hid (BSt B w7.heap.size wo (w7.alloc (.cells #[.int .i64 (1 + q6), .int .i64 (1 + q7), .slice none 0 0] 48)) (1 + q6) (1 + q7) (.slice none 0 0) []) :=
          ⟨(H6.out.2.trans hk7).alloc _, hs7.below ((Below.refl _ _).alloc (by omega) _), World.alloc_heap_new w7 _, OwnWM.nil _ _, (fun x h => by cases h), by omega, by omega⟩
        clear hs7 hk7 H6
        go_wp2_with fail
        refine (n_any B 2 _ (by omega) (by omega) HB.out.src).mono ?_
        rintro e w8 ⟨q8, rfl, hq80, hq81, hs8, hk8⟩
        have HB8 : Hid (BSt B w7.heap.size wo w8 (1 + q6) (1 + q7) (.slice none 0 0) []) := HB.out.keep hk8 hs8
        clear hs8 hk8 HB
        obtain ⟨n8, rfl⟩ : ∃ n8 : Nat, q8 = (n8 : Int) := ⟨q8.toNat, by omega⟩
        go_wp2_with fail
        go_loopw [6, 7, 8, 9] (fun c _ _ _ wr => ∃ (m2 : Nat) (mv : Value) (ms : List MsgV), c = .int .i64 (m2 : Int) ∧ ms.length + m2 ≤ 2 ∧ BSt B w7.heap.size wo wr (1 + q6) (1 + q7) mv ms) (fun c _ _ _ _ => (intOf c).toNat)
        case atStart => exact ⟨1 + n8, _, _, by go_num, by simp; omega, HB8.out⟩
        case round =>
          obtain ⟨m2, mv, ms, rfl, hm2, hB⟩ := hrel
          clear HB8
          have hlB := hB.lt
          have hgeB := hB.ge
          rcases Nat.eq_zero_or_pos m2 with rfl | hm20
          · have hXr := HX.out.1.keep hB.kp hB.src
            obtain ⟨Av, Cv, hv⟩ := row_slice_any hXr.own.row
            subst hv
            obtain ⟨Am, Cm, hmv⟩ := row_slice_any hB.own.row
            subst hmv
            have hxx := hXr.x
            have hbb := hB.b
            have c0 : wr.cell? ⟨w2.heap.size, 3, none⟩ = some (.slice Av bs.length Cv) := by simp [World.cell?, hxx]
            have b0 : wr.cell? ⟨w7.heap.size, 0, none⟩ = some (.int .i64 (1 + q6)) := by simp [World.cell?, hbb]
            have b1 : wr.cell? ⟨w7.heap.size, 1, none⟩ = some (.int .i64 (1 + q7)) := by simp [World.cell?, hbb]
            have b2 : wr.cell? ⟨w7.heap.size, 2, none⟩ = some (.slice Am ms.length Cm) := by simp [World.cell?, hbb]
            obtain ⟨j0, hj0i, hi0, hi1, hi2⟩ := info_parts info48d
            have hmx : bs.length + 1 ≤ maxLen := by unfold maxLen; omega
            have hMs : Hid (BdMs ms) := ⟨by omega, hB.bd⟩
            have hsepP : Hid (SepW (bs ++ [((⟨1 + q6, 1 + q7, ms.map (·.1)⟩ : Bun), .slice Am ms.length Cm, ms)])) :=
              HX.out.2.push (N := wo.heap.size) (fun x hx g hg => ((HX.out.1.own.msgs x hx).1.row.lt g hg).2) fun g hg => by have := (hB.own.row.lt g hg).1; omega
            have HR : Hid (XSt B w.heap.size w2.heap.size w wr frm0 ⟨#[68, 79, 67, 75]⟩ (1 + q2) (.slice Av bs.length Cv) bs ∧ OwnWM (w2.heap.size + 1) wr (.slice Am ms.length Cm) ms) := ⟨hXr, hB.own.mono (by omega)⟩
            have tok1 : True := trivial
            clear hB hXr hxx hbb HX
            go_wp2_with (at_builtin; have _t := tok1; refine wpList_append_own _ rfl _ _ 23 rfl (w2.heap.size + 1) 48 j0 (.agg #[.int .i64 0, .int .i64 0, .slice none 0 0]) 3 40 Tryd.underlying23 hj0i hi0 hi1 hi2 rfl (by decide) _ _ _ rfl (HR.out.1.own.row.alloc _) ⟨_, 0, none⟩ 1 1 [.int .i64 (1 + q6), .int .i64 (1 + q7), .slice Am ms.length Cm] rfl rfl (cell_three_to _ _ _ _ _ _ (by simp)) (by simp [Value.oneCell']) hmx (by omega) (by simp; omega) ?_; intro u' w4 hown' hgrow _; obtain ⟨A4, C4, hu'⟩ := row_slice_any hown'; subst hu'; obtain ⟨⟨z4, hz4⟩, hf4, hX4⟩ := HR.out.1.push (b := ⟨1 + q6, 1 + q7, ms.map (·.1)⟩) HR.out.2 rfl (by omega) ⟨hMs.out, by dsimp only; omega, by dsimp only; omega, by dsimp only; omega, by dsimp only; omega⟩ hgrow hown'; have HX4 : Hid (XSt B w.heap.size w2.heap.size w (w4.setCell ⟨w2.heap.size, 3, none⟩ (.slice A4 (bs.length + 1) C4)) frm0 ⟨#[68, 79, 67, 75]⟩ (1 + q2) (.slice A4 (bs.length + 1) C4) (bs ++ [(⟨1 + q6, 1 + q7, ms.map (·.1)⟩, .slice Am ms.length Cm, ms)])) := hX4; have hw4 := cell_lt hz4; clear tok1 hown' hgrow hX4)
            go_roundw
            case rel => exact ⟨m - 1, _, _, by go_num, by simp; omega, by simp; omega, hsepP.out, HX4.out⟩
            case measure => simp [intOf]; omega
          · have hm2' : 0 < (m2 : Int) := by omega
            have HB : Hid (BSt B w7.heap.size wo wr (1 + q6) (1 + q7) mv ms) := hB
            clear hB
            obtain ⟨wm, hwm⟩ : ∃ wm, wm = wr := ⟨_, rfl⟩
            subst hwm
            go_wp2_with fail
            refine (n_any B 99 _ (by omega) (by omega) HB.out.src).mono ?_
            rintro e w9 ⟨q9, rfl, hq90, hq91, hs9, hk9⟩
            have hz9 := hk9.size
            have HM : Hid (MSt B w9.heap.size wm (w9.alloc (.cells #[.int .i64 (1 + q9), .slice none 0 0] 50)) (1 + q9) (.slice none 0 0) [] []) :=
              ⟨hk9.alloc _, hs9.below ((Below.refl _ _).alloc (by omega) _), World.alloc_heap_new w9 _, OwnWL.nil _ _, (fun x h => by cases h), hz9, by omega⟩
            clear hs9 hk9
            go_wp2_with fail
            refine (n_any B 4 _ (by omega) (by omega) HM.out.src).mono ?_
            rintro e w10 ⟨q10, rfl, hq100, hq101, hs10, hk10⟩
            have HM10 : Hid (MSt B w9.heap.size wm w10 (1 + q9) (.slice none 0 0) [] []) := HM.out.keep hk10 hs10
            clear hs10 hk10 HM
            obtain ⟨n10, rfl⟩ : ∃ n10 : Nat, q10 = (n10 : Int) := ⟨q10.toNat, by omega⟩
            go_wp2_with fail
            go_loopw [8, 9] (fun c _ wr => ∃ (j : Nat) (gv : Value) (ps : List (Value × List Value)) (gs : List Seg), c = .int .i64 (j : Int) ∧ gs.length + j ≤ 3 ∧ MSt B w9.heap.size wm wr (1 + q9) gv ps gs) (fun c _ _ => (intOf c).toNat)
            case atStart => exact ⟨n10, _, _, _, by go_num, by simp; omega, HM10.out⟩
            case round =>
              obtain ⟨j, gv, ps, gs, rfl, hj, hM⟩ := hrel
              clear HM10
              have hlM := hM.lt
              rcases Nat.eq_zero_or_pos j with rfl | hj0
              · have hBr := HB.out.keep hM.kp hM.src
                obtain ⟨Am, Cm, hmv⟩ := row_slice_any hBr.own.row
                subst hmv
                obtain ⟨Ag, Cg, hgv⟩ := row_slice_any hM.own.row
                subst hgv
                have hmm := hM.m
                have hbb := hBr.b
                have c0 : wr.cell? ⟨w7.heap.size, 2, none⟩ = some (.slice Am ms.length Cm) := by simp [World.cell?, hbb]
                have b0 : wr.cell? ⟨w9.heap.size, 0, none⟩ = some (.int .i64 (1 + q9)) := by simp [World.cell?, hmm]
                have b1 : wr.cell? ⟨w9.heap.size, 1, none⟩ = some (.slice Ag gs.length Cg) := by simp [World.cell?, hmm]
                obtain ⟨j0, hj0i, hi0, hi1, hi2⟩ := info_parts info50d
                have hmx : ms.length + 1 ≤ maxLen := by unfold maxLen; omega
                have HR : Hid (BSt B w7.heap.size wo wr (1 + q6) (1 + q7) (.slice Am ms.length Cm) ms ∧ OwnWL (w7.heap.size + 1) wr (.slice Ag gs.length Cg) ps gs ∧ BdGs gs) := ⟨hBr, hM.own.mono (by omega), hM.bd⟩
                have tok1 : True := trivial
                clear hBr hM hmm hbb HB
                go_wp2_with (at_builtin; have _t := tok1; refine wpList_append_own _ rfl _ _ 46 rfl (w7.heap.size + 1) 50 j0 (.agg #[.int .i64 0, .slice none 0 0]) 2 32 Tryd.underlying46 hj0i hi0 hi1 hi2 rfl (by decide) _ _ _ rfl (HR.out.1.own.row.alloc _) ⟨_, 0, none⟩ 1 1 [.int .i64 (1 + q9), .slice Ag gs.length Cg] rfl rfl (cell_two_to _ _ _ _ _ (by simp)) (by simp [Value.oneCell']) hmx (by omega) (by simp; omega) ?_; intro u' w4 hown' hgrow _; obtain ⟨A4, C4, hu'⟩ := row_slice_any hown'; subst hu'; obtain ⟨⟨z4, hz4⟩, hf4, hB4⟩ := HR.out.1.push (m := ⟨1 + q9, gs⟩) HR.out.2.1 ⟨HR.out.2.2, by dsimp only; omega, by dsimp only; omega, by dsimp only; omega⟩ hgrow hown'; have HB4 : Hid (BSt B w7.heap.size wo (w4.setCell ⟨w7.heap.size, 2, none⟩ (.slice A4 (ms.length + 1) C4)) (1 + q6) (1 + q7) (.slice A4 (ms.length + 1) C4) (ms ++ [(⟨1 + q9, gs⟩, .slice Ag gs.length Cg, ps)])) := hB4; have hw4 := cell_lt hz4; clear tok1 hown' hgrow hB4)
                go_roundw
                case rel => exact ⟨m2 - 1, _, _, by go_num, by simp; omega, HB4.out⟩
                case measure => simp [intOf]; omega
              · have hj0' : 0 < (j : Int) := by omega
                obtain ⟨Ag, Cg, hgv⟩ := row_slice_any hM.own.row
                subst hgv
                have HM : Hid (MSt B w9.heap.size wm wr (1 + q9) (.slice Ag gs.length Cg) ps gs) := hM
                clear hM
                go_wp2_with fail
                refine (l02Segment_any B _ HM.out.src).mono ?_
                rintro e w11 ⟨tag, vs, vals, es, rfl, htz, hel, hO, hBd, hs11, hk11⟩
                obtain ⟨Av, Nv, Cv, hv⟩ := row_slice hO.row
                subst hv
                have hz11 := hk11.size
                have hbx : Below w11.heap.size w11 (w11.alloc (.cells #[.string tag, .slice Av Nv Cv] 33)) := (Below.refl _ _).alloc (Nat.le_refl _) _
                have H12 : Hid (MSt B w9.heap.size wm (w11.alloc (.cells #[.string tag, .slice Av Nv Cv] 33)) (1 + q9) (.slice Ag gs.length Cg) ps gs ∧ OwnW (w9.heap.size + 1) (w11.alloc (.cells #[.string tag, .slice Av Nv Cv] 33)) (.slice Av Nv Cv) vals es ∧ BdW es) := ⟨(HM.out.keep hk11 hs11).below hbx, (hO.mono (by omega)).below hbx, hBd⟩
                have c0 : (w11.alloc (.cells #[.string tag, .slice Av Nv Cv] 33)).cell? ⟨w11.heap.size, 0, none⟩ = some (.string tag) := by simp [go_sem]
                have c1 : (w11.alloc (.cells #[.string tag, .slice Av Nv Cv] 33)).cell? ⟨w11.heap.size, 1, none⟩ = some (.slice Av Nv Cv) := by simp [go_sem]
                have hz12 : (w11.alloc (.cells #[.string tag, .slice Av Nv Cv] 33)).heap.size = w11.heap.size + 1 := by simp
                clear hO hBd hs11 hk11 HM hbx
                go_upto_region 14 with fail
                generalize (w11.alloc (.cells #[.string tag, .slice Av Nv Cv] 33)) = W12 at *
                go_cut [61] from 50 to 61 (fun c wx => ∃ b : Bool, c = .bool b ∧ MSt B w9.heap.size wm wx (1 + q9) (.slice Ag gs.length Cg) ps gs ∧ OwnW (w9.heap.size + 1) wx (.slice Av Nv Cv) vals es ∧ wx.cell? ⟨w11.heap.size, 0, none⟩ = some (.string tag) ∧ wx.cell? ⟨w11.heap.size, 1, none⟩ = some (.slice Av Nv Cv))
                case first =>
                  go_wp2_with fail
                  refine (right_seg_spec tag _ es _ (H12.out.2.1.rowE H12.out.2.2 (by omega)) (bdE_of H12.out.2.2 (by omega))).mono ?_
                  rintro e w13 ⟨rfl, hb13⟩
                  have d0 := (hb13.cell (cell_lt c0)).trans c0
                  have d1 := (hb13.cell (cell_lt c1)).trans c1
                  have hz13 := hb13.size
                  have H13 : Hid (MSt B w9.heap.size wm w13 (1 + q9) (.slice Ag gs.length Cg) ps gs ∧ OwnW (w9.heap.size + 1) w13 (.slice Av Nv Cv) vals es) := ⟨H12.out.1.below hb13, H12.out.2.1.below hb13⟩
                  clear hb13 c0 c1
                  cases hrg : rightG tag es
                  · go_wp2_with fail
                    refine (one_any B 40 _ (by omega) (by omega) H13.out.1.src).mono ?_
                    rintro e w14 ⟨b14, rfl, hs14, hk14⟩
                    have e0 := hk14.cell d0 (by omega)
                    have e1 := hk14.cell d1 (by omega)
                    have H14 : Hid (MSt B w9.heap.size wm w14 (1 + q9) (.slice Ag gs.length Cg) ps gs ∧ OwnW (w9.heap.size + 1) w14 (.slice Av Nv Cv) vals es) := ⟨H13.out.1.keep hk14 hs14, H13.out.2.keep hk14 (by omega)⟩
                    clear hs14 hk14
                    go_wp2_with fail
                    go_meet
                    case rel => exact ⟨b14, rfl, H14.out.1, H14.out.2, e0, e1⟩
                  · go_wp2_with fail
                    refine (l03Own_any tag _).mono ?_
                    rintro e w13 ⟨rfl, rfl⟩
                    cases hown : ownT tag
                    · go_wp2_with fail
                      go_meet
                      case rel => exact ⟨true, rfl, H13.out.1, H13.out.2, d0, d1⟩
                    · go_wp2_with fail
                      refine (one_any B 40 _ (by omega) (by omega) H13.out.1.src).mono ?_
                      rintro e w14 ⟨b14, rfl, hs14, hk14⟩
                      have e0 := hk14.cell d0 (by omega)
                      have e1 := hk14.cell d1 (by omega)
                      have H14 : Hid (MSt B w9.heap.size wm w14 (1 + q9) (.slice Ag gs.length Cg) ps gs ∧ OwnW (w9.heap.size + 1) w14 (.slice Av Nv Cv) vals es) := ⟨H13.out.1.keep hk14 hs14, H13.out.2.keep hk14 (by omega)⟩
                      clear hs14 hk14
                      go_wp2_with fail
                      go_meet
                      case rel => exact ⟨b14, rfl, H14.out.1, H14.out.2, e0, e1⟩
                case rest =>
                  obtain ⟨b, rfl, hM, hO, d0, d1⟩ := hcut
                  have hBd : Hid (BdW es) := H12.out.2.2
                  clear H12 c0 c1
                  have hlM2 := hM.lt
                  have hmm := hM.m
                  have m1 : wc.cell? ⟨w9.heap.size, 1, none⟩ = some (.slice Ag gs.length Cg) := by simp [World.cell?, hmm]
                  have HM : Hid (MSt B w9.heap.size wm wc (1 + q9) (.slice Ag gs.length Cg) ps gs ∧ OwnW (w9.heap.size + 1) wc (.slice Av Nv Cv) vals es) := ⟨hM, hO⟩
                  clear hM hO hmm
                  cases b
                  · go_wp2
                    go_roundw
                    case rel => exact ⟨j - 1, _, _, _, by go_num, by omega, HM.out.1⟩
                    case measure => simp [intOf]; omega
                  · obtain ⟨j0, hj0i, hi0, hi1, hi2⟩ := info_parts infoSg
                    have hmx : gs.length + 1 ≤ maxLen := by unfold maxLen; omega
                    have tok1 : True := trivial
                    go_wp2_with (at_builtin; have _t := tok1; refine wpList_append_own _ rfl _ _ 28 rfl (w9.heap.size + 1) 33 j0 (.agg #[.string ⟨#[]⟩, .slice none 0 0]) 2 40 Tryd.underlying28 hj0i hi0 hi1 hi2 rfl (by decide) _ _ _ rfl (HM.out.1.own.row.alloc _) ⟨_, 0, none⟩ 1 1 [.string tag, .slice Av Nv Cv] rfl rfl (cell_two_to _ _ _ _ _ (by simp)) (by simp [Value.oneCell']) hmx (by omega) (by simp; omega) ?_; intro u' w4 hown' hgrow _; obtain ⟨A4, C4, hu'⟩ := row_slice_any hown'; subst hu'; obtain ⟨⟨z4, hz4⟩, hf4, hM4⟩ := HM.out.1.push (g := (tag, es)) HM.out.2 ⟨htz, hel, hBd.out⟩ hgrow hown'; have HM4 : Hid (MSt B w9.heap.size wm (w4.setCell ⟨w9.heap.size, 1, none⟩ (.slice A4 (gs.length + 1) C4)) (1 + q9) (.slice A4 (gs.length + 1) C4) (ps ++ [(.slice Av Nv Cv, vals)]) (gs ++ [(tag, es)])) := hM4; have hw4 := cell_lt hz4; clear tok1 hown' hgrow hM4)
                    go_roundw
                    case rel => exact ⟨j - 1, _, _, _, by go_num, by simp; omega, HM4.out⟩
                    case measure => simp [intOf]; omega
  case rest =>
    obtain ⟨v, bs, hX, hsep, hb1, hb2⟩ := hcut
    have hltX := hX.lt
    have hrX := hX.rx
    have HX : Hid (XSt B w.heap.size w2.heap.size w wc frm0 ⟨#[68, 79, 67, 75]⟩ (1 + q2) v bs ∧ SepW bs) := ⟨hX, hsep⟩
    clear hX hsep HX3
    go_wp2_with fail
    refine (one_any B 20 _ (by omega) (by omega) HX.out.1.src).mono ?_
    rintro e w4 ⟨b4, rfl, hs4, hk4⟩
    have HX4 : Hid (XSt B w.heap.size w2.heap.size w w4 frm0 ⟨#[68, 79, 67, 75]⟩ (1 + q2) v bs ∧ SepW bs) := ⟨HX.out.1.keep hk4 hs4, HX.out.2⟩
    have hz4 := hk4.size
    clear hs4 hk4 HX
    go_upto_if 81 with fail
    go_cut [82] from 82 to 149 (fun _ wx => ∃ (frm : ByteArray) (num : Int) (v : Value) (bs : List BunV), XSt B w.heap.size w2.heap.size w wx frm ⟨#[68, 79, 67, 75]⟩ num v bs)
    case first =>
      cases b4
      · go_wp2_with fail
        go_meet
        case rel => exact ⟨_, _, _, _, HX4.out.1⟩
      · go_wp2_with fail
        refine (n_any B 6 _ (by omega) (by omega) HX4.out.1.src).mono ?_
        rintro e w5 ⟨q5, rfl, hq50, hq51, hs5, hk5⟩
        have hX5 := HX4.out.1.keep hk5 hs5
        have hz5 := hk5.size
        have hsep := HX4.out.2
        clear hs5 hk5 HX4
        obtain ⟨b, mv, ms, r, hbs⟩ : ∃ b mv ms r, bs = (b, mv, ms) :: r := by
          cases bs with
          | nil => simp at hb1
          | cons x r => exact ⟨x.1, x.2.1, x.2.2, r, rfl⟩
        subst hbs
        obtain ⟨g, C, hv, hgX, hcur, g0, g1, g2, gf⟩ := hX5.own.at
        subst hv
        have hxx := hX5.x
        have x0 : w5.cell? ⟨w2.heap.size, 0, none⟩ = some (.string frm0) := by simp [World.cell?, hxx]
        have x2 : w5.cell? ⟨w2.heap.size, 2, none⟩ = some (.int .i64 (1 + q2)) := by simp [World.cell?, hxx]
        have x3 : w5.cell? ⟨w2.heap.size, 3, none⟩ = some (.slice (some ⟨g, 0, none⟩) ((b, mv, ms) :: r).length C) := by simp [World.cell?, hxx]
        have xf : ∀ o, w5.frozen? ⟨w2.heap.size, o, none⟩ = false := fun o => by simp [World.frozen?, hxx]
        have HX5 : Hid (XSt B w.heap.size w2.heap.size w w5 frm0 ⟨#[68, 79, 67, 75]⟩ (1 + q2) (.slice (some ⟨g, 0, none⟩) ((b, mv, ms) :: r).length C) ((b, mv, ms) :: r) ∧ SepW ((b, mv, ms) :: r) ∧ ∃ cur, w5.heap[g]? = some (.cells cur 48)) := ⟨hX5, hsep, hcur⟩
        have hl5 := hX5.lt
        have hlg := cell_lt g0
        clear hX5 hsep hxx hcur
        have hq : q5 = 0 ∨ q5 = 1 ∨ q5 = 2 ∨ q5 = 3 ∨ q5 = 4 ∨ q5 = 5 := by omega
        rcases hq with rfl | rfl | rfl | rfl | rfl | rfl
        · go_wp2_with fail
          refine (pick_any B w5.heap.size 4 4 [⟨#[]⟩, ⟨#[97]⟩, ⟨#[65, 66, 67, 68, 69, 70, 71, 72, 73, 74, 75, 76, 77]⟩, ⟨#[65, 32, 66]⟩] _ (by omega) (by omega) rfl (by omega) (four_cells _ _ _ _ _ _ (by simp)) (HX5.out.1.src.below ((Below.refl _ _).alloc (by omega) _))).mono ?_
          rintro e w6 ⟨frm1, rfl, hf1, hs6, hk6⟩
          have hzf1 : frm1.size ≤ 100 := by
            simp only [List.mem_cons, List.not_mem_nil, or_false] at hf1
            rcases hf1 with rfl | rfl | rfl | rfl <;> decide
          have hX6 := HX5.out.1.keep (((Keep.refl _ _).alloc _).trans hk6) hs6
          have hxx := hX6.x
          have y0 : w6.cell? ⟨w2.heap.size, 0, none⟩ = some (.string frm0) := by simp [World.cell?, hxx]
          have yf : ∀ o, w6.frozen? ⟨w2.heap.size, o, none⟩ = false := fun o => by simp [World.frozen?, hxx]
          have HX6 : Hid (XSt B w.heap.size w2.heap.size w (w6.setCell ⟨w2.heap.size, 0, none⟩ (.string frm1)) frm1 ⟨#[68, 79, 67, 75]⟩ (1 + q2) (.slice (some ⟨g, 0, none⟩) ((b, mv, ms) :: r).length C) ((b, mv, ms) :: r)) := hX6.setFrm frm1 hzf1
          clear hf1 hs6 hk6 hX6 hxx x0 x2 x3 xf g0 g1 g2 gf
          go_wp2_with fail
          go_meet
          case rel => exact ⟨_, _, _, _, HX6.out⟩
        · go_wp2_with fail
          refine (n_any B 3 _ (by omega) (by omega) (HX5.out.1.src.below ((Below.refl _ _).alloc (by omega) _))).mono ?_
          rintro e w6 ⟨q6, rfl, hq60, hq61, hs6, hk6⟩
          have hX6 := HX5.out.1.keep (((Keep.refl _ _).alloc _).trans hk6) hs6
          have hxx := hX6.x
          obtain ⟨d, hd, hd0, hd1⟩ := three_ints hk6 hq60 hq61 (by omega)
          have y2 : w6.cell? ⟨w2.heap.size, 2, none⟩ = some (.int .i64 (1 + q2)) := by simp [World.cell?, hxx]
          have yf : ∀ o, w6.frozen? ⟨w2.heap.size, o, none⟩ = false := fun o => by simp [World.frozen?, hxx]
          have HX6 : Hid (XSt B w.heap.size w2.heap.size w (w6.setCell ⟨w2.heap.size, 2, none⟩ (.int .i64 d)) frm0 ⟨#[68, 79, 67, 75]⟩ d (.slice (some ⟨g, 0, none⟩) ((b, mv, ms) :: r).length C) ((b, mv, ms) :: r)) := hX6.setNum d hd0 hd1
          clear hs6 hk6 hX6 hxx x0 x2 x3 xf g0 g1 g2 gf
          go_wp2_with fail
          go_meet
          case rel => exact ⟨_, _, _, _, HX6.out⟩
        · have HX6 : Hid (XSt B w.heap.size w2.heap.size w (w5.setCell ⟨w2.heap.size, 3, none⟩ (.slice none 0 0)) frm0 ⟨#[68, 79, 67, 75]⟩ (1 + q2) (.slice none 0 0) []) := HX5.out.1.setNil
          go_wp2_with fail
          go_meet
          case rel => exact ⟨_, _, _, _, HX6.out⟩
        · go_wp2_with fail
          go_region_law (first | (go_simp; go_at_call 24; refine (n_any B 2 _ (by omega) (by omega) (HX5.out.1.src.below (Below.refl _ _).drew)).mono ?_; rintro e w6 ⟨q6, rfl, hq60, hq61, hs6, hk6⟩; have hX6 := HX5.out.1.keep ((Keep.refl _ _).drew.trans hk6) hs6; have y3 := hk6.cell (show w5.drew.cell? ⟨w2.heap.size, 3, none⟩ = _ from x3) (by omega); have z0 := hk6.cell (show w5.drew.cell? ⟨g, 0, none⟩ = _ from g0) (by omega); have zf : ∀ o, w6.frozen? ⟨g, o, none⟩ = false := fun o => (hk6.frozen (show g < w5.drew.heap.size from hlg) o (by omega)).trans (gf o); have zc : ∃ cur, w6.heap[g]? = some (.cells cur 48) := (by obtain ⟨cur, hc⟩ := HX5.out.2.2; exact ⟨cur, (hk6.block g (show g < w5.drew.heap.size from hlg) (by omega)).trans hc⟩); have HX6 : Hid (XSt B w.heap.size w2.heap.size w w6 frm0 ⟨#[68, 79, 67, 75]⟩ (1 + q2) (.slice (some ⟨g, 0, none⟩) ((b, mv, ms) :: r).length C) ((b, mv, ms) :: r) ∧ ∃ cur, w6.heap[g]? = some (.cells cur 48)) := ⟨hX6, zc⟩; clear hX6 zc hs6 hk6; try dsimp only) | fail)
          all_goals go_wp2_with fail
          all_goals go_meet
          all_goals exact ⟨_, _, _, _, HX6.out.1.setKind hgX HX6.out.2 _ (by rw [IntKind.wrap_i64]; omega) (by rw [IntKind.wrap_i64]; omega)⟩
        · go_wp2_with fail
          go_loopw [134] (fun _ wr => ∃ (v : Value) (b : Bun) (mv : Value) (ms : List MsgV) (r : List BunV), XSt B w.heap.size w2.heap.size w wr frm0 ⟨#[68, 79, 67, 75]⟩ (1 + q2) v ((b, mv, ms) :: r)) (fun _ wr => 6 - lenX wr w2.heap.size 3)
          case atStart => exact ⟨_, b, mv, ms, r, HX5.out.1⟩
          case round =>
            clear HX5 x0 x2 x3 xf g0 g1 g2 gf
            obtain ⟨v, b, mv, ms, r, hX⟩ := hrel
            obtain ⟨g, C, hv, hgX, hcur, g0, g1, g2, gf⟩ := hX.own.at
            subst hv
            obtain ⟨Am, Cm, hmv⟩ := row_slice_any (hX.own.msgs (b, mv, ms) List.mem_cons_self).1.row
            dsimp only at hmv g0 g1 g2
            subst hmv
            have hxx := hX.x
            have x3 : wr.cell? ⟨w2.heap.size, 3, none⟩ = some (.slice (some ⟨g, 0, none⟩) ((b, .slice Am ms.length Cm, ms) :: r).length C) := by simp [World.cell?, hxx]
            have hme : lenX wr w2.heap.size 3 = ((b, .slice Am ms.length Cm, ms) :: r).length := by simp only [lenX, x3]
            have HX : Hid (XSt B w.heap.size w2.heap.size w wr frm0 ⟨#[68, 79, 67, 75]⟩ (1 + q2) (.slice (some ⟨g, 0, none⟩) ((b, .slice Am ms.length Cm, ms) :: r).length C) ((b, .slice Am ms.length Cm, ms) :: r)) := hX
            have Hme : Hid (lenX wr w2.heap.size 3 = ((b, .slice Am ms.length Cm, ms) :: r).length) := hme
            have hlr := hX.lt
            have hlg := cell_lt g0
            clear hX hxx hcur hme
            go_wp2_with fail
            have x3d : wr.drew.cell? ⟨w2.heap.size, 3, none⟩ = some (.slice (some ⟨g, 0, none⟩) ((b, .slice Am ms.length Cm, ms) :: r).length C) := x3
            go_region_held3 (fun W => W.cell? ⟨w2.heap.size, 3, none⟩ = some (.slice (some ⟨g, 0, none⟩) ((b, .slice Am ms.length Cm, ms) :: r).length C)) (go_keep) (first | (go_at_call 24; refine (n_any B 2 _ (by omega) (by omega) (by first | exact HX.out.src | exact HX.out.src.below (Below.refl _ _).drew)).mono ?_; rintro e w6 ⟨q6, rfl, hq60, hq61, hs6, hk6'⟩; have hk6 : Keep B wr w6 := (by first | exact hk6' | exact (Keep.refl _ _).drew.trans hk6'); have hX6 := HX.out.keep hk6 hs6; have y3 := hk6.cell x3 (by omega); have y3d : w6.drew.cell? ⟨w2.heap.size, 3, none⟩ = _ := y3; have z0 := hk6.cell g0 (by omega); have z1 := hk6.cell g1 (by omega); have z2 := hk6.cell g2 (by omega); have HX6 : Hid (XSt B w.heap.size w2.heap.size w w6 frm0 ⟨#[68, 79, 67, 75]⟩ (1 + q2) (.slice (some ⟨g, 0, none⟩) ((b, .slice Am ms.length Cm, ms) :: r).length C) ((b, .slice Am ms.length Cm, ms) :: r)) := hX6; have hl6 : wr.heap.size ≤ w6.heap.size := hk6.size; clear hX6 hs6 hk6 hk6'; try dsimp only) | fail)
            all_goals rename_i hHeld
            all_goals clear hHeld
            all_goals
              have hw5 : IntKind.i64.wrap (5 + q6) = 5 + q6 := by rw [IntKind.wrap_i64]; omega
              by_cases hc : (r.length : Int) + 1 < 5 + q6
              · have hcl : ((b, .slice Am ms.length Cm, ms) :: r).length ≤ 5 := by rw [List.length_cons]; omega
                go_wp2_with fail
                obtain ⟨j0, hj0i, hi0, hi1, hi2⟩ := info_parts info48d
                have hmx : ((b, .slice Am ms.length Cm, ms) :: r).length + 1 ≤ maxLen := by unfold maxLen; omega
                have a3 : (w6.alloc (.cells #[.int .i64 b.kind, .int .i64 b.num, .slice Am ms.length Cm] 48)).cell? ⟨w2.heap.size, 3, none⟩ = some (.slice (some ⟨g, 0, none⟩) ((b, .slice Am ms.length Cm, ms) :: r).length C) := (((Below.refl _ _).alloc (Nat.le_refl _) _).cell (p := ⟨w2.heap.size, 3, none⟩) (cell_lt y3)).trans y3
                have hX2 : w2.heap.size + 1 ≤ w6.heap.size := by omega
                go_region_law (first | (refine step_append_lies _ (by rfl) _ _ _ (by rfl) (w2.heap.size + 1) 48 j0 _ 3 40 Tryd.underlying23 hj0i hi0 hi1 hi2 rfl (by omega) (.slice (some ⟨g, 0, none⟩) ((b, .slice Am ms.length Cm, ms) :: r).length C) ((b, .slice Am ms.length Cm, ms) :: r).length (((b, .slice Am ms.length Cm, ms) :: r).flatMap clBv) (by rfl) (HX6.out.own.row.alloc _).drew ⟨w6.heap.size, 0, none⟩ 1 1 [.int .i64 b.kind, .int .i64 b.num, .slice Am ms.length Cm] (by rfl) (by rfl) (World.news_of_block (cs := #[.int .i64 b.kind, .int .i64 b.num, .slice Am ms.length Cm]) (t := 48) (fr := (0, 0)) (hp_drewL (World.alloc_heap_new w6 _))) (by simp [Value.oneCell']) (by omega) hmx (by omega) (by simp; omega) (w6.heap.size + 1) (by simp) ?_; intro gg cap w7 hown7 hgrow7 hat7 hlt7; obtain ⟨⟨z7, hz7⟩, hf7, hX7⟩ := HX6.out.twice hcl (undrewGL hgrow7) hown7; have HX7 : Hid (XSt B w.heap.size w2.heap.size w (w7.setCell ⟨w2.heap.size, 3, none⟩ (.slice (some ⟨gg, 0, none⟩) (((b, .slice Am ms.length Cm, ms) :: r).length + 1) cap)) frm0 ⟨#[68, 79, 67, 75]⟩ (1 + q2) (.slice (some ⟨gg, 0, none⟩) (((b, .slice Am ms.length Cm, ms) :: r).length + 1) cap) ((b, .slice Am ms.length Cm, ms) :: (r ++ [(b, .slice Am ms.length Cm, ms)]))) := hX7; have hw7 := cell_lt hz7; clear hX7 hown7 hgrow7 hat7; try dsimp only) | fail)
                all_goals go_wp2_with fail
                all_goals go_roundw
                all_goals first
                  | exact ⟨_, _, _, _, _, HX7.out⟩
                  | (have h8 := HX7.out.x
                     simp only [List.length_cons] at h8
                     have h9 : lenX (w7.setCell ⟨w2.heap.size, 3, none⟩ (.slice (some ⟨gg, 0, none⟩) (((b, .slice Am ms.length Cm, ms) :: r).length + 1) cap)) w2.heap.size 3 = ((b, .slice Am ms.length Cm, ms) :: r).length + 1 := by simp [lenX, World.cell?, h8]
                     have h10 := Hme.out
                     simp only [List.length_cons] at h9 h10 ⊢
                     omega)
              · go_wp2_with fail
                go_meet
                exact ⟨_, _, _, _, HX6.out⟩
        · go_wp2_with fail
          go_loopw [84] (fun _ wr => ∃ (b : Bun) (mv : Value) (ms : List MsgV), XSt B w.heap.size w2.heap.size w wr frm0 ⟨#[68, 79, 67, 75]⟩ (1 + q2) (.slice (some ⟨g, 0, none⟩) (r.length + 1) C) ((b, mv, ms) :: r) ∧ SepW ((b, mv, ms) :: r)) (fun _ wr => 11 - lenX wr g 2)
          case atStart => exact ⟨b, mv, ms, HX5.out.1, HX5.out.2.1⟩
          case round =>
            clear HX5 x0 x2 x3 xf g0 g1 g2 gf
            obtain ⟨b, mv, ms, hX, hsep⟩ := hrel
            obtain ⟨g', C', hv, hgX', hcur, g0, g1, g2, gf⟩ := hX.own.at
            simp only [Value.slice.injEq, Option.some.injEq, Addr.mk.injEq, and_true, List.length_cons, true_and] at hv
            obtain ⟨rfl, rfl⟩ := hv
            obtain ⟨Am, Cm, hmv⟩ := row_slice_any (hX.own.msgs (b, mv, ms) List.mem_cons_self).1.row
            dsimp only at hmv g0 g1 g2
            subst hmv
            have hxx := hX.x
            have x3 : wr.cell? ⟨w2.heap.size, 3, none⟩ = some (.slice (some ⟨g, 0, none⟩) (r.length + 1) C) := by simp [World.cell?, hxx]
            have hms := (hX.bd.2 (b, .slice Am ms.length Cm, ms) List.mem_cons_self).1.1
            dsimp only at hms
            have hme : lenX wr g 2 = ms.length := by simp only [lenX, g2]
            have Hme : Hid (lenX wr g 2 = ms.length) := hme
            have HX : Hid (XSt B w.heap.size w2.heap.size w wr frm0 ⟨#[68, 79, 67, 75]⟩ (1 + q2) (.slice (some ⟨g, 0, none⟩) (r.length + 1) C) ((b, .slice Am ms.length Cm, ms) :: r) ∧ SepW ((b, .slice Am ms.length Cm, ms) :: r)) := ⟨hX, hsep⟩
            have hlr := hX.lt
            have hlg := cell_lt g0
            clear hX hsep hxx hcur hgX' hme
            go_wp2_with fail
            have x3d : wr.drew.cell? ⟨w2.heap.size, 3, none⟩ = some (.slice (some ⟨g, 0, none⟩) (r.length + 1) C) := x3
            have g2d : wr.drew.cell? ⟨g, 2, none⟩ = some (.slice Am ms.length Cm) := g2
            go_region_held3 (fun W => W.cell? ⟨w2.heap.size, 3, none⟩ = some (.slice (some ⟨g, 0, none⟩) (r.length + 1) C) ∧ W.cell? ⟨g, 2, none⟩ = some (.slice Am ms.length Cm)) (go_keep) (first | (go_at_call 24; refine (n_any B 2 _ (by omega) (by omega) (by first | exact HX.out.1.src | exact HX.out.1.src.below (Below.refl _ _).drew)).mono ?_; rintro e w6 ⟨q6, rfl, hq60, hq61, hs6, hk6'⟩; have hk6 : Keep B wr w6 := (by first | exact hk6' | exact (Keep.refl _ _).drew.trans hk6'); have hX6 := HX.out.1.keep hk6 hs6; have y3 := hk6.cell x3 (by omega); have y3d : w6.drew.cell? ⟨w2.heap.size, 3, none⟩ = _ := y3; have z2 := hk6.cell g2 (by omega); have z2d : w6.drew.cell? ⟨g, 2, none⟩ = _ := z2; have zf : ∀ o, w6.frozen? ⟨g, o, none⟩ = false := fun o => (hk6.frozen hlg o (by omega)).trans (gf o); have HX6 : Hid (XSt B w.heap.size w2.heap.size w w6 frm0 ⟨#[68, 79, 67, 75]⟩ (1 + q2) (.slice (some ⟨g, 0, none⟩) (r.length + 1) C) ((b, .slice Am ms.length Cm, ms) :: r)) := hX6; have hl6 : wr.heap.size ≤ w6.heap.size := hk6.size; clear hX6 hs6 hk6 hk6'; try dsimp only) | fail)
            all_goals rename_i hHeld
            all_goals clear hHeld
            all_goals
              have hw5 : IntKind.i64.wrap (10 + q6) = 10 + q6 := by rw [IntKind.wrap_i64]; omega
              by_cases hc : (ms.length : Int) < 10 + q6
              · have hcl : ms.length ≤ 10 := by omega
                go_wp2_with fail
                obtain ⟨j0, hj0i, hi0, hi1, hi2⟩ := info_parts info50d
                have hmx : ms.length + 1 ≤ maxLen := by unfold maxLen; omega
                have a3 : (w6.alloc (.cells #[.int .i64 1, .slice none 0 0] 50)).cell? ⟨w2.heap.size, 3, none⟩ = some (.slice (some ⟨g, 0, none⟩) (r.length + 1) C) := (((Below.refl _ _).alloc (Nat.le_refl _) _).cell (p := ⟨w2.heap.size, 3, none⟩) (cell_lt y3)).trans y3
                have a2 : (w6.alloc (.cells #[.int .i64 1, .slice none 0 0] 50)).cell? ⟨g, 2, none⟩ = some (.slice Am ms.length Cm) := (((Below.refl _ _).alloc (Nat.le_refl _) _).cell (p := ⟨g, 2, none⟩) (cell_lt z2)).trans z2
                have hX2 : w2.heap.size + 1 ≤ w6.heap.size := by omega
                go_region_law (first | (refine step_append_lies _ (by rfl) _ _ _ (by rfl) (w2.heap.size + 1) 50 j0 _ 2 32 Tryd.underlying46 hj0i hi0 hi1 hi2 rfl (by omega) (.slice Am ms.length Cm) ms.length (ms.flatMap clMv) (by rfl) ((HX6.out.own.msgs (b, .slice Am ms.length Cm, ms) List.mem_cons_self).1.row.alloc _).drew ⟨w6.heap.size, 0, none⟩ 1 1 [.int .i64 1, .slice none 0 0] (by rfl) (by rfl) (World.news_of_block (cs := #[.int .i64 1, .slice none 0 0]) (t := 50) (fr := (0, 0)) (hp_drewL (World.alloc_heap_new w6 _))) (by simp [Value.oneCell']) (by omega) hmx (by omega) (by simp; omega) (w6.heap.size + 1) (by simp) ?_; intro gg cap w7 hown7 hgrow7 hat7 hlt7; obtain ⟨hz7, hf7, hx7, hS7, hX7⟩ := HX6.out.more HX.out.2 hgX hcl hown7 (undrewGL hgrow7) hat7; have HX7 : Hid (XSt B w.heap.size w2.heap.size w (w7.setCell ⟨g, 2, none⟩ (.slice (some ⟨gg, 0, none⟩) (ms.length + 1) cap)) frm0 ⟨#[68, 79, 67, 75]⟩ (1 + q2) (.slice (some ⟨g, 0, none⟩) (r.length + 1) C) ((⟨b.kind, b.num, b.msgs ++ [⟨1, []⟩]⟩, .slice (some ⟨gg, 0, none⟩) (ms.length + 1) cap, ms ++ [(⟨1, []⟩, .slice none 0 0, [])]) :: r) ∧ SepW ((⟨b.kind, b.num, b.msgs ++ [⟨1, []⟩]⟩, .slice (some ⟨gg, 0, none⟩) (ms.length + 1) cap, ms ++ [(⟨1, []⟩, .slice none 0 0, [])]) :: r)) := ⟨hX7, hS7⟩; have hw7 := cell_lt hz7; clear hX7 hS7 hown7 hgrow7 hat7; try dsimp only) | fail)
                all_goals go_wp2_with fail
                all_goals go_roundw
                all_goals first
                  | exact ⟨_, _, _, HX7.out⟩
                  | (obtain ⟨g2', C2', hv2, _, _, _, _, h8, _⟩ := HX7.out.1.own.at
                     simp only [Value.slice.injEq, Option.some.injEq, Addr.mk.injEq, and_true, List.length_cons, true_and] at hv2
                     obtain ⟨rfl, rfl⟩ := hv2
                     have h9 : lenX (w7.setCell ⟨g, 2, none⟩ (.slice (some ⟨gg, 0, none⟩) (ms.length + 1) cap)) g 2 = ms.length + 1 := by simp only [lenX, h8]
                     have h10 := Hme.out
                     omega)
              · go_wp2_with fail
                go_meet
                exact ⟨_, _, _, _, HX6.out⟩
    case rest =>
      obtain ⟨frm, num, v, bs, hX⟩ := hcut
      have hxx := hX.x
      have hrr := hX.r
      obtain ⟨Av, Cv, hv⟩ := row_slice_any hX.own.row
      subst hv
      have x0 : wc.cell? ⟨w2.heap.size, 0, none⟩ = some (.string frm) := by simp [World.cell?, hxx]
      have x1 : wc.cell? ⟨w2.heap.size, 1, none⟩ = some (.string ⟨#[68, 79, 67, 75]⟩) := by simp [World.cell?, hxx]
      have x2 : wc.cell? ⟨w2.heap.size, 2, none⟩ = some (.int .i64 num) := by simp [World.cell?, hxx]
      have x3 : wc.cell? ⟨w2.heap.size, 3, none⟩ = some (.slice Av bs.length Cv) := by simp [World.cell?, hxx]
      have r0 : wc.cell? ⟨w.heap.size, 0, none⟩ = some (.string ⟨#[]⟩) := by simp [World.cell?, hrr]
      have r1 : wc.cell? ⟨w.heap.size, 1, none⟩ = some (.string ⟨#[]⟩) := by simp [World.cell?, hrr]
      have r2 : wc.cell? ⟨w.heap.size, 2, none⟩ = some (.int .i64 0) := by simp [World.cell?, hrr]
      have r3 : wc.cell? ⟨w.heap.size, 3, none⟩ = some (.slice none 0 0) := by simp [World.cell?, hrr]
      have rf : ∀ o, wc.frozen? ⟨w.heap.size, o, none⟩ = false := fun o => by simp [World.frozen?, hrr]
      have HX : Hid (XSt B w.heap.size w2.heap.size w wc frm ⟨#[68, 79, 67, 75]⟩ num (.slice Av bs.length Cv) bs) := hX
      clear hX hxx HX4
      have hW3 : ((((wc.setCell ⟨w.heap.size, 0, none⟩ (.string frm)).setCell ⟨w.heap.size, 1, none⟩ (.string ⟨#[68, 79, 67, 75]⟩)).setCell ⟨w.heap.size, 2, none⟩ (.int .i64 num)).setCell ⟨w.heap.size, 3, none⟩ (.slice Av bs.length Cv)).heap[w.heap.size]? = some (.cells #[.string frm, .string ⟨#[68, 79, 67, 75]⟩, .int .i64 num, .slice Av bs.length Cv] 25) :=
        heap_setCell_same _ w.heap.size 3 _ _ _ (heap_setCell_same _ w.heap.size 2 _ _ _ (heap_setCell_same _ w.heap.size 1 _ _ _ (heap_setCell_same wc w.heap.size 0 _ _ _ hrr)))
      have y0 := cell_of_row _ w.heap.size 0 _ _ _ hW3
      have y1 := cell_of_row _ w.heap.size 1 _ _ _ hW3
      have y2 := cell_of_row _ w.heap.size 2 _ _ _ hW3
      have y3 := cell_of_row _ w.heap.size 3 _ _ _ hW3
      clear hrr hW3
      go_wp2
      exact bodyPost_ret (v := .agg #[.string frm, .string ⟨#[68, 79, 67, 75]⟩, .int .i64 num, .slice Av bs.length Cv]) (by simp [results, Tryd.results10, go_sem, y0, y1, y2, y3]) rfl ⟨_, _, _, _, bs, rfl, HX.out.zs, HX.out.bd, HX.out.done _ _ _ _⟩
end Go.Proofs.YtjnikogaleofaaaDoor
