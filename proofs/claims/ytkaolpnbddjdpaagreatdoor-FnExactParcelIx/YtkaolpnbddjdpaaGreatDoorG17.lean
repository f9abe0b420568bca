/- Texts of ours put together: PsC. -/
import Derived.Test.YtkaolpnbddjdpaaGreatDoorG16
import Derived.Test.YtkaolpnbddjdpaaGreatDoorG10
import Derived.Deep.Cut
import Derived.Deep.CutRange
import Derived.Deep.AppendLies
namespace Go.Proofs.YtkaolpnbddjdpaaGreatDoor
open Go.ChangeShapes Go.WideShapes Go.ChangeAt Go.RowKit
/-- An append of segments, in a region that draws its order. -/
theorem step_appG {ops : Array Oper} {o : Oper} {a : Act} {K : Act → World → Prop} {Q : Exit → Act → World → Prop} {E : Prop} {n₀ : Nat} {W W2 : World} {lv mv : Value} {ps qs : List (Value × List Value)} {gs hs : List Seg} (hgd : o.guard = none) (s x : Operand)
    (ho : o.op = .call { callee := .builtin .append, args := #[s, x], argTypes := #[60, 60] })
    (hs' : a.eval s = lv) (hx : a.eval x = mv) (h : OwnL n₀ W lv ps gs) (hn : n₀ ≤ W.heap.size) (hb2 : Below W.heap.size W W2) (h2 : OwnL W.heap.size W2 mv qs hs) (hl : gs.length + hs.length ≤ 3000000) (hpos : 0 < hs.length)
    (k : ∀ A C w4, OwnL n₀ w4 (.slice A (gs.length + hs.length) C) (ps ++ qs) (gs ++ hs) → Below n₀ W2 w4 → K (a.put o.dst (.slice A (gs.length + hs.length) C)) w4) : if Region.wanted o (yielded ops a.tmps) = true then Oper.wp Tryz.prog o a W2 K Q else E := by
  obtain ⟨i0, hi, hz0, hz1, hz2⟩ := info_parts infoSg
  obtain ⟨ad, c, e, hc⟩ := cells_of_own h2 hpos
  have h' := h.below hb2
  refine step_append_lies W2 hgd s x 60 ho n₀ 90 i0 (.agg #[.string ⟨#[]⟩, .slice none 0 0]) 2 40 Tryz.underlying60 hi hz0 hz1 hz2 rfl (by decide) lv gs.length (cellsL gs ps) hs' h'.row ad hs.length c (cellsL hs qs) (by rw [hx, e]) (cellsL_len h2.len) hc (cellsL_oneCell h2) hpos (by unfold maxLen; omega) (by omega) (Nat.le_trans hn hb2.size) _ rfl ?_
  intro g cap w4 hown hgrow _ _
  exact k _ cap w4 (h.app hn hb2 h2 hown hgrow) ⟨hgrow.os, hgrow.tape, hgrow.output, hgrow.size, fun q hq => hgrow.block q (by have := hb2.size; omega) (row2_ne h'.row hq).symm⟩
theorem docW_lenS (p : Pap) : (docW p).length ≤ 10 := by unfold docW; split <;> simp
set_option maxRecDepth 20000 in
set_option maxHeartbeats 16000000 in
theorem l05Body_any (p : Pap) (un ul : Value) (w : World) (hI : PapI p) (hP : PapR w un ul p) (hB : BdP 1048576 p) :
    Calls Tryz.prog 66 #[.agg #[.int .i64 p.kind, .string p.ref, .string p.other, .int .i64 p.day, un, ul]] w fun e w' => ∃ u ps, e = .returned u ∧ OwnL w.heap.size w' u ps (bodyW wordsS p) ∧ Below w.heap.size w w' := by
  obtain ⟨hz1, hz2, hnB, hlB⟩ := hB
  have hn0 := hnB.1
  have hl0 := hlB.1
  have hid := hI.1
  have z0 := (decS_long p.day hid.1 hid.2).2
  obtain ⟨An, Cn, rfl⟩ := hP.ns.val
  obtain ⟨Al, Cl, rfl⟩ := hP.ls.val
  obtain ⟨W0, hW0⟩ : ∃ W0, w.alloc (.cells #[.int .i64 p.kind, .string p.ref, .string p.other, .int .i64 p.day, .slice An p.notes.length Cn, .slice Al p.lines.length Cl] 66) = W0 := ⟨_, rfl⟩
  have hb0 : Below w.heap.size w W0 := by rw [← hW0]; exact (Below.refl _ _).alloc (Nat.le_refl _) _
  have hbx : W0.heap[w.heap.size]? = some (.cells #[.int .i64 p.kind, .string p.ref, .string p.other, .int .i64 p.day, .slice An p.notes.length Cn, .slice Al p.lines.length Cl] 66) := by rw [← hW0]; exact World.alloc_heap_new _ _
  have HR : Hid (RowS W0 (.slice An p.notes.length Cn) p.notes ∧ RowL W0 (.slice Al p.lines.length Cl) p.lines ∧ Below w.heap.size w W0 ∧ True ∧ BdS 1048576 p.notes ∧ BdL 1048576 p.lines ∧ PapI p) := ⟨hP.ns.below hb0, hP.ls.below hb0, hb0, trivial, hnB, hlB, hI⟩
  have HX : Hid (∀ W, Below W0.heap.size W0 W → W.cell? ⟨w.heap.size, 0, none⟩ = some (.int .i64 p.kind) ∧ W.cell? ⟨w.heap.size, 1, none⟩ = some (.string p.ref) ∧ W.cell? ⟨w.heap.size, 2, none⟩ = some (.string p.other) ∧ W.cell? ⟨w.heap.size, 3, none⟩ = some (.int .i64 p.day) ∧ W.cell? ⟨w.heap.size, 4, none⟩ = some (.slice An p.notes.length Cn) ∧ W.cell? ⟨w.heap.size, 5, none⟩ = some (.slice Al p.lines.length Cl)) := fun W hW => pbox ((hW.block _ (Array.getElem?_eq_some_iff.1 hbx).1).trans hbx)
  obtain ⟨c0, c1, c2, c3, c4, c5⟩ := HX.out W0 (Below.refl _ _)
  go_enter Tryz.func66, Tryz.ntmps66
  go_upto_region 1 with fail
  try rw [hW0]
  clear hW0 hbx hb0 hP hI hnB hlB
  go_region_held3 (fun W => W.cell? ⟨w.heap.size, 0, none⟩ = some (.int .i64 p.kind) ∧ W.cell? ⟨w.heap.size, 1, none⟩ = some (.string p.ref) ∧ W.cell? ⟨w.heap.size, 2, none⟩ = some (.string p.other) ∧ W.cell? ⟨w.heap.size, 3, none⟩ = some (.int .i64 p.day) ∧ W.cell? ⟨w.heap.size, 4, none⟩ = some (.slice An p.notes.length Cn) ∧ W.cell? ⟨w.heap.size, 5, none⟩ = some (.slice Al p.lines.length Cl)) (go_keep) (first | (go_at_call 64; refine (decG_any p.day _ hid.1 hid.2).mono ?_; rintro e wx ⟨rfl, hbx⟩; have bx : Below W0.heap.size W0 wx := (by first | exact hbx | exact undrewP hbx); obtain ⟨x0, x1, x2, x3, x4, x5⟩ := HX.out wx bx; clear hbx; try dsimp only) | fail)
  rename_i hHeld
  clear hHeld
  have bN : Below W0.heap.size W0 (wx.alloc (.cells #[.string p.ref, .string (decS p.day)] 9)) := bx.trans ((Below.refl _ _).alloc bx.size _)
  have rN : RowS (wx.alloc (.cells #[.string p.ref, .string (decS p.day)] 9)) (.slice (some ⟨wx.heap.size, 0, none⟩) 2 2) [p.ref, decS p.day] := row2s _ _ _ (by omega) (by omega)
  obtain ⟨W1, hW1⟩ : ∃ W1, (wx.alloc (.cells #[.string p.ref, .string (decS p.day)] 9)) = W1 := ⟨_, rfl⟩
  obtain ⟨X1, hX1⟩ : ∃ X1, X1 = wx.heap.size := ⟨_, rfl⟩
  rw [hW1] at bN rN
  rw [← hX1] at rN
  try rw [hW1]
  try rw [← hX1]
  have HN1 : Hid (RowS W1 (.slice (some ⟨X1, 0, none⟩) 2 2) [p.ref, decS p.day] ∧ Below W0.heap.size W0 W1) := ⟨rN, bN⟩
  clear hW1 hX1 bN rN bx x0 x1 x2 x3 x4 x5 c0 c1 c2 c3 c4 c5
  obtain ⟨c0, c1, c2, c3, c4, c5⟩ := HX.out W1 HN1.out.2
  obtain ⟨hO, hhO⟩ : ∃ hO, hO = hasO p.kind := ⟨_, rfl⟩
  have Q1 := l05Has_any p.kind W1
  rw [← hhO] at Q1
  go_upto_region 2 with fail
  go_cut [15] from 13 to 14 (fun s15 wy => Hid (s15 = .bool hO) ∧ wy = W1)
  case first =>
    go_wp2_with (first | (go_at_call 93; refine Q1.mono ?_; rintro e W1 ⟨rfl, rfl⟩; try dsimp only))
    go_meet
    exact ⟨rfl, rfl⟩
  case rest =>
    obtain ⟨H15, rfl⟩ := hcut
    rename World => W1
    clear Q1
    go_wp2_with fail
    go_cut [3] from 16 to 23 (fun s3 wy => ∃ A C, s3 = .slice A (docW p).length C ∧ RowS wy (.slice A (docW p).length C) (docW p) ∧ Below W0.heap.size W0 wy)
    case first =>
      have h15 := H15.out
      subst h15
      cases hO with
      | true =>
        have hd : docW p = [p.ref, p.other, decS p.day] := docW_yes hhO.symm
        have HD : Hid (docW p = [p.ref, p.other, decS p.day]) := hd
        clear hd hhO
        go_upto_region 3 with fail
        go_region_held3 (fun W => W.cell? ⟨w.heap.size, 0, none⟩ = some (.int .i64 p.kind) ∧ W.cell? ⟨w.heap.size, 1, none⟩ = some (.string p.ref) ∧ W.cell? ⟨w.heap.size, 2, none⟩ = some (.string p.other) ∧ W.cell? ⟨w.heap.size, 3, none⟩ = some (.int .i64 p.day) ∧ W.cell? ⟨w.heap.size, 4, none⟩ = some (.slice An p.notes.length Cn) ∧ W.cell? ⟨w.heap.size, 5, none⟩ = some (.slice Al p.lines.length Cl)) (go_keep) (first | (go_at_call 64; refine (decG_any p.day _ hid.1 hid.2).mono ?_; rintro e wx ⟨rfl, hbx⟩; have bx : Below W0.heap.size W0 wx := HN1.out.2.trans ((by first | exact hbx | exact undrewP hbx : Below W1.heap.size W1 wx).mono HN1.out.2.size); obtain ⟨x0, x1, x2, x3, x4, x5⟩ := HX.out wx bx; clear hbx; try dsimp only) | fail)
        rename_i hHeld
        clear hHeld
        have HF : Hid (RowS (wx.alloc (.cells #[.string p.ref, .string p.other, .string (decS p.day)] 9)) (.slice (some ⟨wx.heap.size, 0, none⟩) 3 3) [p.ref, p.other, decS p.day] ∧ Below W0.heap.size W0 (wx.alloc (.cells #[.string p.ref, .string p.other, .string (decS p.day)] 9))) := ⟨row3s _ _ _ _ (by omega) (by omega) (by omega), bx.trans ((Below.refl _ _).alloc bx.size _)⟩
        clear bx
        go_wp2_with fail
        go_meet
        rw [HD.out]
        exact ⟨_, _, rfl, HF.out⟩
      | false =>
        have HD : Hid (docW p = [p.ref, decS p.day]) := docW_no hhO.symm
        clear hhO
        go_wp2_with fail
        go_meet
        rw [HD.out]
        exact ⟨_, _, rfl, HN1.out⟩
    case rest =>
      obtain ⟨Ad, Cd, rfl, hRd, hbd⟩ := hcut
      rename World => wy
      have hdl := docW_lenS p
      have HDR : Hid (RowS wy (.slice Ad (docW p).length Cd) (docW p) ∧ Below W0.heap.size W0 wy) := ⟨hRd, hbd⟩
      clear hRd hbd hhO c0 c1 c2 c3 c4 c5
      go_wp2_with fail
      refine (l03Seg_any ⟨#[68, 79, 67]⟩ _ (docW p) _ HDR.out.1 hdl).mono ?_
      rintro e w1 ⟨u1, vals1, rfl, hO1, hb1'⟩
      have hb1 : Below W0.heap.size W0 w1 := HDR.out.2.trans (hb1'.mono HDR.out.2.size)
      obtain ⟨A1, N1, C1, hu1⟩ := row_slice hO1.row
      subst hu1
      have hL0 : OwnL W0.heap.size (w1.alloc (.cells #[.string sDOC, .slice A1 N1 C1] 90)) (.slice (some ⟨w1.heap.size, 0, none⟩) 1 1) [(.slice A1 N1 C1, vals1)] [(hdS sDOC (docW p))] := OwnL.one (hO1.mono HDR.out.2.size) hb1.size
      have HL0 : Hid (OwnL W0.heap.size (w1.alloc (.cells #[.string sDOC, .slice A1 N1 C1] 90)) (.slice (some ⟨w1.heap.size, 0, none⟩) 1 1) [(.slice A1 N1 C1, vals1)] [hdS sDOC (docW p)] ∧ Below W0.heap.size W0 (w1.alloc (.cells #[.string sDOC, .slice A1 N1 C1] 90))) := ⟨hL0, hb1.trans (((Below.refl _ w1).alloc (Nat.le_refl _) _).mono hb1.size)⟩
      clear hb1 hb1' hO1 hL0
      obtain ⟨c0, c1, c2, c3, c4, c5⟩ := HX.out _ HL0.out.2
      go_wp2_with fail
      go_loopw [4, 5] (fun l i wr => ∃ (k : Nat) (ps : List (Value × List Value)), i = .int .i64 (k : Int) ∧ k ≤ p.notes.length ∧ OwnL W0.heap.size wr l ps (hdS sDOC (docW p) :: (p.notes.take k).map noteG) ∧ Below W0.heap.size W0 wr) (fun _ i _ => p.notes.length - (intOf i).toNat)
      case atStart => exact ⟨0, _, rfl, by omega, HL0.out.1, HL0.out.2⟩
      case round =>
        obtain ⟨k, ps, rfl, hkn, hL, hb⟩ := hrel
        obtain ⟨Ab, Cb, hlv⟩ := hL.slice
        have hll : (hdS sDOC (docW p) :: (p.notes.take k).map noteG).length = k + 1 := by rw [List.length_cons, List.length_map, List.length_take]; omega
        rw [hll] at hlv
        subst hlv
        clear c0 c1 c2 c3 c4 c5
        obtain ⟨c0, c1, c2, c3, c4, c5⟩ := HX.out _ hb
        by_cases hlt : k < p.notes.length
        · have hlt' : (k : Int) < (p.notes.length : Int) := by omega
          obtain ⟨b, o, cap', t, e, hs, q0, _⟩ := (HR.out.1.below hb).at hlt
          simp only [Value.slice.injEq, true_and] at e
          obtain ⟨rfl, rfl⟩ := e
          have htz := HR.out.2.2.2.2.1.2 k t hs
          have HS : Hid (OwnL W0.heap.size wr (.slice Ab (k + 1) Cb) ps (hdS sDOC (docW p) :: (p.notes.take k).map noteG) ∧ Below W0.heap.size W0 wr ∧ p.notes[k]? = some t) := ⟨hL, hb, hs⟩
          have zb := hb.size
          clear hL hb hs
          go_wp2_with fail
          refine (l03Seg_any ⟨#[78, 79, 84]⟩ _ [t] _ (row1 wr t (by omega)) (by simp)).mono ?_
          rintro e w3 ⟨u3, vals3, rfl, hO3, hb3⟩
          obtain ⟨A3, N3, C3, hu3⟩ := row_slice hO3.row
          subst hu3
          have z3 := hb3.size
          have hw3 : Below wr.heap.size wr w3 := ((Below.refl _ wr).alloc (Nat.le_refl _) _).trans (hb3.mono (by simp))
          have hL3 : OwnL wr.heap.size (w3.alloc (.cells #[.string sNOT, .slice A3 N3 C3] 90)) (.slice (some ⟨w3.heap.size, 0, none⟩) 1 1) [(.slice A3 N3 C3, vals3)] [noteG t] := OwnL.one (hO3.mono (by simp)) hw3.size
          have H3 : Hid (OwnL wr.heap.size (w3.alloc (.cells #[.string sNOT, .slice A3 N3 C3] 90)) (.slice (some ⟨w3.heap.size, 0, none⟩) 1 1) [(.slice A3 N3 C3, vals3)] [noteG t] ∧ Below wr.heap.size wr (w3.alloc (.cells #[.string sNOT, .slice A3 N3 C3] 90))) := ⟨hL3, hw3.trans (((Below.refl _ w3).alloc (Nat.le_refl _) _).mono hw3.size)⟩
          clear hb3 hO3 hL3 hw3
          go_wp2_with (at_builtin; refine wpList_app rfl _ _ rfl rfl rfl HS.out.1 zb H3.out.2 H3.out.1 (by rw [hll]; simp; omega) (by simp) ?_; intro A4 C4 w4 hO4 hb4; rw [hll] at hO4 ⊢; have H4 : Hid (OwnL W0.heap.size w4 (.slice A4 (k + 1 + [noteG t].length) C4) (ps ++ [(.slice A3 N3 C3, vals3)]) ((hdS sDOC (docW p) :: (p.notes.take k).map noteG) ++ [noteG t]) ∧ Below W0.heap.size W0 w4) := ⟨hO4, (HS.out.2.1.trans (H3.out.2.mono HS.out.2.1.size)).trans hb4⟩; clear hO4 hb4; try dsimp only)
          go_roundw
          case rel =>
            refine ⟨k + 1, ps ++ [(.slice A3 N3 C3, vals3)], by go_num, by omega, ?_, H4.out.2⟩
            have e1 : hdS sDOC (docW p) :: (p.notes.take (k + 1)).map noteG = (hdS sDOC (docW p) :: (p.notes.take k).map noteG) ++ [noteG t] := by
              rw [List.take_add_one, HS.out.2.2, Option.toList_some, List.map_append]
              rfl
            rw [e1]
            exact H4.out.1
          case measure => simp [intOf]; omega
        · obtain rfl : k = p.notes.length := by omega
          rw [List.take_length] at hL hll
          have HN : Hid (OwnL W0.heap.size wr (.slice Ab (p.notes.length + 1) Cb) ps (hdS sDOC (docW p) :: p.notes.map noteG) ∧ Below W0.heap.size W0 wr) := ⟨hL, hb⟩
          clear hL hb
          go_wp2_with fail
          go_loopw [4, 6] (fun l i wr => ∃ (k : Nat) (ps : List (Value × List Value)), i = .int .i64 (k : Int) ∧ k ≤ p.lines.length ∧ OwnL W0.heap.size wr l ps (hdS sDOC (docW p) :: (p.notes.map noteG ++ (p.lines.take k).map (lineG wordsS p.kind))) ∧ Below W0.heap.size W0 wr) (fun _ i _ => p.lines.length - (intOf i).toNat)
          case atStart => exact ⟨0, ps, rfl, by omega, by simpa using HN.out.1, HN.out.2⟩
          case round =>
            clear hll hlt
            rename World => wq
            obtain ⟨k, ps, rfl, hkl, hL, hb⟩ := hrel
            obtain ⟨Ab, Cb, hlv⟩ := hL.slice
            have hll : (hdS sDOC (docW p) :: (p.notes.map noteG ++ (p.lines.take k).map (lineG wordsS p.kind))).length = k + (p.notes.length + 1) := by simp only [List.length_cons, List.length_append, List.length_map, List.length_take]; omega
            rw [hll] at hlv
            subst hlv
            clear c0 c1 c2 c3 c4 c5
            obtain ⟨c0, c1, c2, c3, c4, c5⟩ := HX.out _ hb
            by_cases hlt : k < p.lines.length
            · have hlt' : (k : Int) < (p.lines.length : Int) := by omega
              obtain ⟨b, o, cap', l, e, hs, hat, _, _⟩ := (HR.out.2.1.below hb).at hlt
              simp only [Value.slice.injEq, true_and] at e
              obtain ⟨rfl, rfl⟩ := e
              obtain ⟨q0, q1, q2, q3, q4⟩ := hat
              have htz := HR.out.2.2.2.2.2.1.2 k l hs
              have hIl := HR.out.2.2.2.2.2.2.2 l (List.mem_of_getElem? hs)
              have HS : Hid (OwnL W0.heap.size wq (.slice Ab (k + (p.notes.length + 1)) Cb) ps (hdS sDOC (docW p) :: (p.notes.map noteG ++ (p.lines.take k).map (lineG wordsS p.kind))) ∧ Below W0.heap.size W0 wq ∧ p.lines[k]? = some l ∧ LnI l ∧ (l.item.size ≤ 1048576 ∧ l.note.size ≤ 1048576)) := ⟨hL, hb, hs, hIl, htz⟩
              have zb := hb.size
              have QL := l05Line_any p.kind l
              unfold lnV at QL
              clear hL hb hs hIl htz
              go_upto_region 12 with fail
              go_region_law (first | (go_simp; refine (QL _ HS.out.2.2.2.1 HS.out.2.2.2.2).mono ?_; rintro e w3 ⟨u3, vals3, rfl, hO3, hb3'⟩; obtain ⟨A3, N3, C3, hu3⟩ := row_slice hO3.row; subst hu3; have hb3 : Below wq.heap.size wq w3 := (by first | exact hb3' | exact undrewP hb3'); have H3 : Hid (OwnL wq.heap.size (w3.alloc (.cells #[.string (sTag p.kind), .slice A3 N3 C3] 90)) (.slice (some ⟨w3.heap.size, 0, none⟩) 1 1) [(.slice A3 N3 C3, vals3)] [lineG wordsS p.kind l] ∧ Below wq.heap.size wq (w3.alloc (.cells #[.string (sTag p.kind), .slice A3 N3 C3] 90))) := ⟨OwnL.one hO3 hb3.size, hb3.trans (((Below.refl _ w3).alloc (Nat.le_refl _) _).mono hb3.size)⟩; obtain ⟨m0, m1, m2, m3, m4, m5⟩ := HX.out w3 (HS.out.2.1.trans (hb3.mono HS.out.2.1.size)); obtain ⟨d0, d1, d2, d3, d4, d5⟩ := HX.out _ (HS.out.2.1.trans (H3.out.2.mono HS.out.2.1.size)); clear hb3 hb3' hO3; try dsimp only) | (refine step_appG (by rfl) _ _ (by rfl) (by rfl) (by rfl) HS.out.1 zb H3.out.2 H3.out.1 (by rw [hll]; simp; omega) (by simp) ?_; intro A4 C4 w4 hO4 hb4; rw [hll] at hO4 ⊢; have H4 : Hid (OwnL W0.heap.size w4 (.slice A4 (k + (p.notes.length + 1) + [lineG wordsS p.kind l].length) C4) (ps ++ [(.slice A3 N3 C3, vals3)]) ((hdS sDOC (docW p) :: (p.notes.map noteG ++ (p.lines.take k).map (lineG wordsS p.kind))) ++ [lineG wordsS p.kind l]) ∧ Below W0.heap.size W0 w4) := ⟨hO4, (HS.out.2.1.trans (H3.out.2.mono HS.out.2.1.size)).trans hb4⟩; clear hO4 hb4; try dsimp only) | fail)
              all_goals
                go_wp2
                go_roundw
                case rel =>
                  refine ⟨k + 1, ps ++ [(.slice A3 N3 C3, vals3)], by go_num, by omega, ?_, H4.out.2⟩
                  have e1 : hdS sDOC (docW p) :: (p.notes.map noteG ++ (p.lines.take (k + 1)).map (lineG wordsS p.kind)) = (hdS sDOC (docW p) :: (p.notes.map noteG ++ (p.lines.take k).map (lineG wordsS p.kind))) ++ [lineG wordsS p.kind l] := by
                    rw [List.take_add_one, HS.out.2.2.1, Option.toList_some, List.map_append]
                    simp
                  rw [e1]
                  exact H4.out.1
                case measure => simp [intOf]; omega
            · obtain rfl : k = p.lines.length := by omega
              rw [List.take_length] at hL
              have HF : Hid (OwnL W0.heap.size wq (.slice Ab (p.lines.length + (p.notes.length + 1)) Cb) ps (bodyW wordsS p) ∧ Below W0.heap.size W0 wq) := ⟨hL, hb⟩
              clear hL hb hll
              go_wp2
              go_ret
              exact ⟨_, ps, rfl, HF.out.1.mono HR.out.2.2.1.size, HR.out.2.2.1.trans (HF.out.2.mono HR.out.2.2.1.size)⟩
end Go.Proofs.YtkaolpnbddjdpaaGreatDoor
