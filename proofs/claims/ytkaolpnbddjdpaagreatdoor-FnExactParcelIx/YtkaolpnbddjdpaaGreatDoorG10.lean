/- Texts of ours put together: PiH. -/
import Derived.Test.YtkaolpnbddjdpaaGreatDoorG07
import Derived.Test.YtkaolpnbddjdpaaGreatDoorG09
namespace Go.Proofs.YtkaolpnbddjdpaaGreatDoor
open Go.ChangeShapes Go.WideShapes Go.ChangeAt Go.RowKit
/-- A paper whose numbers are of 64 bits. -/
def PapI (p : Pap) : Prop := i64B p.day ∧ ∀ l ∈ p.lines, LnI l
theorem method_words (k : Int) (hk : 1 ≤ k ∧ k ≤ 7) (w : World) : (method 402 (tyK k) (.agg #[]) "loop.example/g00096/impl.words").run Tryz.prog w = .ok (fnW k, .agg #[]) w := by
  obtain rfl | rfl | rfl | rfl | rfl | rfl | rfl : k = 1 ∨ k = 2 ∨ k = 3 ∨ k = 4 ∨ k = 5 ∨ k = 6 ∨ k = 7 := by omega
  all_goals kernel_rfl
theorem call_words (k : Int) (hk : 1 ≤ k ∧ k ≤ 7) (a b : Value) (w : World) : (callFunc (fnW k) #[a, b]).run Tryz.prog w = .ok (.enter (fnW k) #[a, b]) w := by
  obtain rfl | rfl | rfl | rfl | rfl | rfl | rfl : k = 1 ∨ k = 2 ∨ k = 3 ∨ k = 4 ∨ k = 5 ∨ k = 6 ∨ k = 7 := by omega
  all_goals kernel_rfl
set_option maxRecDepth 20000 in
set_option maxHeartbeats 16000000 in
theorem bodyOf_any (p : Pap) (un ul : Value) (w : World) (hk : 1 ≤ p.kind ∧ p.kind ≤ 7) (hI : PapI p) (hP : PapR w un ul p) (hB : BdP 1048576 p) (hV : VarsAt w) :
    Calls Tryz.prog 85 #[.agg #[.int .i64 p.kind, .string p.ref, .string p.other, .int .i64 p.day, un, ul]] w fun e w' => ∃ u ps, e = .returned u ∧ OwnL w.heap.size w' u ps (bodyW wordsI p) ∧ Below w.heap.size w w' := by
  obtain ⟨hz1, hz2, hnB, hlB⟩ := hB
  have hn0 := hnB.1
  have hl0 := hlB.1
  obtain ⟨An, Cn, rfl⟩ := hP.ns.val
  obtain ⟨Al, Cl, rfl⟩ := hP.ls.val
  obtain ⟨W0, hW0⟩ : ∃ W0, w.alloc (.cells #[.int .i64 p.kind, .string p.ref, .string p.other, .int .i64 p.day, .slice An p.notes.length Cn, .slice Al p.lines.length Cl] 66) = W0 := ⟨_, rfl⟩
  have hb0 : Below w.heap.size w W0 := by rw [← hW0]; exact (Below.refl _ _).alloc (Nat.le_refl _) _
  have hbx : W0.heap[w.heap.size]? = some (.cells #[.int .i64 p.kind, .string p.ref, .string p.other, .int .i64 p.day, .slice An p.notes.length Cn, .slice Al p.lines.length Cl] 66) := by rw [← hW0]; exact World.alloc_heap_new _ _
  have HR : Hid (RowS W0 (.slice An p.notes.length Cn) p.notes ∧ RowL W0 (.slice Al p.lines.length Cl) p.lines ∧ Below w.heap.size w W0 ∧ VarsAt W0 ∧ BdS 1048576 p.notes ∧ BdL 1048576 p.lines ∧ PapI p) := ⟨hP.ns.below hb0, hP.ls.below hb0, hb0, hV.below hb0, hnB, hlB, hI⟩
  have HX : Hid (∀ W, Below W0.heap.size W0 W → W.cell? ⟨w.heap.size, 0, none⟩ = some (.int .i64 p.kind) ∧ W.cell? ⟨w.heap.size, 1, none⟩ = some (.string p.ref) ∧ W.cell? ⟨w.heap.size, 2, none⟩ = some (.string p.other) ∧ W.cell? ⟨w.heap.size, 3, none⟩ = some (.int .i64 p.day) ∧ W.cell? ⟨w.heap.size, 4, none⟩ = some (.slice An p.notes.length Cn) ∧ W.cell? ⟨w.heap.size, 5, none⟩ = some (.slice Al p.lines.length Cl)) := fun W hW => pbox ((hW.block _ (Array.getElem?_eq_some_iff.1 hbx).1).trans hbx)
  have hid := hI.1
  obtain ⟨c0, c1, c2, c3, c4, c5⟩ := HX.out W0 (Below.refl _ _)
  go_enter Tryz.func85, Tryz.ntmps85
  go_upto_region 1 with fail
  try rw [hW0]
  clear hW0 hbx hb0 hV hP hI hnB hlB
  go_wp2_with fail
  refine (docOf_any p _ _ _ hk hid ⟨hz1, hz2⟩ HR.out.2.2.2.1).mono ?_
  rintro e w1 ⟨u1, vals1, rfl, hO1, hb1⟩
  obtain ⟨A1, N1, C1, hu1⟩ := row_slice hO1.row
  subst hu1
  have hL0 : OwnL W0.heap.size (w1.alloc (.cells #[.string sDOC, .slice A1 N1 C1] 90)) (.slice (some ⟨w1.heap.size, 0, none⟩) 1 1) [(.slice A1 N1 C1, vals1)] [(hdS sDOC (docW p))] := OwnL.one hO1 hb1.size
  have HL0 : Hid (OwnL W0.heap.size (w1.alloc (.cells #[.string sDOC, .slice A1 N1 C1] 90)) (.slice (some ⟨w1.heap.size, 0, none⟩) 1 1) [(.slice A1 N1 C1, vals1)] [hdS sDOC (docW p)] ∧ Below W0.heap.size W0 (w1.alloc (.cells #[.string sDOC, .slice A1 N1 C1] 90))) := ⟨hL0, hb1.trans (((Below.refl _ w1).alloc (Nat.le_refl _) _).mono hb1.size)⟩
  clear hb1 hO1 hL0 c0 c1 c2 c3 c4 c5
  obtain ⟨c0, c1, c2, c3, c4, c5⟩ := HX.out _ HL0.out.2
  go_wp2_with fail
  go_loopw [3, 16] (fun l i wr => ∃ (k : Nat) (ps : List (Value × List Value)), i = .int .i64 (k : Int) ∧ k ≤ p.notes.length ∧ OwnL W0.heap.size wr l ps (hdS sDOC (docW p) :: (p.notes.take k).map noteG) ∧ Below W0.heap.size W0 wr) (fun _ i _ => p.notes.length - (intOf i).toNat)
  case atStart => exact ⟨0, _, rfl, by omega, HL0.out.1, HL0.out.2⟩
  case round =>
    obtain ⟨k, ps, rfl, hkn, hL, hb⟩ := hrel
    obtain ⟨Ab, Cb, hlv⟩ := hL.slice
    have hll : (hdS sDOC (docW p) :: (p.notes.take k).map noteG).length = k + 1 := by rw [List.length_cons, List.length_map, List.length_take]; omega
    rw [hll] at hlv
    subst hlv
    by_cases hlt : k < p.notes.length
    · have hlt' : (k : Int) < (p.notes.length : Int) := by omega
      obtain ⟨b, o, cap', t, e, hs, q0, _⟩ := (HR.out.1.below hb).at hlt
      simp only [Value.slice.injEq, true_and] at e
      obtain ⟨rfl, rfl⟩ := e
      have htz := HR.out.2.2.2.2.1.2 k t hs
      have HS : Hid (OwnL W0.heap.size wr (.slice Ab (k + 1) Cb) ps (hdS sDOC (docW p) :: (p.notes.take k).map noteG) ∧ Below W0.heap.size W0 wr ∧ p.notes[k]? = some t) := ⟨hL, hb, hs⟩
      have zb := hb.size
      clear hL hb hs
      go_wp2_with fail
      refine (segmentBy_any ⟨#[78, 79, 84]⟩ _ [t] _ (row1 wr t (by omega)) (by simp) (by intro t' ht'; simp at ht'; subst ht'; omega)).mono ?_
      rintro e w3 ⟨u3, vals3, rfl, hO3, hb3⟩
      obtain ⟨A3, N3, C3, hu3⟩ := row_slice hO3.row
      subst hu3
      have z3 := hb3.size
      have hw3 : Below wr.heap.size wr w3 := ((Below.refl _ wr).alloc (Nat.le_refl _) _).trans (hb3.mono (by simp))
      have hL3 : OwnL wr.heap.size (w3.alloc (.cells #[.string sNOT, .slice A3 N3 C3] 90)) (.slice (some ⟨w3.heap.size, 0, none⟩) 1 1) [(.slice A3 N3 C3, vals3)] [noteG t] := OwnL.one (hO3.mono (by simp)) hw3.size
      have H3 : Hid (OwnL wr.heap.size (w3.alloc (.cells #[.string sNOT, .slice A3 N3 C3] 90)) (.slice (some ⟨w3.heap.size, 0, none⟩) 1 1) [(.slice A3 N3 C3, vals3)] [noteG t] ∧ Below wr.heap.size wr (w3.alloc (.cells #[.string sNOT, .slice A3 N3 C3] 90))) := ⟨hL3, hw3.trans (((Below.refl _ w3).alloc (Nat.le_refl _) _).mono hw3.size)⟩
      clear hb3 hO3 hL3 hw3
      have tok1 : True := trivial
      go_wp2_with (at_builtin; have _t := tok1; refine wpList_app rfl _ _ rfl rfl rfl HS.out.1 zb H3.out.2 H3.out.1 (by rw [hll]; simp; omega) (by simp) ?_; intro A4 C4 w4 hO4 hb4; rw [hll] at hO4 ⊢; have H4 : Hid (OwnL W0.heap.size w4 (.slice A4 (k + 1 + [noteG t].length) C4) (ps ++ [(.slice A3 N3 C3, vals3)]) ((hdS sDOC (docW p) :: (p.notes.take k).map noteG) ++ [noteG t]) ∧ Below W0.heap.size W0 w4) := ⟨hO4, (HS.out.2.1.trans (H3.out.2.mono zb)).trans hb4⟩; clear tok1 hO4 hb4)
      go_roundw
      case rel =>
        refine ⟨k + 1, ps ++ [(.slice A3 N3 C3, vals3)], by go_num, by omega, ?_, H4.out.2⟩
        have e1 : hdS sDOC (docW p) :: (p.notes.take (k + 1)).map noteG = (hdS sDOC (docW p) :: (p.notes.take k).map noteG) ++ [noteG t] := by
          rw [List.take_add_one, HS.out.2.2, Option.toList_some, List.map_append]
          rfl
        rw [e1]
        exact H4.out.1
      case measure => simp [intOf]; omega
    · obtain rfl : k = p.notes.length := by omega
      rw [List.take_length] at hL hll
      have HN : Hid (OwnL W0.heap.size wr (.slice Ab (p.notes.length + 1) Cb) ps (hdS sDOC (docW p) :: p.notes.map noteG) ∧ Below W0.heap.size W0 wr) := ⟨hL, hb⟩
      rename_i w2x
      obtain ⟨Wn, hWn⟩ : ∃ Wn, Wn = wr := ⟨_, rfl⟩
      clear c0 c1 c2 c3 c4 c5
      obtain ⟨c0, c1, c2, c3, c4, c5⟩ := HX.out _ hb
      have hV2 := HR.out.2.2.2.1.below hb
      clear hL hb hWn
      go_upto_region 7 with fail
      go_region_held3 (fun W => W.cell? ⟨w.heap.size, 0, none⟩ = some (.int .i64 p.kind)) (go_keep) (first | (go_at_call 128; refine (paperKindOf_any p.kind _ hk).mono ?_; rintro e w5 ⟨rfl, rfl⟩; try dsimp only) | (go_at_call 129; refine (lineTag_any p.kind _ hk (by first | exact hV2.tabs | exact (hV2.below (Below.refl _ _).drew).tabs)).mono ?_; rintro e w6 ⟨rfl, rfl⟩; try dsimp only) | fail)
      rename_i hHeld
      clear hHeld
      have HN2 : Hid (OwnL W0.heap.size wr.drew (.slice Ab (p.notes.length + 1) Cb) ps (hdS sDOC (docW p) :: p.notes.map noteG) ∧ Below W0.heap.size W0 wr.drew) := ⟨HN.out.1.below (Below.refl _ _).drew, HN.out.2.trans ((Below.refl _ _).drew.mono HN.out.2.size)⟩
      obtain ⟨Wd, hWd⟩ : ∃ Wd, wr.drew = Wd := ⟨_, rfl⟩
      rw [hWd] at HN2
      rw [hWd]
      clear hWd HN hV2 hlt c0 c1 c2 c3 c4 c5
      obtain ⟨c0, c1, c2, c3, c4, c5⟩ := HX.out _ HN2.out.2
      go_wp2_with fail
      go_loopw [3, 36] (fun l i wr => ∃ (k : Nat) (ps : List (Value × List Value)), i = .int .i64 (k : Int) ∧ k ≤ p.lines.length ∧ OwnL W0.heap.size wr l ps (hdS sDOC (docW p) :: (p.notes.map noteG ++ (p.lines.take k).map (lineG wordsI p.kind))) ∧ Below W0.heap.size W0 wr) (fun _ i _ => p.lines.length - (intOf i).toNat)
      case atStart => exact ⟨0, ps, rfl, by omega, by simpa using HN2.out.1, HN2.out.2⟩
      case round =>
        clear hll
        rename World => wq
        obtain ⟨k, ps, rfl, hkl, hL, hb⟩ := hrel
        obtain ⟨Ab, Cb, hlv⟩ := hL.slice
        have hll : (hdS sDOC (docW p) :: (p.notes.map noteG ++ (p.lines.take k).map (lineG wordsI p.kind))).length = k + (p.notes.length + 1) := by simp only [List.length_cons, List.length_append, List.length_map, List.length_take]; omega
        rw [hll] at hlv
        subst hlv
        by_cases hlt : k < p.lines.length
        · have hlt' : (k : Int) < (p.lines.length : Int) := by omega
          obtain ⟨b, o, cap', l, e, hs, hat, _, _⟩ := (HR.out.2.1.below hb).at hlt
          simp only [Value.slice.injEq, true_and] at e
          obtain ⟨rfl, rfl⟩ := e
          obtain ⟨q0, q1, q2, q3, q4⟩ := hat
          have htz := HR.out.2.2.2.2.2.1.2 k l hs
          have hIl := HR.out.2.2.2.2.2.2.2 l (List.mem_of_getElem? hs)
          have bx : Below wq.heap.size wq (wq.alloc (.cells #[.int .i64 l.no, .string l.item, .int .i64 l.qty, .int .i64 l.money, .string l.note] 121)) := (Below.refl _ _).alloc (Nat.le_refl _) _
          have HS : Hid (OwnL W0.heap.size wq (.slice Ab (k + (p.notes.length + 1)) Cb) ps (hdS sDOC (docW p) :: (p.notes.map noteG ++ (p.lines.take k).map (lineG wordsI p.kind))) ∧ Below W0.heap.size W0 wq ∧ p.lines[k]? = some l ∧ LnI l ∧ (l.item.size ≤ 1048576 ∧ l.note.size ≤ 1048576) ∧ Below wq.heap.size wq (wq.alloc (.cells #[.int .i64 l.no, .string l.item, .int .i64 l.qty, .int .i64 l.money, .string l.note] 121)) ∧ TabOk (wq.alloc (.cells #[.int .i64 l.no, .string l.item, .int .i64 l.qty, .int .i64 l.money, .string l.note] 121))) := ⟨hL, hb, hs, hIl, htz, bx, ((HR.out.2.2.2.1.below hb).below bx).tab⟩
          have zb := hb.size
          clear hL hb hs hIl htz bx
          have hm := method_words p.kind hk
          have hcf := call_words p.kind hk
          go_wp2_with fail
          refine (words_any p.kind hk l _ HS.out.2.2.2.1 HS.out.2.2.2.2.2.2).mono ?_
          rintro e w2 ⟨bw, rfl, hbw, hcw, hb2⟩
          have wl := fullW_len p.kind l
          have HW : Hid (w2.heap[bw]? = some (.cells ((fullW p.kind l).map Value.string).toArray 9) ∧ Below wq.heap.size wq w2 ∧ woM (fullW p.kind l) = wordsI p.kind l ∧ (∀ t ∈ fullW p.kind l, t.size ≤ 9223372036854775807)) := ⟨hcw, HS.out.2.2.2.2.2.1.trans (hb2.mono (by simp)), woM_full p.kind l HS.out.2.2.2.1 hk, fullW_bd HS.out.2.2.2.1 HS.out.2.2.2.2.1⟩
          obtain ⟨fw, hfw⟩ : ∃ fw, fw = fullW p.kind l := ⟨_, rfl⟩
          rw [← hfw] at wl HW
          rw [← hfw]
          clear hbw hcw hb2 hfw hm hcf q0 q1 q2 q3 q4
          go_wp2_with fail
          refine (without_any fw bw _ HW.out.1 (by omega) (by omega) HW.out.2.2.2).mono ?_
          rintro e w2 ⟨⟨u2, rfl, hrow⟩, rfl⟩
          rw [HW.out.2.2.1] at hrow
          obtain ⟨Aw, Cw, hu2⟩ := hrow.val
          subst hu2
          obtain ⟨wl1, wl2⟩ := wordsI_bd (k := p.kind) HS.out.2.2.2.1 HS.out.2.2.2.2.1
          have HW2 : Hid (RowS w2 (.slice Aw (wordsI p.kind l).length Cw) (wordsI p.kind l)) := hrow
          clear hrow
          go_wp2_with fail
          refine (segmentBy_any (sTag p.kind) _ (wordsI p.kind l) _ HW2.out (by omega) wl2).mono ?_
          rintro e w3 ⟨u3, vals3, rfl, hO3, hb3⟩
          obtain ⟨A3, N3, C3, hu3⟩ := row_slice hO3.row
          subst hu3
          have z2 := HW.out.2.1.size
          have hw3 : Below wq.heap.size wq w3 := HW.out.2.1.trans (hb3.mono z2)
          have hL3 : OwnL wq.heap.size (w3.alloc (.cells #[.string (sTag p.kind), .slice A3 N3 C3] 90)) (.slice (some ⟨w3.heap.size, 0, none⟩) 1 1) [(.slice A3 N3 C3, vals3)] [lineG wordsI p.kind l] := OwnL.one (hO3.mono z2) hw3.size
          have H3 : Hid (OwnL wq.heap.size (w3.alloc (.cells #[.string (sTag p.kind), .slice A3 N3 C3] 90)) (.slice (some ⟨w3.heap.size, 0, none⟩) 1 1) [(.slice A3 N3 C3, vals3)] [lineG wordsI p.kind l] ∧ Below wq.heap.size wq (w3.alloc (.cells #[.string (sTag p.kind), .slice A3 N3 C3] 90))) := ⟨hL3, hw3.trans (((Below.refl _ w3).alloc (Nat.le_refl _) _).mono hw3.size)⟩
          clear hb3 hO3 hL3 hw3 z2
          have tok1 : True := trivial
          go_wp2_with (at_builtin; have _t := tok1; refine wpList_app rfl _ _ rfl rfl rfl HS.out.1 zb H3.out.2 H3.out.1 (by rw [hll]; simp; omega) (by simp) ?_; intro A4 C4 w4 hO4 hb4; rw [hll] at hO4 ⊢; have H4 : Hid (OwnL W0.heap.size w4 (.slice A4 (k + (p.notes.length + 1) + [lineG wordsI p.kind l].length) C4) (ps ++ [(.slice A3 N3 C3, vals3)]) ((hdS sDOC (docW p) :: (p.notes.map noteG ++ (p.lines.take k).map (lineG wordsI p.kind))) ++ [lineG wordsI p.kind l]) ∧ Below W0.heap.size W0 w4) := ⟨hO4, (HS.out.2.1.trans (H3.out.2.mono zb)).trans hb4⟩; clear tok1 hO4 hb4)
          go_roundw
          case rel =>
            refine ⟨k + 1, ps ++ [(.slice A3 N3 C3, vals3)], by go_num, by omega, ?_, H4.out.2⟩
            have e1 : hdS sDOC (docW p) :: (p.notes.map noteG ++ (p.lines.take (k + 1)).map (lineG wordsI p.kind)) = (hdS sDOC (docW p) :: (p.notes.map noteG ++ (p.lines.take k).map (lineG wordsI p.kind))) ++ [lineG wordsI p.kind l] := by
              rw [List.take_add_one, HS.out.2.2.1, Option.toList_some, List.map_append]
              simp
            rw [e1]
            have := H4.out.1
            exact this
          case measure => simp [intOf]; omega
        · obtain rfl : k = p.lines.length := by omega
          rw [List.take_length] at hL
          have HF : Hid (OwnL W0.heap.size wq (.slice Ab (p.lines.length + (p.notes.length + 1)) Cb) ps (bodyW wordsI p) ∧ Below W0.heap.size W0 wq) := ⟨hL, hb⟩
          clear hL hb hll
          go_wp2
          go_ret
          exact ⟨_, ps, rfl, HF.out.1.mono HR.out.2.2.1.size, HR.out.2.2.1.trans (HF.out.2.mono HR.out.2.2.1.size)⟩
end Go.Proofs.YtkaolpnbddjdpaaGreatDoor
