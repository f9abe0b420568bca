/- Texts of ours put together: PiU, OpenS, OpenPI, SzS. -/
import Derived.Test.YtgecdmpokahahaaGreatDoorG34
import Derived.Test.YtgecdmpokahahaaGreatDoorG40
import Derived.Deep.Cut
import Derived.Deep.CutRange
import Derived.Test.YtgecdmpokahahaaGreatDoorG05
import Derived.Deep.Slices
import Derived.SliceStrings
import Derived.Lib.SmallJoins
import Derived.Test.YtgecdmpokahahaaGreatDoorG20
namespace Go.Proofs.YtgecdmpokahahaaGreatDoor
open Go.ChangeShapes Go.WideShapes Go.ChangeAt Go.RowKit
set_option maxRecDepth 20000 in
set_option maxHeartbeats 16000000 in
theorem paperRight_impl (p : Pap) (un ul : Value) (w : World) (hI : PapI p) (hP : PapR w un ul p) (hB : BdP 1048576 p) (hV : VarsAt w) :
    Calls Tryz.prog 9 #[.agg #[.int .i64 p.kind, .string p.ref, .string p.other, .int .i64 p.day, un, ul]] w fun e w' => e = .returned (.bool (papB p)) ∧ Below w.heap.size w w' := by
  obtain ⟨Un, Vn, rfl⟩ := hP.ns.val
  obtain ⟨Ul, Vl, rfl⟩ := hP.ls.val
  have hl0 := hB.2.2.2.1
  have hn0 := hB.2.2.1.1
  obtain ⟨W0, hW0⟩ : ∃ W0, w.alloc (.cells #[.int .i64 p.kind, .string p.ref, .string p.other, .int .i64 p.day, .slice Un p.notes.length Vn, .slice Ul p.lines.length Vl] 30) = W0 := ⟨_, rfl⟩
  have hb0 : Below w.heap.size w W0 := by rw [← hW0]; exact (Below.refl _ _).alloc (Nat.le_refl _) _
  have hbx : W0.heap[w.heap.size]? = some (.cells #[.int .i64 p.kind, .string p.ref, .string p.other, .int .i64 p.day, .slice Un p.notes.length Vn, .slice Ul p.lines.length Vl] 30) := by rw [← hW0]; exact World.alloc_heap_new _ _
  have HX : Hid (∀ W, Below W0.heap.size W0 W → W.cell? ⟨w.heap.size, 0, none⟩ = some (.int .i64 p.kind) ∧ W.cell? ⟨w.heap.size, 1, none⟩ = some (.string p.ref) ∧ W.cell? ⟨w.heap.size, 2, none⟩ = some (.string p.other) ∧ W.cell? ⟨w.heap.size, 3, none⟩ = some (.int .i64 p.day) ∧ W.cell? ⟨w.heap.size, 4, none⟩ = some (.slice Un p.notes.length Vn) ∧ W.cell? ⟨w.heap.size, 5, none⟩ = some (.slice Ul p.lines.length Vl)) := fun W hW => pbox ((hW.block _ (Array.getElem?_eq_some_iff.1 hbx).1).trans hbx)
  have HR : Hid (PapR W0 (.slice Un p.notes.length Vn) (.slice Ul p.lines.length Vl) p ∧ Below w.heap.size w W0 ∧ VarsAt W0 ∧ BdP 1048576 p ∧ PapI p ∧ (∀ W, Below W0.heap.size W0 W → w.heap.size < W.heap.size)) := ⟨hP.below hb0, hb0, hV.below hb0, hB, hI, fun W hW => by have := hW.size; have := (Array.getElem?_eq_some_iff.1 hbx).1; omega⟩
  obtain ⟨B, hBe⟩ : ∃ B, B = w.heap.size := ⟨_, rfl⟩
  obtain ⟨pb, hpb⟩ : ∃ pb, pb = papB p := ⟨_, rfl⟩
  have HPB : Hid (pb = papB p) := hpb
  rw [← hpb]
  clear hpb
  go_enter Tryz.func9, Tryz.ntmps9
  go_upto_region 1 with fail
  try rw [hW0]
  clear hW0 hbx hb0 hP hI hB hV
  obtain ⟨c0, c1, c2, c3, c4, c5⟩ := HX.out W0 (Below.refl _ _)
  by_cases hk : 1 ≤ p.kind ∧ p.kind ≤ 7
  · have hkB : kindB p.kind = true := by simp [kindB, hk]
    by_cases hl : 20 < p.lines.length
    · have hl' : (20 : Int) < (p.lines.length : Int) := by omega
      have HN : Hid (pb = false) := by show _ = _; rw [HPB.out]; exact papB_no fun g => by have := g.ln; omega
      go_wp2_with (first | (go_at_call 27; refine (isKind_any _ _).mono ?_; rintro e w1 ⟨rfl, rfl⟩; rw [hkB]; try dsimp only))
      go_ret
      exact ⟨by rw [HN.out]; rfl, HR.out.2.1⟩
    · have hl' : ¬ (20 : Int) < (p.lines.length : Int) := by omega
      have hl20 : p.lines.length ≤ 20 := by omega
      have hlen : (bodyW wordsI p).length = 1 + (p.notes.length + p.lines.length) := body_len wordsI p
      have Q1 : Hid (∀ W, Below W0.heap.size W0 W → Calls Tryz.prog 29 #[.agg #[.int .i64 p.kind, .string p.ref, .string p.other, .int .i64 p.day, .slice Un p.notes.length Vn, .slice Ul p.lines.length Vl]] W fun e w' => (∃ A C, e = .returned (.slice A (bodyW wordsI p).length C) ∧ RowG w' (.slice A (bodyW wordsI p).length C) (bodyW wordsI p) ∧ CapL (.slice A (bodyW wordsI p).length C) (bodyW wordsI p).length) ∧ Below W.heap.size W w') := fun W hW => by
        refine (bodyOf_any p _ _ W hk HR.out.2.2.2.2.1 (HR.out.1.below hW) HR.out.2.2.2.1 (HR.out.2.2.1.below hW)).mono ?_
        rintro e w' ⟨u, ps, rfl, hL, hb⟩
        obtain ⟨A, C, hu⟩ := hL.slice
        have hcp := hL.cap
        subst hu
        exact ⟨⟨A, C, rfl, hL.rowT (body_bd1 HR.out.2.2.2.2.1 HR.out.2.2.2.1) (by omega), hcp⟩, hb⟩
      have Q2 : Hid (∀ W A C, Below W0.heap.size W0 W → RowG W (.slice A (bodyW wordsI p).length C) (bodyW wordsI p) → CapL (.slice A (bodyW wordsI p).length C) (bodyW wordsI p).length → Calls Tryz.prog 28 #[.int .i64 p.kind, .slice A (bodyW wordsI p).length C] W fun e w' => (∃ k r o d An Nn Cn Al Nl Cl a c, e = .returned (.agg #[.int .i64 k, .string r, .string o, .int .i64 d, .slice An Nn Cn, .slice Al Nl Cl, .int .i64 a, .int .i64 c]) ∧ PoAlt p W.heap.size w' k r o d An Nn Cn Al Nl Cl a c) ∧ Below W.heap.size W w') := fun W A C hW hG hC => paperOfJ_any p _ W hk HR.out.2.2.2.2.1 HR.out.2.2.2.1 hl20 hG hC (HR.out.2.2.1.below hW)
      obtain ⟨M, hM⟩ : ∃ M, M = (bodyW wordsI p).length := ⟨_, rfl⟩
      rw [← hM] at Q1 Q2
      clear hlen
      have hqk := hkB
      go_upto_region 3 with (first | (go_at_call 27; refine (isKind_any _ _).mono ?_; rintro e W0 ⟨rfl, rfl⟩; rw [hqk]; try dsimp only))
      try rw [← hBe]
      rw [← hBe] at c0 c1 c2 c3 c4 c5
      have HXB : Hid (∀ W, Below W0.heap.size W0 W → W.cell? ⟨B, 0, none⟩ = some (.int .i64 p.kind) ∧ W.cell? ⟨B, 1, none⟩ = some (.string p.ref) ∧ W.cell? ⟨B, 2, none⟩ = some (.string p.other) ∧ W.cell? ⟨B, 3, none⟩ = some (.int .i64 p.day) ∧ W.cell? ⟨B, 4, none⟩ = some (.slice Un p.notes.length Vn) ∧ W.cell? ⟨B, 5, none⟩ = some (.slice Ul p.lines.length Vl)) := fun W hW => by rw [hBe]; exact HX.out W hW
      clear hBe hM
      have qn0 : B ≠ W0.heap.size := Nat.ne_of_lt (cell_lt c0)
      have qm0 : W0.heap.size ≠ B := Ne.symm qn0
      go_cut [3] from 14 to 18 (fun s3 wx => ∃ P, s3 = .pointer (some ⟨P, 0, none⟩) ∧ PrX p W0 wx P)
      case first =>
        go_region_held3 (fun W => W.cell? ⟨B, 0, none⟩ = some (.int .i64 p.kind) ∧ W.cell? ⟨B, 1, none⟩ = some (.string p.ref) ∧ W.cell? ⟨B, 2, none⟩ = some (.string p.other) ∧ W.cell? ⟨B, 3, none⟩ = some (.int .i64 p.day) ∧ W.cell? ⟨B, 4, none⟩ = some (.slice Un p.notes.length Vn) ∧ W.cell? ⟨B, 5, none⟩ = some (.slice Ul p.lines.length Vl)) (go_keep) (first | (go_at_call 29; refine (Q1.out _ (by with_reducible first | exact Below.refl _ _ | exact (Below.refl _ _).drew | exact (Below.refl _ _).alloc (Nat.le_refl _) _ | exact ((Below.refl _ _).alloc (Nat.le_refl _) _).drew)).mono ?_; rintro e wa ⟨⟨A, C, rfl, hGa, hCa⟩, hba⟩; have ba : Below W0.heap.size W0 wa := (((by with_reducible first | exact hba | exact undrewP hba | exact unallocP hba | exact unallocP (undrewP hba)) : Below W0.heap.size W0 wa)); obtain ⟨g0, g1, g2, g3, g4, g5⟩ := HXB.out wa ba; obtain ⟨h0, h1, h2, h3, h4, h5⟩ := HXB.out wa.drew ba.drew; obtain ⟨i0, i1, i2, i3, i4, i5⟩ := HXB.out (wa.alloc (.cells #[.int .i64 0, .string ⟨#[]⟩, .string ⟨#[]⟩, .int .i64 0, .slice none 0 0, .slice none 0 0, .int .i64 0, .int .i64 0] 47)) (ba.alloc ba.size _); have qn1 : B ≠ wa.heap.size := Nat.ne_of_lt (cell_lt g0); have qm1 : wa.heap.size ≠ B := Ne.symm qn1; (try (with_reducible have kx1 := boxNewP hba)); (try (with_reducible have kx1 := boxNewQ hba)); (try clear hba); try dsimp only) | (go_at_call 28; refine (Q2.out _ A C (by with_reducible first | exact ba | exact ba.drew | exact ba.alloc ba.size _ | exact (ba.alloc ba.size _).drew) (by with_reducible first | exact hGa | exact hGa.below (Below.refl _ _).drew | exact hGa.below ((Below.refl _ _).alloc (Nat.le_refl _) _) | exact hGa.below (((Below.refl _ _).alloc (Nat.le_refl _) _).drew)) hCa).mono ?_; rintro e wb ⟨⟨k, r, o, d, An, Nn, Cn, Al, Nl, Cl, a, c, rfl, hAl⟩, hbb⟩; have bb : Below W0.heap.size W0 wb := ba.trans ((((by with_reducible first | exact hbb | exact undrewP hbb | exact unallocP hbb | exact unallocP (undrewP hbb)) : Below wa.heap.size wa wb)).mono ba.size); obtain ⟨l0, l1, l2, l3, l4, l5⟩ := HXB.out wb bb; obtain ⟨m0, m1, m2, m3, m4, m5⟩ := HXB.out wb.drew bb.drew; obtain ⟨n0, n1, n2, n3, n4, n5⟩ := HXB.out (wb.alloc (.cells #[.int .i64 0, .string ⟨#[]⟩, .string ⟨#[]⟩, .int .i64 0, .slice none 0 0, .slice none 0 0, .int .i64 0, .int .i64 0] 47)) (bb.alloc bb.size _); have qn2 : B ≠ wb.heap.size := Nat.ne_of_lt (cell_lt l0); have qm2 : wb.heap.size ≠ B := Ne.symm qn2; (try (have kx2 := ((((by with_reducible first | exact hbb | exact undrewP hbb | exact unallocP hbb | exact unallocP (undrewP hbb)) : Below wa.heap.size wa wb)).block _ (Array.getElem?_eq_some_iff.1 kx1).1).trans kx1)); (try (with_reducible have kx2 := boxNewP hbb)); (try (with_reducible have kx2 := boxNewQ hbb)); (try (have kk := box8o kx2; obtain ⟨j0, j1, j2, j3, j4, j5, j6, j7⟩ := kk; have hfz := frz5 kx2)); (try clear hbb); try dsimp only))
        all_goals rename_i hHeld
        all_goals clear hHeld
        all_goals go_wp2_with fail
        all_goals go_meet
        · exact ⟨_, rfl, bb.alloc bb.size _, _, k, r, o, d, An, Nn, Cn, Al, Nl, Cl, a, c, World.alloc_heap_new _ _, hAl.below ((Below.refl _ _).alloc (Nat.le_refl _) _)⟩
        · exact ⟨_, rfl, setB8P bb ba.size, _, k, r, o, d, An, Nn, Cn, Al, Nl, Cl, a, c, set8P kx2, hAl.set8 (show wa.heap.size < (wa.alloc _).heap.size by simp)⟩
        · exact ⟨_, rfl, setB8P bb (Nat.le_refl _), _, k, r, o, d, An, Nn, Cn, Al, Nl, Cl, a, c, set8P kx2, hAl.set8 (Array.getElem?_eq_some_iff.1 kx1).1⟩
      case rest =>
        obtain ⟨P, rfl, hbX, B', k, r, o, d, An, Nn, Cn, Al, Nl, Cl, a, c, hX, hAl⟩ := hcut
        rename World => wx
        obtain ⟨j0, j1, j2, j3, j4, j5, j6, j7⟩ := box8o hX
        have HXx : Hid (Below W0.heap.size W0 wx ∧ Below w.heap.size w wx) := ⟨hbX, HR.out.2.1.trans (hbX.mono HR.out.2.1.size)⟩
        clear c0 c1 c2 c3 c4 c5 hX Q1 Q2 qn0 qm0
        obtain ⟨c0, c1, c2, c3, c4, c5⟩ := HXB.out wx hbX
        clear hbX
        rcases hAl with ⟨rfl, rfl, rfl, rfl, rfl, hPx, _, ht, hp⟩ | ⟨hc, hn⟩
        · have hPp := HR.out.1.below HXx.out.1
          have HPS : Hid (PapR wx (.slice An Nn Cn) (.slice Al Nl Cl) (rdP lnI p) ∧ PapR wx (.slice Un p.notes.length Vn) (.slice Ul p.lines.length Vl) p ∧ (tcV p.kind (bodyW wordsI p)).2.2 = 0 ∧ PlcOk p.kind (p.lines.map (lnI p.kind))) := ⟨hPx, hPp, ht, hp⟩
          clear hPx hPp ht hp
          go_wp2_with (first | (go_at_call 30; refine (paperSame_impl (rdP lnI p) p _ _ _ _ _ HPS.out.1 HPS.out.2.1).mono ?_; rintro e w9 ⟨⟨bv, rfl, hbv⟩, hb9⟩; have H9 : Hid (Below w.heap.size w w9 ∧ (bv = true ↔ rdP lnI p = p)) := ⟨HXx.out.2.trans (hb9.mono HXx.out.2.size), hbv⟩; clear hb9 hbv; try dsimp only))
          go_ret
          refine ⟨?_, H9.out.1⟩
          have e1 : pb = bv := by
            rw [HPB.out]
            cases hbv : bv with
            | true => exact papB_yes ⟨hk, hl20, HPS.out.2.2.1, HPS.out.2.2.2, H9.out.2.1 hbv⟩
            | false => exact papB_no fun g => by have := H9.out.2.2 g.sm; rw [hbv] at this; cases this
          rw [e1]
          rfl
        · have hc' : (c == 0) = false := by simpa using hc
          have HN : Hid (pb = false) := by show _ = _; rw [HPB.out]; exact papB_no fun g => hn ⟨g.tb, g.pl⟩
          clear hn
          go_wp2
          go_ret
          exact ⟨by rw [HN.out]; rfl, HXx.out.2⟩
  · have hkB : kindB p.kind = false := by simp [kindB]; omega
    have HN : Hid (pb = false) := by show _ = _; rw [HPB.out]; exact papB_no fun g => hk g.kd
    go_wp2_with (first | (go_at_call 27; refine (isKind_any _ _).mono ?_; rintro e w1 ⟨rfl, rfl⟩; rw [hkB]; try dsimp only))
    go_ret
    exact ⟨by rw [HN.out]; rfl, HR.out.2.1⟩
end Go.Proofs.YtgecdmpokahahaaGreatDoor
namespace Go.Proofs.YtgecdmpokahahaaGreatDoor
open Go.ChangeShapes Go.WideShapes Go.ChangeAt Go.RowKit Go.Joins Go.Deep
theorem cellsString : Tryz.prog.cellsOf 9 = 1 := by kernel_rfl
theorem cellsStrings : Tryz.prog.cellsOf 22 = 1 := by kernel_rfl
theorem addr_plain (b o i : Nat) : (⟨b, o, none⟩ : Addr).add i = ⟨b, o + i, none⟩ := by unfold Addr.add; split <;> simp_all
section
variable {H : Type} {enc : TypeId × Value → H} {W : World} {base : Nat} {spare : Nat → Bool} {held : Bool}
theorem openS {fuel : Nat} {cs : List Value} {x : DataW H × List MemPlace} (h : DataW.trod enc Tryz.prog W base spare held fuel 22 cs = some x) : ∃ v ss, cs = [v] ∧ RowS W v ss := by
  rcases open_strings Tryz.underlying22 Tryz.underlying9 cellsString h with ⟨rfl, _⟩ | ⟨a, len, cap, ss, rfl, _, hl, hm, hlen, _, hcell, hsz⟩
  · exact ⟨_, [], rfl, ⟨⟨_, _, rfl, fun h => absurd rfl h⟩, by simp, fun i s hi => by simp at hi⟩⟩
  · have hlm : len ≤ ss.length := by rw [hlen]; split <;> omega
    have htl : (ss.take len).length = len := by rw [List.length_take]; omega
    unfold maxLen at hm hsz
    refine ⟨_, ss.take len, rfl, ⟨⟨some a, cap, by rw [htl], fun hn => ?_⟩, by omega, fun i s hi => hsz s (List.mem_of_mem_take (List.mem_of_getElem? hi))⟩⟩
    obtain ⟨b, off, spot⟩ := a
    have hpos : 0 < len := by
      rcases Nat.eq_zero_or_pos len with rfl | g
      · exact absurd (by simp) hn
      · exact g
    have h0 := hcell 0 (by omega)
    have hspot : spot = none := by simpa [Addr.add] using World.cell?_spot h0
    subst hspot
    refine ⟨b, off, rfl, fun i s hi => ?_⟩
    have hil := (List.getElem?_eq_some_iff.1 hi).1
    have h1 := hcell i (by omega)
    rw [addr_plain] at h1
    rw [h1]
    rw [List.getElem?_take_of_lt (by omega)] at hi
    rw [List.getD_eq_getElem?_getD, hi, Option.getD_some]
end
end Go.Proofs.YtgecdmpokahahaaGreatDoor
namespace Go.Proofs.YtgecdmpokahahaaGreatDoor
open Go.ChangeShapes Go.WideShapes Go.ChangeAt Go.RowKit Go.Joins Go.Deep
theorem cellsI64 : Tryz.prog.cellsOf 2 = 1 := by kernel_rfl
theorem cellsLine : Tryz.prog.cellsOf 61 = 5 := by kernel_rfl
theorem cellsLines : Tryz.prog.cellsOf 23 = 1 := by kernel_rfl
theorem cellsPaper : Tryz.prog.cellsOf 25 = 6 := by kernel_rfl
theorem list5 {α : Type} {l : List α} (h : l.length = 5) : ∃ a b c d e, l = [a, b, c, d, e] := by
  match l, h with
  | [a, b, c, d, e], _ => exact ⟨a, b, c, d, e, rfl⟩
theorem list6 {α : Type} {l : List α} (h : l.length = 6) : ∃ a b c d e f, l = [a, b, c, d, e, f] := by
  match l, h with
  | [a, b, c, d, e, f], _ => exact ⟨a, b, c, d, e, f, rfl⟩
theorem array6 {α : Type} {cs : Array α} (h : cs.size = 6) : ∃ a b c d e f, cs = #[a, b, c, d, e, f] := by
  obtain ⟨l⟩ := cs
  obtain ⟨a, b, c, d, e, f, rfl⟩ := list6 (show l.length = 6 from h)
  exact ⟨a, b, c, d, e, f, rfl⟩
theorem wf_bd {n : Int} (h : (Lit.int .i64 n).wf = true) : i64B n := by
  simp only [Lit.wf, Bool.and_eq_true, decide_eq_true_eq] at h
  have e1 : IntKind.i64.min = -9223372036854775808 := by decide
  have e2 : IntKind.i64.max = 9223372036854775807 := by decide
  rw [e1, e2] at h
  exact h
section
variable {H : Type} {enc : TypeId × Value → H} {W : World} {base : Nat} {spare : Nat → Bool} {held : Bool}
theorem openLn {fuel : Nat} {cs : List Value} {x : DataW H × List MemPlace} (h : DataW.trod enc Tryz.prog W base spare held fuel 61 cs = some x) :
    ∃ l : Ln, cs = [.int .i64 l.no, .string l.item, .int .i64 l.qty, .int .i64 l.money, .string l.note] ∧ l.item.size ≤ 9223372036854775807 ∧ l.note.size ≤ 9223372036854775807 ∧ LnI l := by
  obtain ⟨xs, n, rfl, hx, hl, hn, hf⟩ := DataW.trod_struct Tryz.underlying61 h
  rw [cellsLine] at hl
  obtain ⟨c0, c1, c2, c3, c4, rfl⟩ := list5 hl
  obtain ⟨x0, x1, x2, x3, x4, rfl⟩ := list5 (show xs.length = 5 from hn)
  obtain ⟨n0, k0, _, i0⟩ := DataW.trod_int Tryz.underlying2 (hf 0 _ rfl)
  obtain ⟨s1, k1, _, z1⟩ := DataW.trod_string Tryz.underlying9 (hf 1 _ rfl)
  obtain ⟨n2, k2, _, i2⟩ := DataW.trod_int Tryz.underlying2 (hf 2 _ rfl)
  obtain ⟨n3, k3, _, i3⟩ := DataW.trod_int Tryz.underlying2 (hf 3 _ rfl)
  obtain ⟨s4, k4, _, z4⟩ := DataW.trod_string Tryz.underlying9 (hf 4 _ rfl)
  simp [cellsString, cellsI64] at k0 k1 k2 k3 k4
  unfold maxLen at z1 z4
  exact ⟨⟨n0, s1, n2, n3, s4⟩, by rw [k0, k1, k2, k3, k4], z1, z4, wf_bd i0, wf_bd i2, wf_bd i3⟩
theorem openL {fuel : Nat} {cs : List Value} {x : DataW H × List MemPlace} (h : DataW.trod enc Tryz.prog W base spare held fuel 23 cs = some x) : ∃ v ls, cs = [v] ∧ RowL W v ls ∧ ∀ l ∈ ls, LnI l := by
  rcases open_slice Tryz.underlying23 h with ⟨rfl, _⟩ | ⟨a, len, cap, m, n, D, Pl, rfl, _, hl, hm, hmm, _, hx⟩
  · exact ⟨_, [], rfl, ⟨⟨_, _, rfl, fun h => absurd rfl h⟩, by simp, fun i l hi => by simp at hi⟩, fun l hl => by simp at hl⟩
  · have hlm : len ≤ m := by rw [hmm]; split <;> omega
    have inh : Inhabited Ln := ⟨⟨0, ⟨#[]⟩, 0, 0, ⟨#[]⟩⟩⟩
    obtain ⟨f, hf⟩ := choose_lt (α := Ln) (p := fun i l => (W.cell? ((a.add (i * 5)).add 0) = some (.int .i64 l.no) ∧ W.cell? ((a.add (i * 5)).add 1) = some (.string l.item) ∧ W.cell? ((a.add (i * 5)).add 2) = some (.int .i64 l.qty) ∧ W.cell? ((a.add (i * 5)).add 3) = some (.int .i64 l.money) ∧ W.cell? ((a.add (i * 5)).add 4) = some (.string l.note)) ∧ l.item.size ≤ 9223372036854775807 ∧ l.note.size ≤ 9223372036854775807 ∧ LnI l) (n := len) (fun i hi => by
      obtain ⟨cs', h1, h2⟩ := hx i (by omega)
      rw [cellsLine] at h1
      obtain ⟨l, rfl, z1, z2, zI⟩ := openLn h2
      have k := (World.cells?_some h1).2.2
      have k0 := k 0 (by omega)
      have k1 := k 1 (by omega)
      have k2 := k 2 (by omega)
      have k3 := k 3 (by omega)
      have k4 := k 4 (by omega)
      refine ⟨l, ⟨?_, ?_, ?_, ?_, ?_⟩, z1, z2, zI⟩
      · simpa using k0
      · simpa using k1
      · simpa using k2
      · simpa using k3
      · simpa using k4)
    have htl : ((List.range len).map f).length = len := by simp
    unfold maxLen at hm
    have hget : ∀ (i : Nat) (g : Ln), ((List.range len).map f)[i]? = some g → i < len ∧ g = f i := fun i g hi => by
      have hil := (List.getElem?_eq_some_iff.1 hi).1
      rw [htl] at hil
      exact ⟨hil, by simpa [hil] using hi.symm⟩
    refine ⟨_, (List.range len).map f, rfl, ⟨⟨some a, cap, by rw [htl], fun hn => ?_⟩, by omega, fun i g hi => ?_⟩, fun g hg => ?_⟩
    · obtain ⟨b, off, spot⟩ := a
      have hpos : 0 < len := by
        rcases Nat.eq_zero_or_pos len with rfl | g
        · exact absurd (by simp) hn
        · exact g
      have h0 := (hf 0 hpos).1.1
      have hspot : spot = none := by simpa [Addr.add] using World.cell?_spot h0
      subst hspot
      refine ⟨b, off, rfl, fun i g hi => ?_⟩
      obtain ⟨hil, rfl⟩ := hget i g hi
      obtain ⟨⟨k0, k1, k2, k3, k4⟩, _, _, _⟩ := hf i hil
      rw [addr_plain, addr_plain] at k0 k1 k2 k3 k4
      exact ⟨k0, k1, k2, k3, k4⟩
    · obtain ⟨hil, rfl⟩ := hget i g hi
      exact ⟨(hf i hil).2.1, (hf i hil).2.2.1⟩
    · obtain ⟨i, hi⟩ := List.getElem?_of_mem hg
      obtain ⟨hil, rfl⟩ := hget i g hi
      exact (hf i hil).2.2.2
set_option maxRecDepth 100000 in
theorem openP {r : Reach} {b0 : Nat} {v : Value} {d : DataW H} {p : List MemPlace} (hv : Value.okWide Tryz.prog W r b0 25 v) (h : DataW.Trod enc Tryz.prog W base spare held 25 v d p) :
    ∃ (q : Pap) (vn vl : Value), v = .agg #[.int .i64 q.kind, .string q.ref, .string q.other, .int .i64 q.day, vn, vl] ∧ PapR W vn vl q ∧ PapI q := by
  obtain ⟨cs, rfl, hsz⟩ := okWide_struct Tryz.underlying25 hv
  obtain ⟨c0, c1, c2, c3, c4, c5, rfl⟩ := array6 (hsz.trans cellsPaper)
  obtain ⟨fuel, hf0⟩ := h
  obtain ⟨xs, n, rfl, hx, hl, hn, hf⟩ := DataW.trod_struct Tryz.underlying25 hf0
  obtain ⟨x0, x1, x2, x3, x4, x5, rfl⟩ := list6 (show xs.length = 6 from hn)
  obtain ⟨n0, k0, _, _⟩ := DataW.trod_int Tryz.underlying2 (hf 0 _ rfl)
  obtain ⟨s1, k1, _, z1⟩ := DataW.trod_string Tryz.underlying9 (hf 1 _ rfl)
  obtain ⟨s2, k2, _, z2⟩ := DataW.trod_string Tryz.underlying9 (hf 2 _ rfl)
  obtain ⟨n3, k3, _, i3⟩ := DataW.trod_int Tryz.underlying2 (hf 3 _ rfl)
  obtain ⟨vn, ns, k4, r4⟩ := openS (hf 4 _ rfl)
  obtain ⟨vl, ls, k5, r5, rI⟩ := openL (hf 5 _ rfl)
  simp [Value.cells, cellsString, cellsI64, cellsStrings, cellsLines] at k0 k1 k2 k3 k4 k5
  unfold maxLen at z1 z2
  exact ⟨⟨n0, s1, s2, n3, ns, ls⟩, vn, vl, by rw [k0, k1, k2, k3, k4, k5], ⟨r4, r5, z1, z2⟩, wf_bd i3, rI⟩
end
end Go.Proofs.YtgecdmpokahahaaGreatDoor
namespace Go.Proofs.YtgecdmpokahahaaGreatDoor
open Go.ChangeShapes Go.WideShapes Go.ChangeAt Go.RowKit
set_option maxHeartbeats 1000000 in
theorem szS_any (v : Value) (ss : List ByteArray) (left : Int) (w : World) (h : RowS w v ss) (hl : 0 ≤ left ∧ left ≤ 1048576) :
    Calls Tryz.prog 19 #[v, .int .i64 left] w fun e w' => ∃ r : Int, e = .returned (.int .i64 r) ∧ (r = -1 ∨ (0 ≤ r ∧ r ≤ left ∧ BdS left.toNat ss)) ∧ Below w.heap.size w w' := by
  have hlen := h.len
  obtain ⟨a, cap, rfl⟩ := h.val
  have H : Hid (RowS w (.slice a ss.length cap) ss) := h
  clear h
  by_cases hn : left < (ss.length : Int)
  · have hn' : left - (ss.length : Int) < 0 := by omega
    go_enter Tryz.func19, Tryz.ntmps19
    go_wp2
    go_ret
    exact ⟨_, rfl, .inl rfl, Below.refl _ _⟩
  · have hn' : ¬ left - (ss.length : Int) < 0 := by omega
    go_enter Tryz.func19, Tryz.ntmps19
    go_wp2
    go_loopw [1, 5] (fun l i wr => ∃ (k : Nat) (r : Int), l = .int .i64 r ∧ i = .int .i64 (k : Int) ∧ k ≤ ss.length ∧ 0 ≤ r ∧ r ≤ left ∧ (∀ (j : Nat) (s : ByteArray), j < k → ss[j]? = some s → s.size ≤ left.toNat) ∧ wr = w) (fun _ i _ => ss.length - (intOf i).toNat)
    case atStart => exact ⟨0, _, rfl, rfl, by omega, by omega, by omega, fun j s h => by omega, rfl⟩
    case round =>
      obtain ⟨k, r, rfl, rfl, hk, hr0, hr1, hA, rfl⟩ := hrel
      have HA : Hid (∀ (j : Nat) (s : ByteArray), j < k → ss[j]? = some s → s.size ≤ left.toNat) := hA
      clear hA
      by_cases hlt : k < ss.length
      · have hlt' : (k : Int) < (ss.length : Int) := by omega
        obtain ⟨b, o, cap', s, e, hs, hc, hsz⟩ := H.out.at hlt
        simp only [Value.slice.injEq, true_and] at e
        obtain ⟨rfl, rfl⟩ := e
        have HS : Hid (ss[k]? = some s) := hs
        clear hs
        by_cases hneg : r - (s.size : Int) < 0
        · go_wp2
          go_ret
          exact ⟨_, rfl, .inl rfl, Below.refl _ _⟩
        · go_wp2
          go_roundw
          case rel =>
            refine ⟨k + 1, _, rfl, by go_num, by omega, by omega, by omega, fun j t hj ht => ?_, trivial⟩
            rcases Nat.lt_or_ge j k with g | g
            · exact HA.out j t g ht
            · obtain rfl : j = k := by omega
              rw [HS.out] at ht
              cases ht
              omega
          case measure => simp [intOf]; omega
      · obtain rfl : k = ss.length := by omega
        go_wp2
        go_ret
        refine ⟨r, rfl, .inr ⟨hr0, hr1, by omega, fun j s hj => HA.out j s ?_ hj⟩, Below.refl _ _⟩
        exact (List.getElem?_eq_some_iff.1 hj).1
theorem BdS.mono {m n : Nat} {ss : List ByteArray} (h : BdS m ss) (hmn : m ≤ n) : BdS n ss := ⟨Nat.le_trans h.1 hmn, fun i s hi => Nat.le_trans (h.2 i s hi) hmn⟩
end Go.Proofs.YtgecdmpokahahaaGreatDoor
