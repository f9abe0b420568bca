/- Texts of ours put together: PiU, PrR, HdI, IxMs. -/
import Derived.Test.YtkaolpnbddjdpaaGreatDoorG24
import Derived.Deep.Cut
import Derived.Deep.CutRange
import Derived.Test.YtkaolpnbddjdpaaGreatDoorG06
import Derived.Test.YtkaolpnbddjdpaaGreatDoorG00
import Derived.Test.YtkaolpnbddjdpaaGreatDoorG01
import Derived.Test.YtkaolpnbddjdpaaGreatDoorG02
import Derived.Deep.RegionHeld3
namespace Go.Proofs.YtkaolpnbddjdpaaGreatDoor
open Go.ChangeShapes Go.WideShapes Go.ChangeAt Go.RowKit
set_option maxRecDepth 20000 in
set_option maxHeartbeats 16000000 in
theorem paperRight_impl (p : Pap) (un ul : Value) (w : World) (hI : PapI p) (hP : PapR w un ul p) (hB : BdP 1048576 p) (hV : VarsAt w) :
    Calls Tryz.prog 82 #[.agg #[.int .i64 p.kind, .string p.ref, .string p.other, .int .i64 p.day, un, ul]] w fun e w' => e = .returned (.bool (papB p)) ∧ Below w.heap.size w w' := by
  obtain ⟨Un, Vn, rfl⟩ := hP.ns.val
  obtain ⟨Ul, Vl, rfl⟩ := hP.ls.val
  have hl0 := hB.2.2.2.1
  have hn0 := hB.2.2.1.1
  obtain ⟨W0, hW0⟩ : ∃ W0, w.alloc (.cells #[.int .i64 p.kind, .string p.ref, .string p.other, .int .i64 p.day, .slice Un p.notes.length Vn, .slice Ul p.lines.length Vl] 66) = W0 := ⟨_, rfl⟩
  have hb0 : Below w.heap.size w W0 := by rw [← hW0]; exact (Below.refl _ _).alloc (Nat.le_refl _) _
  have hbx : W0.heap[w.heap.size]? = some (.cells #[.int .i64 p.kind, .string p.ref, .string p.other, .int .i64 p.day, .slice Un p.notes.length Vn, .slice Ul p.lines.length Vl] 66) := by rw [← hW0]; exact World.alloc_heap_new _ _
  have HX : Hid (∀ W, Below W0.heap.size W0 W → W.cell? ⟨w.heap.size, 0, none⟩ = some (.int .i64 p.kind) ∧ W.cell? ⟨w.heap.size, 1, none⟩ = some (.string p.ref) ∧ W.cell? ⟨w.heap.size, 2, none⟩ = some (.string p.other) ∧ W.cell? ⟨w.heap.size, 3, none⟩ = some (.int .i64 p.day) ∧ W.cell? ⟨w.heap.size, 4, none⟩ = some (.slice Un p.notes.length Vn) ∧ W.cell? ⟨w.heap.size, 5, none⟩ = some (.slice Ul p.lines.length Vl)) := fun W hW => pbox ((hW.block _ (Array.getElem?_eq_some_iff.1 hbx).1).trans hbx)
  have HR : Hid (PapR W0 (.slice Un p.notes.length Vn) (.slice Ul p.lines.length Vl) p ∧ Below w.heap.size w W0 ∧ VarsAt W0 ∧ BdP 1048576 p ∧ PapI p ∧ (∀ W, Below W0.heap.size W0 W → w.heap.size < W.heap.size)) := ⟨hP.below hb0, hb0, hV.below hb0, hB, hI, fun W hW => by have := hW.size; have := (Array.getElem?_eq_some_iff.1 hbx).1; omega⟩
  obtain ⟨B, hBe⟩ : ∃ B, B = w.heap.size := ⟨_, rfl⟩
  obtain ⟨pb, hpb⟩ : ∃ pb, pb = papB p := ⟨_, rfl⟩
  have HPB : Hid (pb = papB p) := hpb
  rw [← hpb]
  clear hpb
  go_enter Tryz.func82, Tryz.ntmps82
  go_upto_region 1 with fail
  try rw [hW0]
  clear hW0 hbx hb0 hP hI hB hV
  obtain ⟨c0, c1, c2, c3, c4, c5⟩ := HX.out W0 (Below.refl _ _)
  by_cases hk : 1 ≤ p.kind ∧ p.kind ≤ 7
  · have hkB : kindB p.kind = true := by simp [kindB, hk]
    by_cases hl : 20 < p.lines.length
    · have hl' : (20 : Int) < (p.lines.length : Int) := by omega
      have HN : Hid (pb = false) := by show _ = _; rw [HPB.out]; exact papB_no fun g => by have := g.ln; omega
      go_wp2_with (first | (go_at_call 122; refine (isKind_any _ _).mono ?_; rintro e w1 ⟨rfl, rfl⟩; rw [hkB]; try dsimp only))
      go_ret
      exact ⟨by rw [HN.out]; rfl, HR.out.2.1⟩
    · have hl' : ¬ (20 : Int) < (p.lines.length : Int) := by omega
      have hl20 : p.lines.length ≤ 20 := by omega
      have hlen : (bodyW wordsI p).length = 1 + (p.notes.length + p.lines.length) := body_len wordsI p
      have Q1 : Hid (∀ W, Below W0.heap.size W0 W → Calls Tryz.prog 85 #[.agg #[.int .i64 p.kind, .string p.ref, .string p.other, .int .i64 p.day, .slice Un p.notes.length Vn, .slice Ul p.lines.length Vl]] W fun e w' => (∃ A C, e = .returned (.slice A (bodyW wordsI p).length C) ∧ RowG w' (.slice A (bodyW wordsI p).length C) (bodyW wordsI p) ∧ CapL (.slice A (bodyW wordsI p).length C) (bodyW wordsI p).length) ∧ Below W.heap.size W w') := fun W hW => by
        refine (bodyOf_any p _ _ W hk HR.out.2.2.2.2.1 (HR.out.1.below hW) HR.out.2.2.2.1 (HR.out.2.2.1.below hW)).mono ?_
        rintro e w' ⟨u, ps, rfl, hL, hb⟩
        obtain ⟨A, C, hu⟩ := hL.slice
        have hcp := hL.cap
        subst hu
        exact ⟨⟨A, C, rfl, hL.rowT (body_bd1 HR.out.2.2.2.2.1 HR.out.2.2.2.1) (by omega), hcp⟩, hb⟩
      have Q2 : Hid (∀ W A C, Below W0.heap.size W0 W → RowG W (.slice A (bodyW wordsI p).length C) (bodyW wordsI p) → CapL (.slice A (bodyW wordsI p).length C) (bodyW wordsI p).length → Calls Tryz.prog 123 #[.int .i64 p.kind, .slice A (bodyW wordsI p).length C] W fun e w' => (∃ k r o d An Nn Cn Al Nl Cl a c, e = .returned (.agg #[.int .i64 k, .string r, .string o, .int .i64 d, .slice An Nn Cn, .slice Al Nl Cl, .int .i64 a, .int .i64 c]) ∧ PoAlt p W.heap.size w' k r o d An Nn Cn Al Nl Cl a c) ∧ Below W.heap.size W w') := fun W A C hW hG hC => paperOfJ_any p _ W hk HR.out.2.2.2.2.1 HR.out.2.2.2.1 hl20 hG hC (HR.out.2.2.1.below hW)
      obtain ⟨M, hM⟩ : ∃ M, M = (bodyW wordsI p).length := ⟨_, rfl⟩
      rw [← hM] at Q1 Q2
      clear hlen
      have hqk := hkB
      go_upto_region 3 with (first | (go_at_call 122; refine (isKind_any _ _).mono ?_; rintro e W0 ⟨rfl, rfl⟩; rw [hqk]; try dsimp only))
      try rw [← hBe]
      rw [← hBe] at c0 c1 c2 c3 c4 c5
      have HXB : Hid (∀ W, Below W0.heap.size W0 W → W.cell? ⟨B, 0, none⟩ = some (.int .i64 p.kind) ∧ W.cell? ⟨B, 1, none⟩ = some (.string p.ref) ∧ W.cell? ⟨B, 2, none⟩ = some (.string p.other) ∧ W.cell? ⟨B, 3, none⟩ = some (.int .i64 p.day) ∧ W.cell? ⟨B, 4, none⟩ = some (.slice Un p.notes.length Vn) ∧ W.cell? ⟨B, 5, none⟩ = some (.slice Ul p.lines.length Vl)) := fun W hW => by rw [hBe]; exact HX.out W hW
      clear hBe hM
      have qn0 : B ≠ W0.heap.size := Nat.ne_of_lt (cell_lt c0)
      have qm0 : W0.heap.size ≠ B := Ne.symm qn0
      go_cut [3] from 14 to 18 (fun s3 wx => ∃ P, s3 = .pointer (some ⟨P, 0, none⟩) ∧ PrX p W0 wx P)
      case first =>
        go_region_held3 (fun W => W.cell? ⟨B, 0, none⟩ = some (.int .i64 p.kind) ∧ W.cell? ⟨B, 1, none⟩ = some (.string p.ref) ∧ W.cell? ⟨B, 2, none⟩ = some (.string p.other) ∧ W.cell? ⟨B, 3, none⟩ = some (.int .i64 p.day) ∧ W.cell? ⟨B, 4, none⟩ = some (.slice Un p.notes.length Vn) ∧ W.cell? ⟨B, 5, none⟩ = some (.slice Ul p.lines.length Vl)) (go_keep) (first | (go_at_call 85; refine (Q1.out _ (by with_reducible first | exact Below.refl _ _ | exact (Below.refl _ _).drew | exact (Below.refl _ _).alloc (Nat.le_refl _) _ | exact ((Below.refl _ _).alloc (Nat.le_refl _) _).drew)).mono ?_; rintro e wa ⟨⟨A, C, rfl, hGa, hCa⟩, hba⟩; have ba : Below W0.heap.size W0 wa := (((by with_reducible first | exact hba | exact undrewP hba | exact unallocP hba | exact unallocP (undrewP hba)) : Below W0.heap.size W0 wa)); obtain ⟨g0, g1, g2, g3, g4, g5⟩ := HXB.out wa ba; obtain ⟨h0, h1, h2, h3, h4, h5⟩ := HXB.out wa.drew ba.drew; obtain ⟨i0, i1, i2, i3, i4, i5⟩ := HXB.out (wa.alloc (.cells #[.int .i64 0, .string ⟨#[]⟩, .string ⟨#[]⟩, .int .i64 0, .slice none 0 0, .slice none 0 0, .int .i64 0, .int .i64 0] 127)) (ba.alloc ba.size _); have qn1 : B ≠ wa.heap.size := Nat.ne_of_lt (cell_lt g0); have qm1 : wa.heap.size ≠ B := Ne.symm qn1; (try (with_reducible have kx1 := boxNewP hba)); (try (with_reducible have kx1 := boxNewQ hba)); (try clear hba); try dsimp only) | (go_at_call 123; refine (Q2.out _ A C (by with_reducible first | exact ba | exact ba.drew | exact ba.alloc ba.size _ | exact (ba.alloc ba.size _).drew) (by with_reducible first | exact hGa | exact hGa.below (Below.refl _ _).drew | exact hGa.below ((Below.refl _ _).alloc (Nat.le_refl _) _) | exact hGa.below (((Below.refl _ _).alloc (Nat.le_refl _) _).drew)) hCa).mono ?_; rintro e wb ⟨⟨k, r, o, d, An, Nn, Cn, Al, Nl, Cl, a, c, rfl, hAl⟩, hbb⟩; have bb : Below W0.heap.size W0 wb := ba.trans ((((by with_reducible first | exact hbb | exact undrewP hbb | exact unallocP hbb | exact unallocP (undrewP hbb)) : Below wa.heap.size wa wb)).mono ba.size); obtain ⟨l0, l1, l2, l3, l4, l5⟩ := HXB.out wb bb; obtain ⟨m0, m1, m2, m3, m4, m5⟩ := HXB.out wb.drew bb.drew; obtain ⟨n0, n1, n2, n3, n4, n5⟩ := HXB.out (wb.alloc (.cells #[.int .i64 0, .string ⟨#[]⟩, .string ⟨#[]⟩, .int .i64 0, .slice none 0 0, .slice none 0 0, .int .i64 0, .int .i64 0] 127)) (bb.alloc bb.size _); have qn2 : B ≠ wb.heap.size := Nat.ne_of_lt (cell_lt l0); have qm2 : wb.heap.size ≠ B := Ne.symm qn2; (try (have kx2 := ((((by with_reducible first | exact hbb | exact undrewP hbb | exact unallocP hbb | exact unallocP (undrewP hbb)) : Below wa.heap.size wa wb)).block _ (Array.getElem?_eq_some_iff.1 kx1).1).trans kx1)); (try (with_reducible have kx2 := boxNewP hbb)); (try (with_reducible have kx2 := boxNewQ hbb)); (try (have kk := box8o kx2; obtain ⟨j0, j1, j2, j3, j4, j5, j6, j7⟩ := kk; have hfz := frz5 kx2)); (try clear hbb); try dsimp only))
        all_goals rename_i hHeld
        all_goals clear hHeld
        all_goals go_wp2_with fail
        all_goals go_meet
        · exact ⟨_, rfl, bb.alloc bb.size _, _, k, r, o, d, An, Nn, Cn, Al, Nl, Cl, a, c, World.alloc_heap_new _ _, hAl.below ((Below.refl _ _).alloc (Nat.le_refl _) _)⟩
        · exact ⟨_, rfl, setB8P bb ba.size, _, k, r, o, d, An, Nn, Cn, Al, Nl, Cl, a, c, set8P kx2, hAl.set8 (show wa.heap.size < (wa.alloc _).heap.size by simp)⟩
        · exact ⟨_, rfl, setB8P bb (Nat.le_refl _), _, k, r, o, d, An, Nn, Cn, Al, Nl, Cl, a, c, set8P kx2, hAl.set8 (Array.getElem?_eq_some_iff.1 kx1).1⟩
      case rest =>
        obtain ⟨P, rfl, hbX, B', k, r, o, d, An, Nn, Cn, Al, Nl, Cl, a, c, hX, hAl⟩ := hcut
        rename World => wx
        obtain ⟨j0, j1, j2, j3, j4, j5, j6, j7⟩ := box8o hX
        have HXx : Hid (Below W0.heap.size W0 wx ∧ Below w.heap.size w wx) := ⟨hbX, HR.out.2.1.trans (hbX.mono HR.out.2.1.size)⟩
        clear c0 c1 c2 c3 c4 c5 hX Q1 Q2 qn0 qm0
        obtain ⟨c0, c1, c2, c3, c4, c5⟩ := HXB.out wx hbX
        clear hbX
        rcases hAl with ⟨rfl, rfl, rfl, rfl, rfl, hPx, _, ht, hp⟩ | ⟨hc, hn⟩
        · have hPp := HR.out.1.below HXx.out.1
          have HPS : Hid (PapR wx (.slice An Nn Cn) (.slice Al Nl Cl) (rdP lnI p) ∧ PapR wx (.slice Un p.notes.length Vn) (.slice Ul p.lines.length Vl) p ∧ (tcV p.kind (bodyW wordsI p)).2.2 = 0 ∧ PlcOk p.kind (p.lines.map (lnI p.kind))) := ⟨hPx, hPp, ht, hp⟩
          clear hPx hPp ht hp
          go_wp2_with (first | (go_at_call 38; refine (paperSame_impl (rdP lnI p) p _ _ _ _ _ HPS.out.1 HPS.out.2.1).mono ?_; rintro e w9 ⟨⟨bv, rfl, hbv⟩, hb9⟩; have H9 : Hid (Below w.heap.size w w9 ∧ (bv = true ↔ rdP lnI p = p)) := ⟨HXx.out.2.trans (hb9.mono HXx.out.2.size), hbv⟩; clear hb9 hbv; try dsimp only))
          go_ret
          refine ⟨?_, H9.out.1⟩
          have e1 : pb = bv := by
            rw [HPB.out]
            cases hbv : bv with
            | true => exact papB_yes ⟨hk, hl20, HPS.out.2.2.1, HPS.out.2.2.2, H9.out.2.1 hbv⟩
            | false => exact papB_no fun g => by have := H9.out.2.2 g.sm; rw [hbv] at this; cases this
          rw [e1]
          rfl
        · have hc' : (c == 0) = false := by simpa using hc
          have HN : Hid (pb = false) := by show _ = _; rw [HPB.out]; exact papB_no fun g => hn ⟨g.tb, g.pl⟩
          clear hn
          go_wp2
          go_ret
          exact ⟨by rw [HN.out]; rfl, HXx.out.2⟩
  · have hkB : kindB p.kind = false := by simp [kindB]; omega
    have HN : Hid (pb = false) := by show _ = _; rw [HPB.out]; exact papB_no fun g => hk g.kd
    go_wp2_with (first | (go_at_call 122; refine (isKind_any _ _).mono ?_; rintro e w1 ⟨rfl, rfl⟩; rw [hkB]; try dsimp only))
    go_ret
    exact ⟨by rw [HN.out]; rfl, HR.out.2.1⟩
end Go.Proofs.YtkaolpnbddjdpaaGreatDoor
namespace Go.Proofs.YtkaolpnbddjdpaaGreatDoor
open Go.ChangeShapes Go.WideShapes Go.ChangeAt Go.RowKit
set_option maxRecDepth 20000 in
set_option maxHeartbeats 4000000 in
theorem papersRight_any (v : Value) (ps : List Pap) (w : World) (h : RowPs w v ps) (hI : ∀ q ∈ ps, PapI q) (hB : BdPs 1048576 ps) (hV : VarsAt w) :
    Calls Tryz.prog 44 #[v] w fun e w' => e = .returned (.bool (ps.all papB)) ∧ Below w.heap.size w w' := by
  obtain ⟨A, C, rfl⟩ := h.val
  have hlen := h.len
  have H0 : Hid (RowPs w (.slice A ps.length C) ps ∧ VarsAt w ∧ BdPs 1048576 ps ∧ ∀ q ∈ ps, PapI q) := ⟨h, hV, hB, hI⟩
  obtain ⟨y, hy⟩ : ∃ y, y = ps.all papB := ⟨_, rfl⟩
  have HY : Hid (y = ps.all papB) := hy
  rw [← hy]
  clear h hV hB hI hy
  go_enter Tryz.func44, Tryz.ntmps44
  go_wp2_with fail
  go_loopw [7] (fun iv wr => ∃ k : Nat, iv = .int .i64 (k : Int) ∧ k ≤ ps.length ∧ (∀ (i : Nat) (q : Pap), i < k → ps[i]? = some q → papB q = true) ∧ Below w.heap.size w wr) (fun iv _ => ps.length - (intOf iv).toNat)
  case atStart => exact ⟨0, rfl, by omega, fun i q hi => by omega, Below.refl _ _⟩
  case round =>
    obtain ⟨k, rfl, hk, hok, hb⟩ := hrel
    by_cases hlt : k < ps.length
    · have hlt' : (k : Int) < (ps.length : Int) := by omega
      obtain ⟨b, o, cap', q, vn, vl, e, hs, hat, hpr⟩ := (H0.out.1.below hb).at hlt
      simp only [Value.slice.injEq, true_and] at e
      obtain ⟨rfl, rfl⟩ := e
      obtain ⟨An, Cn, rfl⟩ := hpr.ns.val
      obtain ⟨Al, Cl, rfl⟩ := hpr.ls.val
      have hqm := List.mem_of_getElem? hs
      have HI : Hid ((∀ (i : Nat) (q : Pap), i < k → ps[i]? = some q → papB q = true) ∧ ps[k]? = some q ∧ Below w.heap.size w wr) := ⟨hok, hs, hb⟩
      have ha : Below wr.heap.size wr (wr.alloc (.cells #[.int .i64 q.kind, .string q.ref, .string q.other, .int .i64 q.day, .slice An q.notes.length Cn, .slice Al q.lines.length Cl] 66)) := (Below.refl _ _).alloc (Nat.le_refl _) _
      have QP := paperRight_impl q (.slice An q.notes.length Cn) (.slice Al q.lines.length Cl) (wr.alloc (.cells #[.int .i64 q.kind, .string q.ref, .string q.other, .int .i64 q.day, .slice An q.notes.length Cn, .slice Al q.lines.length Cl] 66)) (H0.out.2.2.2 q hqm) (hpr.below ha) (H0.out.2.2.1.2 k q hs) (H0.out.2.1.below (hb.trans (ha.mono hb.size)))
      have HA : Hid (Below w.heap.size w (wr.alloc (.cells #[.int .i64 q.kind, .string q.ref, .string q.other, .int .i64 q.day, .slice An q.notes.length Cn, .slice Al q.lines.length Cl] 66))) := hb.trans (ha.mono hb.size)
      obtain ⟨x, hx⟩ : ∃ x, x = papB q := ⟨_, rfl⟩
      have HX : Hid (x = papB q) := hx
      rw [← hx] at QP
      obtain ⟨p0, p1, p2, p3, p4, p5⟩ := hat
      clear hs hb hok hx hpr ha hqm
      go_wp2_with fail
      refine QP.mono ?_
      rintro e w3 ⟨rfl, hb3⟩
      have H3 : Hid (Below w.heap.size w w3) := HA.out.trans (hb3.mono HA.out.size)
      clear hb3 QP p0 p1 p2 p3 p4 p5
      cases x with
      | false =>
        have HE : Hid (y = false) := by
          show y = false
          rw [HY.out, List.all_eq_false]
          exact ⟨q, List.mem_of_getElem? HI.out.2.1, by rw [← HX.out]; simp⟩
        go_wp2
        go_ret
        exact ⟨by rw [HE.out]; rfl, H3.out⟩
      | true =>
        go_wp2
        go_roundw
        case rel =>
          refine ⟨k + 1, by go_num, by omega, fun i q' hi hc => ?_, H3.out⟩
          rcases Nat.lt_or_ge i k with g | g
          · exact HI.out.1 i q' g hc
          · obtain rfl : i = k := by omega
            rw [HI.out.2.1] at hc
            cases hc
            exact HX.out.symm
        case measure => simp [intOf]; omega
    · obtain rfl : k = ps.length := by omega
      have HE : Hid (y = true ∧ Below w.heap.size w wr) := by
        refine ⟨?_, hb⟩
        rw [HY.out, List.all_eq_true]
        intro q hq
        obtain ⟨i, hi⟩ := List.mem_iff_getElem?.1 hq
        exact hok i q (List.getElem?_eq_some_iff.1 hi).1 hi
      clear hb hok
      go_wp2
      go_ret
      exact ⟨by rw [HE.out.1]; rfl, HE.out.2⟩
end Go.Proofs.YtkaolpnbddjdpaaGreatDoor
namespace Go.Proofs.YtkaolpnbddjdpaaGreatDoor
open Go.ChangeShapes Go.WideShapes Go.ChangeAt Go.RowKit
set_option maxHeartbeats 1000000 in
theorem numbered_any (n : Int) (w : World) : Calls Tryz.prog 158 #[.agg #[.int .i64 n]] w fun e w' => e = .returned (.bool (ctlB n)) ∧ Below w.heap.size w w' := by
  go_enter Tryz.func158, Tryz.ntmps158
  go_wp2_with fail
  refine (isControl_any n _).mono ?_
  rintro e w1 ⟨rfl, rfl⟩
  go_wp2
  go_ret
  exact ⟨rfl, (Below.refl _ _).alloc (Nat.le_refl _) _⟩
set_option maxHeartbeats 1000000 in
theorem ixAround_any (f t : ByteArray) (n : Int) (A : Option Addr) (l C : Nat) (w : World) : Calls Tryz.prog 72 #[.agg #[.string f, .string t, .int .i64 n, .slice A l C]] w fun e w' => e = .returned (.agg #[.int .i64 n, .string f, .string t, .slice A l C]) ∧ Below w.heap.size w w' := by
  go_enter Tryz.func72, Tryz.ntmps72
  go_wp2
  exact bodyPost_ret (v := .agg #[.int .i64 n, .string f, .string t, .slice A l C]) (by simp [results, Tryz.results72, go_sem]) rfl ⟨rfl, ((Below.refl _ _).alloc (Nat.le_refl _) _).alloc (by simp) _⟩
set_option maxHeartbeats 1000000 in
theorem headRight_any (n : Int) (f t : ByteArray) (A : Option Addr) (l C : Nat) (w : World) : Calls Tryz.prog 124 #[.agg #[.int .i64 n, .string f, .string t, .slice A l C]] w fun e w' => e = .returned (.bool (ctlB n && (nameB f && nameB t))) ∧ Below w.heap.size w w' := by
  have b0 : Below w.heap.size w (w.alloc (.cells #[.int .i64 n, .string f, .string t, .slice A l C] 115)) := (Below.refl _ _).alloc (Nat.le_refl _) _
  go_enter Tryz.func124, Tryz.ntmps124
  go_wp2_with fail
  refine (numbered_any n _).mono ?_
  rintro e w1 ⟨rfl, hb1⟩
  have c1 : w1.cell? ⟨w.heap.size, 1, none⟩ = some (.string f) := (hb1.cell (p := ⟨w.heap.size, 1, none⟩) (by simp)).trans (by simp [go_sem])
  have c2 : w1.cell? ⟨w.heap.size, 2, none⟩ = some (.string t) := (hb1.cell (p := ⟨w.heap.size, 2, none⟩) (by simp)).trans (by simp [go_sem])
  have H1 : Hid (Below w.heap.size w w1) := b0.trans (hb1.mono (by simp))
  clear hb1 b0
  cases hc : ctlB n
  · go_wp2
    go_ret
    exact ⟨ret_bool (by simp [hc]), H1.out⟩
  · go_wp2_with fail
    refine (isName_any f _).mono ?_
    rintro e w2 ⟨rfl, rfl⟩
    cases hf : nameB f
    · go_wp2
      go_ret
      exact ⟨ret_bool (by simp [hf]), H1.out⟩
    · go_wp2_with fail
      refine (isName_any t _).mono ?_
      rintro e w3 ⟨rfl, rfl⟩
      go_wp2
      go_ret
      exact ⟨ret_bool (by simp [hc, hf]), H1.out⟩
end Go.Proofs.YtkaolpnbddjdpaaGreatDoor
namespace Go.Proofs.YtkaolpnbddjdpaaGreatDoor
open Go.ChangeShapes Go.WideShapes Go.ChangeAt Go.RowKit
set_option maxHeartbeats 1000000 in
theorem mayStand_any (tag : ByteArray) (v : Value) (es : List (List ByteArray)) (w : World) (h : RowE w v es) (hE : BdE 1048576 es) : Calls Tryz.prog 181 #[.agg #[.string tag, v]] w fun e w' => e = .returned (.bool (bodyB (tag, es))) ∧ Below w.heap.size w w' := by
  obtain ⟨A, C, rfl⟩ := h.val
  have b0 : Below w.heap.size w (w.alloc (.cells #[.string tag, .slice A es.length C] 90)) := (Below.refl _ _).alloc (Nat.le_refl _) _
  by_cases ho : ownT tag = true
  · have HO : Hid (ownT tag = true) := ho
    unfold ownT at ho
    simp only [Bool.or_eq_true, decide_eq_true_eq] at ho
    rcases ho with rfl | rfl | rfl | rfl | rfl | rfl
    all_goals
      go_enter Tryz.func181, Tryz.ntmps181
      go_wp2
      go_ret
      exact ⟨ret_bool (by simp [bodyB, HO.out]), b0⟩
  · simp only [Bool.not_eq_true] at ho
    have HO : Hid (ownT tag = false) := ho
    unfold ownT at ho
    simp only [Bool.or_eq_false_iff, decide_eq_false_iff_not] at ho
    obtain ⟨q1, q2, q3, q4, q5, q6⟩ := ho
    obtain ⟨a1, b1, c1⟩ := toList_neq3 q1
    obtain ⟨a2, b2, c2⟩ := toList_neq3 q2
    obtain ⟨a3, b3, c3⟩ := toList_neq3 q3
    obtain ⟨a4, b4, c4⟩ := toList_neq3 q4
    obtain ⟨a5, b5, c5⟩ := toList_neq3 q5
    obtain ⟨a6, b6, c6⟩ := toList_neq3 q6
    have HR : Hid (RowE (w.alloc (.cells #[.string tag, .slice A es.length C] 90)) (.slice A es.length C) es) := h.below b0
    clear h q1 q2 q3 q4 q5 q6
    go_enter Tryz.func181, Tryz.ntmps181
    go_wp2_with fail
    refine (right_seg_impl tag _ es _ HR.out hE).mono ?_
    rintro e w2 ⟨rfl, hb2⟩
    have HB : Hid (Below w.heap.size w w2) := b0.trans (hb2.mono (by simp))
    clear hb2 a1 b1 c1 a2 b2 c2 a3 b3 c3 a4 b4 c4 a5 b5 c5 a6 b6 c6
    go_wp2
    go_ret
    exact ⟨ret_bool (by simp [bodyB, HO.out]), HB.out⟩
end Go.Proofs.YtkaolpnbddjdpaaGreatDoor
