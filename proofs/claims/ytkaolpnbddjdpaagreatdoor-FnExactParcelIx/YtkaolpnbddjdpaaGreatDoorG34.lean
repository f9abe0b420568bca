/- Texts of ours put together: PsG, PcR. -/
import Derived.Test.YtkaolpnbddjdpaaGreatDoorG51
import Derived.Test.YtkaolpnbddjdpaaGreatDoorG33
import Derived.Test.YtkaolpnbddjdpaaGreatDoorG27
import Derived.Test.YtkaolpnbddjdpaaGreatDoorG18
import Derived.Test.YtkaolpnbddjdpaaGreatDoorG20
import Derived.Test.YtkaolpnbddjdpaaGreatDoorG25
import Derived.Test.YtkaolpnbddjdpaaGreatDoorG26
import Derived.Test.YtkaolpnbddjdpaaGreatDoorG28
namespace Go.Proofs.YtkaolpnbddjdpaaGreatDoor
open Go.ChangeShapes Go.WideShapes Go.ChangeAt Go.RowKit
theorem seg_bdE {gs : List Seg} (h : Bd1 gs) {k : Nat} {g : Seg} (hg : gs[k]? = some g) : BdE 1048576 g.2 := by
  obtain ⟨h1, h2, h3⟩ := h g (List.mem_of_getElem? hg)
  refine ⟨by omega, fun j e he => ?_⟩
  obtain ⟨k1, k2⟩ := h3 e (List.mem_of_getElem? he)
  exact ⟨by omega, fun m t ht => k2 t (List.mem_of_getElem? ht)⟩
theorem papB_S {p : Pap} : papB p = true ↔ PapOkS p :=
  ⟨fun h => (papOk_iff p).1 (Classical.byContradiction fun g => by rw [papB_no g] at h; cases h), fun h => papB_yes ((papOk_iff p).2 h)⟩
theorem papB_noS {p : Pap} (h : ¬ PapOkS p) : papB p = false := by
  cases e : papB p with
  | false => rfl
  | true => exact absurd (papB_S.1 e) h
set_option maxRecDepth 20000 in
set_option maxHeartbeats 16000000 in
theorem paperRight_spec (p : Pap) (un ul : Value) (w : World) (hI : PapI p) (hP : PapR w un ul p) (hB : BdP 1048576 p) :
    Calls Tryz.prog 41 #[.agg #[.int .i64 p.kind, .string p.ref, .string p.other, .int .i64 p.day, un, ul]] w fun e w' => e = .returned (.bool (papB p)) ∧ Below w.heap.size w w' := by
  obtain ⟨An, Cn, rfl⟩ := hP.ns.val
  obtain ⟨Al, Cl, rfl⟩ := hP.ls.val
  have hl0 := hB.2.2.2.1
  have hn0 := hB.2.2.1.1
  obtain ⟨W0, hW0⟩ : ∃ W0, w.alloc (.cells #[.int .i64 p.kind, .string p.ref, .string p.other, .int .i64 p.day, .slice An p.notes.length Cn, .slice Al p.lines.length Cl] 66) = W0 := ⟨_, rfl⟩
  have hb0 : Below w.heap.size w W0 := by rw [← hW0]; exact (Below.refl _ _).alloc (Nat.le_refl _) _
  have hbx : W0.heap[w.heap.size]? = some (.cells #[.int .i64 p.kind, .string p.ref, .string p.other, .int .i64 p.day, .slice An p.notes.length Cn, .slice Al p.lines.length Cl] 66) := by rw [← hW0]; exact World.alloc_heap_new _ _
  have HX : Hid (∀ W, Below W0.heap.size W0 W → W.cell? ⟨w.heap.size, 0, none⟩ = some (.int .i64 p.kind) ∧ W.cell? ⟨w.heap.size, 1, none⟩ = some (.string p.ref) ∧ W.cell? ⟨w.heap.size, 2, none⟩ = some (.string p.other) ∧ W.cell? ⟨w.heap.size, 3, none⟩ = some (.int .i64 p.day) ∧ W.cell? ⟨w.heap.size, 4, none⟩ = some (.slice An p.notes.length Cn) ∧ W.cell? ⟨w.heap.size, 5, none⟩ = some (.slice Al p.lines.length Cl)) := fun W hW => pbox ((hW.block _ (Array.getElem?_eq_some_iff.1 hbx).1).trans hbx)
  have HR : Hid (PapR W0 (.slice An p.notes.length Cn) (.slice Al p.lines.length Cl) p ∧ Below w.heap.size w W0 ∧ BdP 1048576 p ∧ PapI p) := ⟨hP.below hb0, hb0, hB, hI⟩
  obtain ⟨pb, hpb⟩ : ∃ pb, pb = papB p := ⟨_, rfl⟩
  have HPB : Hid (pb = papB p) := hpb
  rw [← hpb]
  clear hpb
  obtain ⟨c0, c1, c2, c3, c4, c5⟩ := HX.out W0 (Below.refl _ _)
  go_enter Tryz.func41, Tryz.ntmps41
  go_upto_region 1 with fail
  try rw [hW0]
  clear hW0 hbx hb0 hP hI hB
  by_cases hn : 40 < p.notes.length
  · have hn' : (40 : Int) < (p.notes.length : Int) := by omega
    have HN : Hid (pb = false) := by show _ = _; rw [HPB.out]; exact papB_noS fun g => by have := g.nt; omega
    go_wp2
    go_ret
    exact ⟨by rw [HN.out]; rfl, HR.out.2.1⟩
  have hn' : ¬ (40 : Int) < (p.notes.length : Int) := by omega
  by_cases hl : 20 < p.lines.length
  · have hl' : (20 : Int) < (p.lines.length : Int) := by omega
    have HN : Hid (pb = false) := by show _ = _; rw [HPB.out]; exact papB_noS fun g => by have := g.ln; omega
    go_wp2
    go_ret
    exact ⟨by rw [HN.out]; rfl, HR.out.2.1⟩
  have hl' : ¬ (20 : Int) < (p.lines.length : Int) := by omega
  have hlen : (bodyW wordsS p).length = 1 + (p.notes.length + p.lines.length) := body_len wordsS p
  obtain ⟨M, hM⟩ : ∃ M, M = (bodyW wordsS p).length := ⟨_, rfl⟩
  have hMb : M ≤ 61 := by omega
  have HM : Hid (M = (bodyW wordsS p).length ∧ (p.lines.length ≤ 20 ∧ p.notes.length ≤ 40) ∧ Bd1 (bodyW wordsS p)) := ⟨hM, ⟨by omega, by omega⟩, body_bd1S HR.out.2.2.2 HR.out.2.2.1⟩
  clear hM hlen
  go_wp2_with fail
  refine (l05Body_any p _ _ _ HR.out.2.2.2 HR.out.1 HR.out.2.2.1).mono ?_
  rintro e w1 ⟨u1, ps, rfl, hL, hb1⟩
  obtain ⟨A1, C1, hu1⟩ := hL.slice
  rw [← HM.out.1] at hu1
  subst hu1
  have hG := hL.rowT HM.out.2.2 (by rw [← HM.out.1]; omega)
  have H1 : Hid (RowG w1 (.slice A1 M C1) (bodyW wordsS p) ∧ Below W0.heap.size W0 w1 ∧ Below w.heap.size w w1) := ⟨hG, hb1, HR.out.2.1.trans (hb1.mono HR.out.2.1.size)⟩
  clear hG hL hb1 c0 c1 c2 c3 c4 c5 hn hn' hl hl'
  go_wp2_with fail
  go_loopw [4] (fun i wr => ∃ k : Nat, i = .int .i64 (k : Int) ∧ k ≤ M ∧ (∀ (j : Nat) (g : Seg), j < k → (bodyW wordsS p)[j]? = some g → rightG g.1 g.2 = true) ∧ Below w1.heap.size w1 wr) (fun i _ => M - (intOf i).toNat)
  case atStart => exact ⟨0, rfl, by omega, fun j g hj => by omega, Below.refl _ _⟩
  case round =>
    obtain ⟨k, rfl, hkM, hA, hb⟩ := hrel
    have HA : Hid ((∀ (j : Nat) (g : Seg), j < k → (bodyW wordsS p)[j]? = some g → rightG g.1 g.2 = true) ∧ Below w1.heap.size w1 wr ∧ Below w.heap.size w wr) := ⟨hA, hb, H1.out.2.2.trans (hb.mono H1.out.2.2.size)⟩
    by_cases hlt : k < M
    · have hlt' : (k : Int) < (M : Int) := by omega
      obtain ⟨b, o, cap', g, u, e, hs, q0, q1, hE, _⟩ := (H1.out.1.below hb).at (show k < (bodyW wordsS p).length by rw [← HM.out.1]; exact hlt)
      simp only [Value.slice.injEq] at e
      obtain ⟨rfl, hNe, rfl⟩ := e
      obtain ⟨gt, ge⟩ := g
      obtain ⟨Au, Cu, hu⟩ := RowE.val hE
      subst hu
      have hBE := seg_bdE HM.out.2.2 hs
      obtain ⟨rb, hrb⟩ : ∃ rb, rb = rightG gt ge := ⟨_, rfl⟩
      have QS := right_seg_spec gt (.slice Au ge.length Cu) ge wr hE hBE
      rw [← hrb] at QS
      have HS : Hid ((bodyW wordsS p)[k]? = some (gt, ge) ∧ rb = rightG gt ge) := ⟨hs, hrb⟩
      have q0' : wr.cell? ⟨b, o + k * 2, none⟩ = some (.string gt) := q0
      have q1' : wr.cell? ⟨b, o + k * 2 + 1, none⟩ = some (.slice Au ge.length Cu) := q1
      clear hA hb hs hE hBE hrb hNe q0 q1
      go_wp2_with fail
      refine QS.mono ?_
      rintro e w2 ⟨rfl, hb2⟩
      have H2 : Hid (Below w1.heap.size w1 w2 ∧ Below w.heap.size w w2) := ⟨HA.out.2.1.trans (hb2.mono HA.out.2.1.size), HA.out.2.2.trans (hb2.mono HA.out.2.2.size)⟩
      clear hb2 QS
      cases rb with
      | true =>
        go_wp2
        go_roundw
        case rel =>
          refine ⟨k + 1, by go_num, by omega, fun j g hj hg => ?_, H2.out.1⟩
          rcases Nat.lt_or_ge j k with q | q
          · exact HA.out.1 j g q hg
          · obtain rfl : j = k := by omega
            rw [HS.out.1] at hg
            cases hg
            exact HS.out.2.symm
        case measure => simp [intOf]; omega
      | false =>
        have HN : Hid (pb = false) := by
          show _ = _
          rw [HPB.out]
          refine papB_noS fun g => ?_
          have := g.rt (gt, ge) (List.mem_of_getElem? HS.out.1)
          rw [show rightG gt ge = false from HS.out.2.symm] at this
          cases this
        go_wp2
        go_ret
        exact ⟨by rw [HN.out]; rfl, H2.out.2⟩
    · obtain rfl : k = M := by omega
      have HAll : Hid (∀ g ∈ bodyW wordsS p, rightG g.1 g.2 = true) := fun g hg => by
        obtain ⟨j, hj⟩ := List.getElem?_of_mem hg
        exact HA.out.1 j g (by rw [HM.out.1]; exact (List.getElem?_eq_some_iff.1 hj).1) hj
      have bW : Below W0.heap.size W0 wr := H1.out.2.1.trans (hb.mono H1.out.2.1.size)
      obtain ⟨c0, c1, c2, c3, c4, c5⟩ := HX.out wr bW
      have HW : Hid (RowG wr (.slice A1 k C1) (bodyW wordsS p) ∧ Below W0.heap.size W0 wr) := ⟨H1.out.1.below hb, bW⟩
      clear hA hb bW
      go_wp2_with fail
      refine (paperOf_spec p _ _ HR.out.2.2.2 HR.out.2.2.1 HM.out.2.1.1 HM.out.2.1.2 HW.out.1).mono ?_
      rintro e w3 ⟨hb3, (⟨vn, vl, rfl, hP3, ht, hpl⟩ | ⟨a, c, rfl, hc, hno⟩)⟩
      · obtain ⟨A3, C3, hv3⟩ := hP3.ns.val
        obtain ⟨A4, C4, hv4⟩ := hP3.ls.val
        subst hv3 hv4
        obtain ⟨N3, hN3⟩ : ∃ N3, N3 = (rdP lnS p).notes.length := ⟨_, rfl⟩
        obtain ⟨N4, hN4⟩ : ∃ N4, N4 = (rdP lnS p).lines.length := ⟨_, rfl⟩
        rw [← hN3, ← hN4] at hP3
        try rw [← hN3]
        try rw [← hN4]
        obtain ⟨W4, hW4⟩ : ∃ W4, w3.alloc (.cells #[.int .i64 (rdP lnS p).kind, .string (rdP lnS p).ref, .string (rdP lnS p).other, .int .i64 (rdP lnS p).day, .slice A3 N3 C3, .slice A4 N4 C4, .int .i64 0, .int .i64 0] 127) = W4 := ⟨_, rfl⟩
        have b4 : Below w3.heap.size w3 W4 := by rw [← hW4]; exact (Below.refl _ _).alloc (Nat.le_refl _) _
        have y4 : W4.heap[w3.heap.size]? = some (.cells #[.int .i64 (rdP lnS p).kind, .string (rdP lnS p).ref, .string (rdP lnS p).other, .int .i64 (rdP lnS p).day, .slice A3 N3 C3, .slice A4 N4 C4, .int .i64 0, .int .i64 0] 127) := by rw [← hW4]; exact World.alloc_heap_new _ _
        have b04 : Below W0.heap.size W0 W4 := HW.out.2.trans ((hb3.trans (b4.mono hb3.size)).mono HW.out.2.size)
        obtain ⟨X, hX⟩ : ∃ X, X = w3.heap.size := ⟨_, rfl⟩
        rw [← hX] at y4
        obtain ⟨j0, j1, j2, j3, j4, j5, j6, j7⟩ := box8o y4
        have HPS : Hid (PapR W4 (.slice A3 N3 C3) (.slice A4 N4 C4) (rdP lnS p) ∧ PapR W4 (.slice An p.notes.length Cn) (.slice Al p.lines.length Cl) p ∧ (tcV p.kind (bodyW wordsS p)).2.2 = 0 ∧ PlcOk p.kind (p.lines.map (lnS p.kind)) ∧ Below w.heap.size w W4) := ⟨hP3.below b4, HR.out.1.below b04, ht, hpl, HR.out.2.1.trans (b04.mono HR.out.2.1.size)⟩
        have HD4 : Hid (w3.alloc (.cells #[.int .i64 (rdP lnS p).kind, .string (rdP lnS p).ref, .string (rdP lnS p).other, .int .i64 (rdP lnS p).day, .slice A3 N3 C3, .slice A4 N4 C4, .int .i64 0, .int .i64 0] 127) = W4 ∧ X = w3.heap.size) := ⟨hW4, hX⟩
        clear c0 c1 c2 c3 c4 c5
        obtain ⟨c0, c1, c2, c3, c4, c5⟩ := HX.out W4 b04
        clear hW4 hX y4 b4 b04 hb3 hP3 ht hpl hN3 hN4
        go_upto_region 10 with fail
        try rw [HD4.out.1]
        try rw [← HD4.out.2]
        clear HD4
        go_wp2_with (first | (go_at_call 39; refine (paperSame_spec (rdP lnS p) p _ _ _ _ _ HPS.out.1 HPS.out.2.1).mono ?_; rintro e w9 ⟨⟨bv, rfl, hbv⟩, hb9⟩; have H9 : Hid (Below w.heap.size w w9 ∧ (bv = true ↔ rdP lnS p = p)) := ⟨HPS.out.2.2.2.2.trans (hb9.mono HPS.out.2.2.2.2.size), hbv⟩; clear hb9 hbv; try dsimp only))
        go_ret
        refine ⟨?_, H9.out.1⟩
        have e1 : pb = bv := by
          rw [HPB.out]
          cases hbv : bv with
          | true => exact papB_S.2 ⟨HM.out.2.1.2, HM.out.2.1.1, HAll.out, HPS.out.2.2.1, HPS.out.2.2.2.1, H9.out.2.1 hbv⟩
          | false => exact papB_noS fun g => by have := H9.out.2.2 g.sm; rw [hbv] at this; cases this
        rw [e1]
        rfl
      · have hc' : (c == 0) = false := by simpa using hc
        have HN : Hid (pb = false) := by show _ = _; rw [HPB.out]; exact papB_noS fun g => hno ⟨g.tb, g.pl⟩
        obtain ⟨W4, hW4⟩ : ∃ W4, w3.alloc (.cells #[.int .i64 0, .string ⟨#[]⟩, .string ⟨#[]⟩, .int .i64 0, .slice none 0 0, .slice none 0 0, .int .i64 a, .int .i64 c] 127) = W4 := ⟨_, rfl⟩
        have b4 : Below w3.heap.size w3 W4 := by rw [← hW4]; exact (Below.refl _ _).alloc (Nat.le_refl _) _
        have y4 : W4.heap[w3.heap.size]? = some (.cells #[.int .i64 0, .string ⟨#[]⟩, .string ⟨#[]⟩, .int .i64 0, .slice none 0 0, .slice none 0 0, .int .i64 a, .int .i64 c] 127) := by rw [← hW4]; exact World.alloc_heap_new _ _
        have b04 : Below W0.heap.size W0 W4 := HW.out.2.trans ((hb3.trans (b4.mono hb3.size)).mono HW.out.2.size)
        obtain ⟨X, hX⟩ : ∃ X, X = w3.heap.size := ⟨_, rfl⟩
        rw [← hX] at y4
        obtain ⟨j0, j1, j2, j3, j4, j5, j6, j7⟩ := box8o y4
        have HB4 : Hid (Below w.heap.size w W4) := HR.out.2.1.trans (b04.mono HR.out.2.1.size)
        have HD4 : Hid (w3.alloc (.cells #[.int .i64 0, .string ⟨#[]⟩, .string ⟨#[]⟩, .int .i64 0, .slice none 0 0, .slice none 0 0, .int .i64 a, .int .i64 c] 127) = W4 ∧ X = w3.heap.size) := ⟨hW4, hX⟩
        clear c0 c1 c2 c3 c4 c5 hW4 hX y4 b4 b04 hb3 hno
        go_upto_region 10 with fail
        try rw [HD4.out.1]
        try rw [← HD4.out.2]
        clear HD4
        go_wp2
        go_ret
        exact ⟨by rw [HN.out]; rfl, HB4.out⟩
end Go.Proofs.YtkaolpnbddjdpaaGreatDoor
namespace Go.Proofs.YtkaolpnbddjdpaaGreatDoor
open Go.ChangeShapes Go.WideShapes Go.ChangeAt Go.RowKit
set_option maxHeartbeats 8000000 in
theorem parcelRight_impl (p : Pcl) (v : Value) (w : World) (h : PclR w v p) (hI : ∀ q ∈ p.papers, PapI q) (hB : BdPc 1048576 p) (hV : VarsAt w) :
    Calls Tryz.prog 16 #[.agg #[.string p.frm, .string p.to, .int .i64 p.num, v]] w fun e w' => e = .returned (.bool (pclB p)) ∧ Below w.heap.size w w' := by
  obtain ⟨frm, tto, num, ps⟩ := p
  have hps := h.ps
  dsimp only at hps
  obtain ⟨A, C, rfl⟩ := hps.val
  obtain ⟨W0, hW0⟩ : ∃ W0, w.alloc (.cells #[.string frm, .string tto, .int .i64 num, .slice A ps.length C] 27) = W0 := ⟨_, rfl⟩
  have hb0 : Below w.heap.size w W0 := by rw [← hW0]; exact (Below.refl _ _).alloc (Nat.le_refl _) _
  have hx0 : W0.heap[w.heap.size]? = some (.cells #[.string frm, .string tto, .int .i64 num, .slice A ps.length C] 27) := by rw [← hW0]; exact World.alloc_heap_new _ _
  have HW0 : Hid (w.alloc (.cells #[.string frm, .string tto, .int .i64 num, .slice A ps.length C] 27) = W0) := hW0
  have HP : Hid (∀ W, Below W0.heap.size W0 W → W.heap[w.heap.size]? = some (.cells #[.string frm, .string tto, .int .i64 num, .slice A ps.length C] 27)) := fun W hW => (hW.block _ (Array.getElem?_eq_some_iff.1 hx0).1).trans hx0
  dsimp only at hI ⊢
  have QP := papersRight_any (.slice A ps.length C) ps W0 (hps.below hb0) hI hB.2.2 (hV.below hb0)
  have H0 : Hid (PclR w (.slice A ps.length C) ⟨frm, tto, num, ps⟩ ∧ (∀ q ∈ ps, PapI q) ∧ BdPc 1048576 ⟨frm, tto, num, ps⟩ ∧ VarsAt w ∧ Below w.heap.size w W0) := ⟨h, hI, hB, hV, hb0⟩
  obtain ⟨y, hy⟩ : ∃ y, y = ps.all papB := ⟨_, rfl⟩
  have HY : Hid (y = ps.all papB) := hy
  rw [← hy] at QP
  obtain ⟨_, x0, x1, x2, x3⟩ := ix4 hx0
  clear h hI hB hV hb0 hps hW0 hx0 hy
  go_enter Tryz.func16, Tryz.ntmps16
  go_upto_region 1 with fail
  try rw [HW0.out]
  clear HW0
  go_wp2_with fail
  refine QP.mono ?_
  rintro e w1 ⟨rfl, hb1⟩
  have H1 : Hid (Below W0.heap.size W0 w1 ∧ Below w.heap.size w w1) := ⟨hb1, H0.out.2.2.2.2.trans (hb1.mono H0.out.2.2.2.2.size)⟩
  clear hb1 QP x0 x1 x2 x3
  cases y with
  | false =>
    have HF : Hid (pclB ⟨frm, tto, num, ps⟩ = false) := by show _ = _; rw [pclB, ← HY.out]; rfl
    go_wp2
    go_ret
    exact ⟨by rw [HF.out]; rfl, H1.out.2⟩
  | true =>
    have hall : ∀ q ∈ ps, papB q = true := fun q hq => List.all_eq_true.1 HY.out.symm q hq
    have HF : Hid (pclB ⟨frm, tto, num, ps⟩ = ixB (ixP ⟨frm, tto, num, ps⟩) ∧ ∀ q ∈ ps, papB q = true) := ⟨by rw [pclB, ← HY.out]; rfl, hall⟩
    have QX := ixOf_any ⟨frm, tto, num, ps⟩ (.slice A ps.length C) w1 (H0.out.1.below H1.out.2) (fun q hq => ⟨H0.out.2.1 q hq, (papB_okX (hall q hq)).kd⟩) H0.out.2.2.1 (H0.out.2.2.2.1.below H1.out.2)
    dsimp only at QX
    obtain ⟨_, x0, x1, x2, x3⟩ := ix4 (HP.out w1 H1.out.1)
    clear hall
    go_wp2_with fail
    refine QX.mono ?_
    rintro e w2 ⟨u, bs, rfl, hO, hbs, hb2⟩
    have H2 : Hid (Below w.heap.size w w2) := H1.out.2.trans (hb2.mono H1.out.2.size)
    have hri := hO.ri (p := ⟨frm, tto, num, ps⟩) hbs HF.out.2 H0.out.2.2.1
    have QI := ixRight_impl (ixP ⟨frm, tto, num, ps⟩) u w2 hri.1 hri.2
    obtain ⟨z, hz⟩ : ∃ z, z = ixB (ixP ⟨frm, tto, num, ps⟩) := ⟨_, rfl⟩
    rw [← hz] at QI HF
    dsimp only [ixP] at QI
    obtain ⟨Au, nu, Cu, rfl⟩ : ∃ Au nu Cu, u = .slice Au nu Cu := by obtain ⟨A', C', e⟩ := own_formX hO.row; exact ⟨A', _, C', e⟩
    clear hO hbs hb2 hri hz QX x0 x1 x2 x3
    go_wp2_with fail
    refine QI.mono ?_
    rintro e w3 ⟨rfl, hb3⟩
    have H3 : Hid (Below w.heap.size w w3) := H2.out.trans (hb3.mono H2.out.size)
    clear hb3 QI
    go_wp2
    go_ret
    exact ⟨by rw [HF.out.1]; rfl, H3.out⟩
set_option maxHeartbeats 8000000 in
theorem parcelRight_spec (p : Pcl) (v : Value) (w : World) (h : PclR w v p) (hI : ∀ q ∈ p.papers, PapI q) (hB : BdPc 1048576 p) :
    Calls Tryz.prog 14 #[.agg #[.string p.frm, .string p.to, .int .i64 p.num, v]] w fun e w' => e = .returned (.bool (pclB p)) ∧ Below w.heap.size w w' := by
  obtain ⟨frm, tto, num, ps⟩ := p
  have hps := h.ps
  dsimp only at hps
  obtain ⟨A, C, rfl⟩ := hps.val
  obtain ⟨W0, hW0⟩ : ∃ W0, w.alloc (.cells #[.string frm, .string tto, .int .i64 num, .slice A ps.length C] 27) = W0 := ⟨_, rfl⟩
  have hb0 : Below w.heap.size w W0 := by rw [← hW0]; exact (Below.refl _ _).alloc (Nat.le_refl _) _
  have hx0 : W0.heap[w.heap.size]? = some (.cells #[.string frm, .string tto, .int .i64 num, .slice A ps.length C] 27) := by rw [← hW0]; exact World.alloc_heap_new _ _
  have HW0 : Hid (w.alloc (.cells #[.string frm, .string tto, .int .i64 num, .slice A ps.length C] 27) = W0) := hW0
  have HP : Hid (∀ W, Below W0.heap.size W0 W → W.heap[w.heap.size]? = some (.cells #[.string frm, .string tto, .int .i64 num, .slice A ps.length C] 27)) := fun W hW => (hW.block _ (Array.getElem?_eq_some_iff.1 hx0).1).trans hx0
  dsimp only at hI ⊢
  have H0 : Hid (PclR w (.slice A ps.length C) ⟨frm, tto, num, ps⟩ ∧ (∀ q ∈ ps, PapI q) ∧ BdPc 1048576 ⟨frm, tto, num, ps⟩ ∧ RowPs W0 (.slice A ps.length C) ps ∧ Below w.heap.size w W0) := ⟨h, hI, hB, hps.below hb0, hb0⟩
  have hlen := hps.len
  obtain ⟨_, x0, x1, x2, x3⟩ := ix4 hx0
  clear h hI hB hb0 hps hW0 hx0
  go_enter Tryz.func14, Tryz.ntmps14
  go_upto_region 1 with fail
  try rw [HW0.out]
  clear HW0
  by_cases h50 : 50 < ps.length
  · have h50' : (ps.length : Int) > 50 := by omega
    have HF : Hid (pclB ⟨frm, tto, num, ps⟩ = false) := pclB_many h50
    go_wp2
    go_ret
    exact ⟨by rw [HF.out]; rfl, H0.out.2.2.2.2⟩
  have h50' : ¬ (ps.length : Int) > 50 := by omega
  go_wp2_with fail
  clear x0 x1 x2 x3
  go_loopw [3] (fun i wr => ∃ k : Nat, i = .int .i64 (k : Int) ∧ k ≤ ps.length ∧ Hid ((∀ j q, j < k → ps[j]? = some q → papB q = true) ∧ Below W0.heap.size W0 wr)) (fun i _ => ps.length - (intOf i).toNat)
  case atStart => exact ⟨0, rfl, by omega, fun j q hj => by omega, Below.refl _ _⟩
  case round =>
    obtain ⟨k, rfl, hk, HI⟩ := hrel
    obtain ⟨_, x0, x1, x2, x3⟩ := ix4 (HP.out wr HI.out.2)
    by_cases hlt : k < ps.length
    · have hlt' : (k : Int) < (ps.length : Int) := by omega
      obtain ⟨b9, o9, c9, q, vn, vl, e9, hs, ⟨y0, y1, y2, y3, y4, y5⟩, hpr⟩ := (H0.out.2.2.2.1.below HI.out.2).at hlt
      simp only [Value.slice.injEq, true_and] at e9
      obtain ⟨rfl, rfl⟩ := e9
      obtain ⟨An, Cn, rfl⟩ := hpr.ns.val
      obtain ⟨Al, Cl, rfl⟩ := hpr.ls.val
      have QR := paperRight_spec q _ _ wr (H0.out.2.1 q (List.mem_of_getElem? hs)) hpr (H0.out.2.2.1.2.2.2 k q hs)
      obtain ⟨y, hy⟩ : ∃ y, y = papB q := ⟨_, rfl⟩
      have HY : Hid (y = papB q ∧ ps[k]? = some q) := ⟨hy, hs⟩
      rw [← hy] at QR
      clear hy hs hpr
      go_wp2_with fail
      refine QR.mono ?_
      rintro e w2 ⟨rfl, hb2⟩
      have H2 : Hid (Below W0.heap.size W0 w2) := HI.out.2.trans (hb2.mono HI.out.2.size)
      clear hb2 QR x0 x1 x2 x3 y0 y1 y2 y3 y4 y5
      cases y with
      | false =>
        have HF : Hid (pclB ⟨frm, tto, num, ps⟩ = false) := pclB_bad (p := ⟨frm, tto, num, ps⟩) HY.out.2 HY.out.1.symm
        go_wp2
        go_ret
        exact ⟨by rw [HF.out]; rfl, H0.out.2.2.2.2.trans (H2.out.mono H0.out.2.2.2.2.size)⟩
      | true =>
        have HN : Hid (∀ j q, j < k + 1 → ps[j]? = some q → papB q = true) := fun j q' hj hq => by
          by_cases g : j = k
          · subst g
            rw [HY.out.2] at hq
            cases hq
            exact HY.out.1.symm
          · exact HI.out.1 j q' (by omega) hq
        go_wp2
        go_roundw
        case rel => exact ⟨k + 1, by go_num, by omega, HN.out, H2.out⟩
        case measure => simp [intOf]; omega
    · have hall : ∀ q ∈ ps, papB q = true := fun q hq => by
        obtain ⟨j, hj⟩ := List.mem_iff_getElem?.1 hq
        exact HI.out.1 j q (by have := (List.getElem?_eq_some_iff.1 hj).1; omega) hj
      have hlt' : ¬ (k : Int) < (ps.length : Int) := by omega
      have HF : Hid (pclB ⟨frm, tto, num, ps⟩ = ixB (ixP ⟨frm, tto, num, ps⟩) ∧ (∀ q ∈ ps, papB q = true) ∧ Below w.heap.size w wr) := ⟨pclB_good (p := ⟨frm, tto, num, ps⟩) (fun k q hq => hall q (List.mem_of_getElem? hq)), hall, H0.out.2.2.2.2.trans (HI.out.2.mono H0.out.2.2.2.2.size)⟩
      have QX := l06Ix_any ⟨frm, tto, num, ps⟩ (.slice A ps.length C) wr (H0.out.1.below HF.out.2.2) hall H0.out.2.1 H0.out.2.2.1
      dsimp only at QX
      clear hall
      go_wp2_with fail
      refine QX.mono ?_
      rintro e w2 ⟨u, bs, rfl, hO, hbs, hb2⟩
      have H2 : Hid (Below w.heap.size w w2) := HF.out.2.2.trans (hb2.mono HF.out.2.2.size)
      have hri := hO.ri (p := ⟨frm, tto, num, ps⟩) hbs HF.out.2.1 H0.out.2.2.1
      have QI := ixRight_spec (ixP ⟨frm, tto, num, ps⟩) u w2 hri.1 hri.2
      obtain ⟨z, hz⟩ : ∃ z, z = ixB (ixP ⟨frm, tto, num, ps⟩) := ⟨_, rfl⟩
      rw [← hz] at QI HF
      dsimp only [ixP] at QI
      obtain ⟨Au, nu, Cu, rfl⟩ : ∃ Au nu Cu, u = .slice Au nu Cu := by obtain ⟨A', C', e⟩ := own_formX hO.row; exact ⟨A', _, C', e⟩
      clear hO hbs hb2 hri hz QX x0 x1 x2 x3
      go_wp2_with fail
      refine QI.mono ?_
      rintro e w3 ⟨rfl, hb3⟩
      have H3 : Hid (Below w.heap.size w w3) := H2.out.trans (hb3.mono H2.out.size)
      clear hb3 QI
      go_wp2
      go_ret
      exact ⟨by rw [HF.out.1]; rfl, H3.out⟩
end Go.Proofs.YtkaolpnbddjdpaaGreatDoor
