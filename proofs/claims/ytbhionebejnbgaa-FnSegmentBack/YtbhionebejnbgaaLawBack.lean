/- FnSegmentBack returns true at every two lists of bytes and leaves them as they were: a drawn right segment is read back from its text, whatever stands behind, and what is read of a drawn text is told as the bytes that were used; no condition. -/
import Derived.Test.YtbhionebejnbgaaDrawSegR
import Derived.Test.YtbhionebejnbgaaSegReadS
import Derived.Test.YtbhionebejnbgaaBackB
import Derived.Test.YtbhionebejnbgaaLwSeg
import Derived.Test.YtbhionebejnbgaaTextGS
import Derived.Test.YtbhionebejnbgaaRightGS
import Derived.Deep.CutBlock
import Derived.Deep.RegionHeld3
namespace Go.Proofs.Ytbhionebejnbgaa
open Go.ChangeShapes Go.WideShapes Go.ChangeAt Go.RowKit
open Go.Shelf
set_option linter.unusedVariables false
namespace fnSegmentBack
def IsRow (k : IntKind) (w : World) (a : Option Addr) (len cap : Nat) (zs : List Int) : Prop :=
  (a = none ∧ len = 0 ∧ cap = 0 ∧ zs = []) ∨
  ∃ x, a = some x ∧ len ≤ cap ∧ cap ≤ maxLen ∧ zs.length = cap ∧ (∀ i, i < zs.length → w.cell? (x.add i) = some (.int k (zs.getD i 0))) ∧ ∀ n ∈ zs, (Lit.int k n).wf = true
theorem IsRow.bytesAt {w : World} {a : Option Addr} {len cap : Nat} {zs : List Int} (h : IsRow .u8 w a len cap zs) : BytesAt w a len zs := by
  intro g
  rcases h with ⟨_, rfl, _, _⟩ | ⟨x, rfl, hl, _, hz, hc, _⟩
  · omega
  · obtain ⟨b, off, spot⟩ := x
    have h0 := hc 0 (by omega)
    have hspot : spot = none := by simpa [Addr.add] using World.cell?_spot h0
    subst hspot
    refine ⟨b, off, rfl, fun i hi => ?_⟩
    have hplain : (⟨b, off, none⟩ : Addr).add i = ⟨b, off + i, none⟩ := by unfold Addr.add; split <;> simp_all
    have := hc i (by omega)
    rw [hplain] at this
    simpa [List.getD] using this
theorem IsRow.len_le {w : World} {a : Option Addr} {len cap : Nat} {zs : List Int} (h : IsRow .u8 w a len cap zs) : len ≤ 9223372036854775807 := by
  rcases h with ⟨_, rfl, _, _⟩ | ⟨x, rfl, hl, hm, hz, hc, _⟩
  · omega
  · unfold maxLen at hm
    omega
theorem rdR_ok {a b c d : Int} {s : ByteArray} (h : (rdR a b c d s).1 = 0) : rightB a b c d = true ∧ ¬ 20000 < s.size := by
  by_cases h1 : 20000 < s.size
  · unfold rdR at h
    rw [if_pos h1] at h
    simp at h
  · refine ⟨?_, h1⟩
    cases hr : rightB a b c d
    · unfold rdR at h
      rw [if_neg h1, if_neg (by rw [hr]; simp)] at h
      simp at h
    · rfl
theorem fld (s : ByteArray) (v : Value) (u a c : Int) (w : World) : (Instr.field 34 (.agg #[.string s, v, .int .i64 u, .int .i64 a, .int .i64 c]) 3).run Try.prog w = .ok (.int .i64 c) w := by kernel_rfl
/-- What stands in the law's first half: the syntax in S, the segment behind it. -/
structure L1 (w W : World) (S : Nat) (a b c d : Int) (tag : ByteArray) (v : Value) (es : List (List ByteArray)) : Prop where
  bel : Below w.heap.size w W
  x : Box4 W S a b c d
  g : W.heap[S + 1]? = some (.cells #[.string tag, v] 27)
  row : RowE W v es
theorem L1.below {w W W' : World} {S : Nat} {a b c d : Int} {tag : ByteArray} {v : Value} {es : List (List ByteArray)} (h : L1 w W S a b c d tag v es) (hb : Below W.heap.size W W') : L1 w W' S a b c d tag v es :=
  ⟨h.bel.trans (hb.mono h.bel.size), h.x.keep (Keep.of_below (B := S + 2) hb) (by omega), (hb.block _ (Array.getElem?_eq_some_iff.1 h.g).1).trans h.g, h.row.below hb⟩
theorem L1.g0 {w W : World} {S : Nat} {a b c d : Int} {tag : ByteArray} {v : Value} {es : List (List ByteArray)} (h : L1 w W S a b c d tag v es) : W.cell? ⟨S + 1, 0, none⟩ = some (.string tag) ∧ W.cell? ⟨S + 1, 1, none⟩ = some v := by
  have := h.g
  exact ⟨by simp [World.cell?, this], by simp [World.cell?, this]⟩
set_option maxRecDepth 20000 in
set_option maxHeartbeats 4000000 in
theorem walk (a0 : Option Addr) (len0 cap0 : Nat) (z0 : List Int) (a1 : Option Addr) (len1 cap1 : Nat) (z1 : List Int) (w : World) (w0 : IsRow .u8 w a0 len0 cap0 z0) (w1 : IsRow .u8 w a1 len1 cap1 z1) :
    Calls Try.prog 3 #[.slice a0 len0 cap0, .slice a1 len1 cap1] w fun e w' => e = .returned (.bool true) ∧ Below w.heap.size w w' := by
  have hl0 := w0.len_le
  have hl1 := w1.len_le
  have HR : Hid (BytesAt w a0 len0 z0 ∧ BytesAt w a1 len1 z1) := ⟨w0.bytesAt, w1.bytesAt⟩
  clear w0 w1
  by_cases hg : 1048576 < len0
  · have hg' : (1048576 : Int) < (len0 : Int) := by omega
    clear HR
    go_enter Try.func3, Try.ntmps3
    go_wp2
    go_ret
    exact ⟨rfl, Below.refl _ _⟩
  have hg' : (len0 : Int) ≤ 1048576 := by omega
  by_cases hh : 1048576 < len1
  · have hh' : (1048576 : Int) < (len1 : Int) := by omega
    clear HR
    go_enter Try.func3, Try.ntmps3
    go_wp2
    go_ret
    exact ⟨rfl, Below.refl _ _⟩
  have hh' : (len1 : Int) ≤ 1048576 := by omega
  go_enter Try.func3, Try.ntmps3
  go_wp2_with fail
  refine (drawSegmentText_any a0 len0 cap0 z0 _ (by omega) HR.out.1).mono ?_
  rintro e w1 ⟨a, b, c, d, tag, v, es, rfl, htz, hrow, hbd, hb1⟩
  obtain ⟨Av, Cv, rfl⟩ := hrow.val
  have hs1 := hb1.size
  have hW : L1 w ((w1.alloc (.cells #[.int .i64 a, .int .i64 b, .int .i64 c, .int .i64 d] 24)).alloc (.cells #[.string tag, .slice Av es.length Cv] 27)) w1.heap.size a b c d tag (.slice Av es.length Cv) es := by
    have b2 : Below w1.heap.size w1 ((w1.alloc (.cells #[.int .i64 a, .int .i64 b, .int .i64 c, .int .i64 d] 24)).alloc (.cells #[.string tag, .slice Av es.length Cv] 27)) := ((Below.refl _ _).alloc (Nat.le_refl _) _).alloc (by simp) _
    refine ⟨hb1.trans (b2.mono hs1), (Box4.new w1 24 a b c d).alloc _, ?_, hrow.below b2⟩
    have := World.alloc_heap_new (w1.alloc (.cells #[.int .i64 a, .int .i64 b, .int .i64 c, .int .i64 d] 24)) (.cells #[.string tag, .slice Av es.length Cv] 27)
    simpa using this
  have HB : Hid (BdE 1048576 es) := hbd
  have x0 := hW.x.c0
  have x1 := hW.x.c1
  have x2 := hW.x.c2
  have x3 := hW.x.c3
  clear hrow hbd hb1
  go_wp2_with fail
  refine (right_spec a b c d _).mono ?_
  rintro e w2 ⟨rfl, hb2⟩
  have h2 := hW.below hb2
  clear hb2 hW x0 x1 x2 x3
  cases hr : rightB a b c d
  · go_upto_if 30 with fail
    go_cut [7] from 31 to 54 (fun _ wx => Below w.heap.size w wx)
    case first =>
      have HL : Hid (Below w.heap.size w _) := h2.bel
      clear h2
      go_wp2_with fail
      go_meet
      case rel => exact HL.out
    case rest =>
      have hbc : Below w.heap.size w wc := hcut
      have hsc := hbc.size
      go_wp2_with fail
      refine (drawSegmentRead_any a1 len1 cap1 z1 _ (by omega) (bytesAt_belowS HR.out.2 hbc)).mono ?_
      rintro e u1 ⟨p0, p1, p2, p3, t, rfl, htq, hb9⟩
      have bA : Below w.heap.size w u1 := hbc.trans (hb9.mono hsc)
      have hsu := bA.size
      have X1 : Box4 (u1.alloc (.cells #[.int .i64 p0, .int .i64 p1, .int .i64 p2, .int .i64 p3] 24)) u1.heap.size p0 p1 p2 p3 := Box4.new u1 24 p0 p1 p2 p3
      have HB1 : Hid (Below w.heap.size w (u1.alloc (.cells #[.int .i64 p0, .int .i64 p1, .int .i64 p2, .int .i64 p3] 24))) := bA.alloc hsu _
      have q0 := X1.c0
      have q1 := X1.c1
      have q2 := X1.c2
      have q3 := X1.c3
      clear hb9 bA hbc
      obtain ⟨R, hR⟩ : ∃ R, rdR p0 p1 p2 p3 t = R := ⟨_, rfl⟩
      have HRD2 : Hid (rdR p0 p1 p2 p3 t = R) := hR
      clear hR
      go_wp2_with fail
      refine (read_impl p0 p1 p2 p3 t _ R HRD2.out).mono ?_
      rintro e u2 ⟨v2, vals2, rfl, hO2, hb2⟩
      obtain ⟨A2, N2, C2, hv2⟩ := row_slice hO2.row
      subst hv2
      have hX2 := rdR_facts p0 p1 p2 p3 t
      rw [HRD2.out] at hX2
      have r2 : RowE u2 (.slice A2 N2 C2) (gOf R.2.2.2).2 := hO2.rowE hX2.1 (by omega)
      have X2 := X1.keep (Keep.of_below (B := u1.heap.size + 1) hb2) (by omega)
      have bB : Below w.heap.size w u2 := HB1.out.trans (hb2.mono HB1.out.size)
      have htk : ∀ s : ByteArray, s.size ≤ 5000 → s.size ≤ 9223372036854775807 := fun s h => by omega
      generalize hM : (Value.string (gOf R.2.2.2).1) = M at *
      obtain ⟨code, at_, used, sg⟩ := R
      dsimp only at *
      have bC : Below u2.heap.size u2 (u2.alloc (.cells #[.string (gOf sg).1, .slice A2 N2 C2, .int .i64 used, .int .i64 at_, .int .i64 code] 34)) := (Below.refl _ _).alloc (Nat.le_refl _) _
      subst hM
      have X3 := X2.alloc (.cells #[.string (gOf sg).1, .slice A2 N2 C2, .int .i64 used, .int .i64 at_, .int .i64 code] 34)
      have H3 : Hid (RowE (u2.alloc (.cells #[.string (gOf sg).1, .slice A2 N2 C2, .int .i64 used, .int .i64 at_, .int .i64 code] 34)) (.slice A2 N2 C2) (gOf sg).2 ∧ Below w.heap.size w (u2.alloc (.cells #[.string (gOf sg).1, .slice A2 N2 C2, .int .i64 used, .int .i64 at_, .int .i64 code] 34)) ∧ BdX (gOf sg).2 ∧ (gOf sg).2.length ≤ 10) := ⟨r2.below bC, bB.trans (bC.mono bB.size), hX2⟩
      have k0 := X3.c0
      have k1 := X3.c1
      have k2 := X3.c2
      have k3 := X3.c3
      have f0 : (u2.alloc (.cells #[.string (gOf sg).1, .slice A2 N2 C2, .int .i64 used, .int .i64 at_, .int .i64 code] 34)).cell? ⟨u2.heap.size, 0, none⟩ = some (.string (gOf sg).1) := by simp [go_sem]
      have f1 : (u2.alloc (.cells #[.string (gOf sg).1, .slice A2 N2 C2, .int .i64 used, .int .i64 at_, .int .i64 code] 34)).cell? ⟨u2.heap.size, 1, none⟩ = some (.slice A2 N2 C2) := by simp [go_sem]
      have f2 : (u2.alloc (.cells #[.string (gOf sg).1, .slice A2 N2 C2, .int .i64 used, .int .i64 at_, .int .i64 code] 34)).cell? ⟨u2.heap.size, 2, none⟩ = some (.int .i64 used) := by simp [go_sem]
      have f4 : (u2.alloc (.cells #[.string (gOf sg).1, .slice A2 N2 C2, .int .i64 used, .int .i64 at_, .int .i64 code] 34)).cell? ⟨u2.heap.size, 4, none⟩ = some (.int .i64 code) := by simp [go_sem]
      clear hO2 hb2 hX2 r2 X2 X3 bB bC htk HB1 X1 q0 q1 q2 q3
      go_wp2_with fail
      have hfl : ∀ (x : Value) (W : World), _ := fun x W => fld (gOf sg).1 x used at_ code W
      generalize u2.alloc (.cells #[.string (gOf sg).1, .slice A2 N2 C2, .int .i64 used, .int .i64 at_, .int .i64 code] 34) = u3 at *
      go_region_held3 (fun W => W.cell? ⟨u1.heap.size, 0, none⟩ = some (.int .i64 p0) ∧ W.cell? ⟨u1.heap.size, 1, none⟩ = some (.int .i64 p1) ∧ W.cell? ⟨u1.heap.size, 2, none⟩ = some (.int .i64 p2) ∧ W.cell? ⟨u1.heap.size, 3, none⟩ = some (.int .i64 p3) ∧ W.cell? ⟨u2.heap.size, 4, none⟩ = some (.int .i64 code)) (go_keep) (first | (go_at_call 13; refine (read_spec p0 p1 p2 p3 t _ _ HRD2.out).mono ?_; rintro e u4 ⟨v4, vals4, rfl, hO4, hb4⟩; have l0 := (hb4.cell (p := ⟨u1.heap.size, 0, none⟩) (show u1.heap.size < u3.heap.size from cell_lt k0)).trans k0; have l1 := (hb4.cell (p := ⟨u1.heap.size, 1, none⟩) (show u1.heap.size < u3.heap.size from cell_lt k1)).trans k1; have l2 := (hb4.cell (p := ⟨u1.heap.size, 2, none⟩) (show u1.heap.size < u3.heap.size from cell_lt k2)).trans k2; have l3 := (hb4.cell (p := ⟨u1.heap.size, 3, none⟩) (show u1.heap.size < u3.heap.size from cell_lt k3)).trans k3; have m0 := (hb4.cell (p := ⟨u2.heap.size, 0, none⟩) (show u2.heap.size < u3.heap.size from cell_lt f0)).trans f0; have m1 := (hb4.cell (p := ⟨u2.heap.size, 1, none⟩) (show u2.heap.size < u3.heap.size from cell_lt f1)).trans f1; have m2 := (hb4.cell (p := ⟨u2.heap.size, 2, none⟩) (show u2.heap.size < u3.heap.size from cell_lt f2)).trans f2; have m4 := (hb4.cell (p := ⟨u2.heap.size, 4, none⟩) (show u2.heap.size < u3.heap.size from cell_lt f4)).trans f4))
      all_goals
        rename_i hHeld
        clear hHeld
        have H4 : Hid (RowE u4 (.slice A2 N2 C2) (gOf sg).2 ∧ Below w.heap.size w u4 ∧ BdX (gOf sg).2 ∧ (gOf sg).2.length ≤ 10) := ⟨H3.out.1.below (((Below.refl _ u3).drew).trans hb4), H3.out.2.1.trans (((Below.refl _ u3).drew.trans hb4).mono H3.out.2.1.size), H3.out.2.2⟩
        clear hO4 hb4 k0 k1 k2 k3 f0 f1 f2 f4 H3
        by_cases hc0 : code = 0
        · subst hc0
          obtain ⟨hr2, hs2⟩ := rdR_ok (show (rdR p0 p1 p2 p3 t).1 = 0 by rw [HRD2.out])
          have hI := rdR_I hs2 hr2
          obtain ⟨n, g, e1, e2, hn0, hn1, hg2, htx⟩ := rd_text hr2 (s := t) (by rw [← hI, HRD2.out])
          rw [← hI, HRD2.out] at e1 e2
          dsimp only at e1 e2
          subst e1 e2
          simp only [gOf, Option.getD_some] at m0 H4 hfl
          have hn2 : (0 : Int) < (n : Int) := by omega
          have hn3 : (n : Int) ≤ (t.size : Int) := by omega
          have hn4 : decide ((0 : Int) < (n : Int)) = true := decide_eq_true hn2
          have hn5 : decide ((n : Int) ≤ (t.size : Int)) = true := decide_eq_true hn3
          have hn6 : decide (0 < n) = true := decide_eq_true hn0
          have hn7 : decide (n ≤ t.size) = true := decide_eq_true hn1
          have htt : ((textG p0 p1 p2 p3 g.1 g.2).toList == (t.extract 0 n).toList) = true := by rw [htx]; simp
          have HTX : Hid (∀ W : World, RowE W (.slice A2 N2 C2) g.2 → Calls Try.prog 9 #[.agg #[.int .i64 p0, .int .i64 p1, .int .i64 p2, .int .i64 p3], .agg #[.string g.1, .slice A2 N2 C2]] W fun e w' => e = .returned (.string (textG p0 p1 p2 p3 g.1 g.2)) ∧ Below W.heap.size W w') := fun W hW => text_seg_impl p0 p1 p2 p3 g.1 _ g.2 W hW (H4.out.2.2.1.bdE (by have := H4.out.2.2.2; omega))
          generalize textG p0 p1 p2 p3 g.1 g.2 = TX at *
          clear htx hfl
          go_wp2_with fail
          go_region_held3 (fun W => W.cell? ⟨u1.heap.size, 0, none⟩ = some (.int .i64 p0) ∧ W.cell? ⟨u1.heap.size, 1, none⟩ = some (.int .i64 p1) ∧ W.cell? ⟨u1.heap.size, 2, none⟩ = some (.int .i64 p2) ∧ W.cell? ⟨u1.heap.size, 3, none⟩ = some (.int .i64 p3) ∧ W.cell? ⟨u2.heap.size, 0, none⟩ = some (.string g.1) ∧ W.cell? ⟨u2.heap.size, 1, none⟩ = some (.slice A2 N2 C2) ∧ W.cell? ⟨u2.heap.size, 2, none⟩ = some (.int .i64 (n : Int))) (go_keep) (first | (go_at_call 9; refine (HTX.out _ (H4.out.1.below (Below.refl _ _).drew)).mono ?_; rintro e u5 ⟨rfl, hb5⟩; have i0 := (hb5.cell (p := ⟨u1.heap.size, 0, none⟩) (show u1.heap.size < u4.heap.size from cell_lt l0)).trans l0; have i1 := (hb5.cell (p := ⟨u1.heap.size, 1, none⟩) (show u1.heap.size < u4.heap.size from cell_lt l1)).trans l1; have i2 := (hb5.cell (p := ⟨u1.heap.size, 2, none⟩) (show u1.heap.size < u4.heap.size from cell_lt l2)).trans l2; have i3 := (hb5.cell (p := ⟨u1.heap.size, 3, none⟩) (show u1.heap.size < u4.heap.size from cell_lt l3)).trans l3; have j0 := (hb5.cell (p := ⟨u2.heap.size, 0, none⟩) (show u2.heap.size < u4.heap.size from cell_lt m0)).trans m0; have j1 := (hb5.cell (p := ⟨u2.heap.size, 1, none⟩) (show u2.heap.size < u4.heap.size from cell_lt m1)).trans m1; have j2 := (hb5.cell (p := ⟨u2.heap.size, 2, none⟩) (show u2.heap.size < u4.heap.size from cell_lt m2)).trans m2))
          all_goals
            rename_i hHeld
            clear hHeld
            have H5 : Hid (Below w.heap.size w u5) := H4.out.2.1.trans (((Below.refl _ u4).drew.trans hb5).mono H4.out.2.1.size)
            clear hb5 l0 l1 l2 l3 m0 m1 m2 m4 i0 i1 i2 i3 j0 j1 j2
            go_wp2_with fail
            go_ret
            exact ⟨rfl, H5.out⟩
        · have hc1 : (code != 0) = true := by rw [bne_iff_ne]; exact hc0
          have hc2 : (code == 0) = false := by rw [beq_eq_false_iff_ne]; exact hc0
          go_wp2_with fail
          go_ret
          exact ⟨rfl, H4.out.2.1⟩
  · obtain ⟨g0, g1⟩ := h2.g0
    go_wp2_with fail
    refine (right_seg_spec tag _ es _ h2.row HB.out).mono ?_
    rintro e w3 ⟨rfl, hb3⟩
    have h3 := h2.below hb3
    clear hb3 h2 g0 g1
    cases hgr : rightG tag es
    · go_upto_if 30 with fail
      go_cut [7] from 31 to 54 (fun _ wx => Below w.heap.size w wx)
      case first =>
        have HL : Hid (Below w.heap.size w _) := h3.bel
        clear h3
        go_wp2_with fail
        go_meet
        case rel => exact HL.out
      case rest =>
        have hbc : Below w.heap.size w wc := hcut
        have hsc := hbc.size
        go_wp2_with fail
        refine (drawSegmentRead_any a1 len1 cap1 z1 _ (by omega) (bytesAt_belowS HR.out.2 hbc)).mono ?_
        rintro e u1 ⟨p0, p1, p2, p3, t, rfl, htq, hb9⟩
        have bA : Below w.heap.size w u1 := hbc.trans (hb9.mono hsc)
        have hsu := bA.size
        have X1 : Box4 (u1.alloc (.cells #[.int .i64 p0, .int .i64 p1, .int .i64 p2, .int .i64 p3] 24)) u1.heap.size p0 p1 p2 p3 := Box4.new u1 24 p0 p1 p2 p3
        have HB1 : Hid (Below w.heap.size w (u1.alloc (.cells #[.int .i64 p0, .int .i64 p1, .int .i64 p2, .int .i64 p3] 24))) := bA.alloc hsu _
        have q0 := X1.c0
        have q1 := X1.c1
        have q2 := X1.c2
        have q3 := X1.c3
        clear hb9 bA hbc
        obtain ⟨R, hR⟩ : ∃ R, rdR p0 p1 p2 p3 t = R := ⟨_, rfl⟩
        have HRD2 : Hid (rdR p0 p1 p2 p3 t = R) := hR
        clear hR
        go_wp2_with fail
        refine (read_impl p0 p1 p2 p3 t _ R HRD2.out).mono ?_
        rintro e u2 ⟨v2, vals2, rfl, hO2, hb2⟩
        obtain ⟨A2, N2, C2, hv2⟩ := row_slice hO2.row
        subst hv2
        have hX2 := rdR_facts p0 p1 p2 p3 t
        rw [HRD2.out] at hX2
        have r2 : RowE u2 (.slice A2 N2 C2) (gOf R.2.2.2).2 := hO2.rowE hX2.1 (by omega)
        have X2 := X1.keep (Keep.of_below (B := u1.heap.size + 1) hb2) (by omega)
        have bB : Below w.heap.size w u2 := HB1.out.trans (hb2.mono HB1.out.size)
        have htk : ∀ s : ByteArray, s.size ≤ 5000 → s.size ≤ 9223372036854775807 := fun s h => by omega
        generalize hM : (Value.string (gOf R.2.2.2).1) = M at *
        obtain ⟨code, at_, used, sg⟩ := R
        dsimp only at *
        have bC : Below u2.heap.size u2 (u2.alloc (.cells #[.string (gOf sg).1, .slice A2 N2 C2, .int .i64 used, .int .i64 at_, .int .i64 code] 34)) := (Below.refl _ _).alloc (Nat.le_refl _) _
        subst hM
        have X3 := X2.alloc (.cells #[.string (gOf sg).1, .slice A2 N2 C2, .int .i64 used, .int .i64 at_, .int .i64 code] 34)
        have H3 : Hid (RowE (u2.alloc (.cells #[.string (gOf sg).1, .slice A2 N2 C2, .int .i64 used, .int .i64 at_, .int .i64 code] 34)) (.slice A2 N2 C2) (gOf sg).2 ∧ Below w.heap.size w (u2.alloc (.cells #[.string (gOf sg).1, .slice A2 N2 C2, .int .i64 used, .int .i64 at_, .int .i64 code] 34)) ∧ BdX (gOf sg).2 ∧ (gOf sg).2.length ≤ 10) := ⟨r2.below bC, bB.trans (bC.mono bB.size), hX2⟩
        have k0 := X3.c0
        have k1 := X3.c1
        have k2 := X3.c2
        have k3 := X3.c3
        have f0 : (u2.alloc (.cells #[.string (gOf sg).1, .slice A2 N2 C2, .int .i64 used, .int .i64 at_, .int .i64 code] 34)).cell? ⟨u2.heap.size, 0, none⟩ = some (.string (gOf sg).1) := by simp [go_sem]
        have f1 : (u2.alloc (.cells #[.string (gOf sg).1, .slice A2 N2 C2, .int .i64 used, .int .i64 at_, .int .i64 code] 34)).cell? ⟨u2.heap.size, 1, none⟩ = some (.slice A2 N2 C2) := by simp [go_sem]
        have f2 : (u2.alloc (.cells #[.string (gOf sg).1, .slice A2 N2 C2, .int .i64 used, .int .i64 at_, .int .i64 code] 34)).cell? ⟨u2.heap.size, 2, none⟩ = some (.int .i64 used) := by simp [go_sem]
        have f4 : (u2.alloc (.cells #[.string (gOf sg).1, .slice A2 N2 C2, .int .i64 used, .int .i64 at_, .int .i64 code] 34)).cell? ⟨u2.heap.size, 4, none⟩ = some (.int .i64 code) := by simp [go_sem]
        clear hO2 hb2 hX2 r2 X2 X3 bB bC htk HB1 X1 q0 q1 q2 q3
        go_wp2_with fail
        have hfl : ∀ (x : Value) (W : World), _ := fun x W => fld (gOf sg).1 x used at_ code W
        generalize u2.alloc (.cells #[.string (gOf sg).1, .slice A2 N2 C2, .int .i64 used, .int .i64 at_, .int .i64 code] 34) = u3 at *
        go_region_held3 (fun W => W.cell? ⟨u1.heap.size, 0, none⟩ = some (.int .i64 p0) ∧ W.cell? ⟨u1.heap.size, 1, none⟩ = some (.int .i64 p1) ∧ W.cell? ⟨u1.heap.size, 2, none⟩ = some (.int .i64 p2) ∧ W.cell? ⟨u1.heap.size, 3, none⟩ = some (.int .i64 p3) ∧ W.cell? ⟨u2.heap.size, 4, none⟩ = some (.int .i64 code)) (go_keep) (first | (go_at_call 13; refine (read_spec p0 p1 p2 p3 t _ _ HRD2.out).mono ?_; rintro e u4 ⟨v4, vals4, rfl, hO4, hb4⟩; have l0 := (hb4.cell (p := ⟨u1.heap.size, 0, none⟩) (show u1.heap.size < u3.heap.size from cell_lt k0)).trans k0; have l1 := (hb4.cell (p := ⟨u1.heap.size, 1, none⟩) (show u1.heap.size < u3.heap.size from cell_lt k1)).trans k1; have l2 := (hb4.cell (p := ⟨u1.heap.size, 2, none⟩) (show u1.heap.size < u3.heap.size from cell_lt k2)).trans k2; have l3 := (hb4.cell (p := ⟨u1.heap.size, 3, none⟩) (show u1.heap.size < u3.heap.size from cell_lt k3)).trans k3; have m0 := (hb4.cell (p := ⟨u2.heap.size, 0, none⟩) (show u2.heap.size < u3.heap.size from cell_lt f0)).trans f0; have m1 := (hb4.cell (p := ⟨u2.heap.size, 1, none⟩) (show u2.heap.size < u3.heap.size from cell_lt f1)).trans f1; have m2 := (hb4.cell (p := ⟨u2.heap.size, 2, none⟩) (show u2.heap.size < u3.heap.size from cell_lt f2)).trans f2; have m4 := (hb4.cell (p := ⟨u2.heap.size, 4, none⟩) (show u2.heap.size < u3.heap.size from cell_lt f4)).trans f4))
        all_goals
          rename_i hHeld
          clear hHeld
          have H4 : Hid (RowE u4 (.slice A2 N2 C2) (gOf sg).2 ∧ Below w.heap.size w u4 ∧ BdX (gOf sg).2 ∧ (gOf sg).2.length ≤ 10) := ⟨H3.out.1.below (((Below.refl _ u3).drew).trans hb4), H3.out.2.1.trans (((Below.refl _ u3).drew.trans hb4).mono H3.out.2.1.size), H3.out.2.2⟩
          clear hO4 hb4 k0 k1 k2 k3 f0 f1 f2 f4 H3
          by_cases hc0 : code = 0
          · subst hc0
            obtain ⟨hr2, hs2⟩ := rdR_ok (show (rdR p0 p1 p2 p3 t).1 = 0 by rw [HRD2.out])
            have hI := rdR_I hs2 hr2
            obtain ⟨n, g, e1, e2, hn0, hn1, hg2, htx⟩ := rd_text hr2 (s := t) (by rw [← hI, HRD2.out])
            rw [← hI, HRD2.out] at e1 e2
            dsimp only at e1 e2
            subst e1 e2
            simp only [gOf, Option.getD_some] at m0 H4 hfl
            have hn2 : (0 : Int) < (n : Int) := by omega
            have hn3 : (n : Int) ≤ (t.size : Int) := by omega
            have hn4 : decide ((0 : Int) < (n : Int)) = true := decide_eq_true hn2
            have hn5 : decide ((n : Int) ≤ (t.size : Int)) = true := decide_eq_true hn3
            have hn6 : decide (0 < n) = true := decide_eq_true hn0
            have hn7 : decide (n ≤ t.size) = true := decide_eq_true hn1
            have htt : ((textG p0 p1 p2 p3 g.1 g.2).toList == (t.extract 0 n).toList) = true := by rw [htx]; simp
            have HTX : Hid (∀ W : World, RowE W (.slice A2 N2 C2) g.2 → Calls Try.prog 9 #[.agg #[.int .i64 p0, .int .i64 p1, .int .i64 p2, .int .i64 p3], .agg #[.string g.1, .slice A2 N2 C2]] W fun e w' => e = .returned (.string (textG p0 p1 p2 p3 g.1 g.2)) ∧ Below W.heap.size W w') := fun W hW => text_seg_impl p0 p1 p2 p3 g.1 _ g.2 W hW (H4.out.2.2.1.bdE (by have := H4.out.2.2.2; omega))
            generalize textG p0 p1 p2 p3 g.1 g.2 = TX at *
            clear htx hfl
            go_wp2_with fail
            go_region_held3 (fun W => W.cell? ⟨u1.heap.size, 0, none⟩ = some (.int .i64 p0) ∧ W.cell? ⟨u1.heap.size, 1, none⟩ = some (.int .i64 p1) ∧ W.cell? ⟨u1.heap.size, 2, none⟩ = some (.int .i64 p2) ∧ W.cell? ⟨u1.heap.size, 3, none⟩ = some (.int .i64 p3) ∧ W.cell? ⟨u2.heap.size, 0, none⟩ = some (.string g.1) ∧ W.cell? ⟨u2.heap.size, 1, none⟩ = some (.slice A2 N2 C2) ∧ W.cell? ⟨u2.heap.size, 2, none⟩ = some (.int .i64 (n : Int))) (go_keep) (first | (go_at_call 9; refine (HTX.out _ (H4.out.1.below (Below.refl _ _).drew)).mono ?_; rintro e u5 ⟨rfl, hb5⟩; have i0 := (hb5.cell (p := ⟨u1.heap.size, 0, none⟩) (show u1.heap.size < u4.heap.size from cell_lt l0)).trans l0; have i1 := (hb5.cell (p := ⟨u1.heap.size, 1, none⟩) (show u1.heap.size < u4.heap.size from cell_lt l1)).trans l1; have i2 := (hb5.cell (p := ⟨u1.heap.size, 2, none⟩) (show u1.heap.size < u4.heap.size from cell_lt l2)).trans l2; have i3 := (hb5.cell (p := ⟨u1.heap.size, 3, none⟩) (show u1.heap.size < u4.heap.size from cell_lt l3)).trans l3; have j0 := (hb5.cell (p := ⟨u2.heap.size, 0, none⟩) (show u2.heap.size < u4.heap.size from cell_lt m0)).trans m0; have j1 := (hb5.cell (p := ⟨u2.heap.size, 1, none⟩) (show u2.heap.size < u4.heap.size from cell_lt m1)).trans m1; have j2 := (hb5.cell (p := ⟨u2.heap.size, 2, none⟩) (show u2.heap.size < u4.heap.size from cell_lt m2)).trans m2))
            all_goals
              rename_i hHeld
              clear hHeld
              have H5 : Hid (Below w.heap.size w u5) := H4.out.2.1.trans (((Below.refl _ u4).drew.trans hb5).mono H4.out.2.1.size)
              clear hb5 l0 l1 l2 l3 m0 m1 m2 m4 i0 i1 i2 i3 j0 j1 j2
              go_wp2_with fail
              go_ret
              exact ⟨rfl, H5.out⟩
          · have hc1 : (code != 0) = true := by rw [bne_iff_ne]; exact hc0
            have hc2 : (code == 0) = false := by rw [beq_eq_false_iff_ne]; exact hc0
            go_wp2_with fail
            go_ret
            exact ⟨rfl, H4.out.2.1⟩
    · go_upto_if 30 with fail
      go_cut [7] from 31 to 54 (fun _ wx => Below w.heap.size w wx)
      case first =>
        obtain ⟨g0, g1⟩ := h3.g0
        have x0 := h3.x.c0
        have x1 := h3.x.c1
        have x2 := h3.x.c2
        have x3 := h3.x.c3
        go_wp2_with fail
        refine (text_seg_impl a b c d tag _ es _ h3.row HB.out).mono ?_
        rintro e w4 ⟨rfl, hb4⟩
        have h4 := h3.below hb4
        have hT := textG_bd a b c d tag es
        have hback : ∀ T, T = textG a b c d tag es → rdR a b c d (T ++ ⟨#[65, 66]⟩) = (0, 0, (T.size : Int), some (tag, es)) := fun T hT' => by
          subst hT'
          rw [rdR_I (by rw [ByteArray.size_append]; have : (⟨#[65, 66]⟩ : ByteArray).size = 2 := rfl; omega) hr]
          exact rd_back hr hgr (m := [65, 66]) (by rw [Go.Joins.data_append])
        generalize hTe : textG a b c d tag es = T at *
        have hrd := hback T rfl
        have HRD : Hid (rdR a b c d (T ++ ⟨#[65, 66]⟩) = (0, 0, (T.size : Int), some (tag, es))) := hrd
        have hsum : ¬ 9223372036854775807 < T.size + 2 := by omega
        clear hb4 h3 x0 x1 x2 x3 g0 g1 hback hrd hTe
        have x0 := h4.x.c0
        have x1 := h4.x.c1
        have x2 := h4.x.c2
        have x3 := h4.x.c3
        go_wp2_with fail
        refine (read_impl a b c d _ _ _ HRD.out).mono ?_
        rintro e w5 ⟨v5, vals5, rfl, hO5, hb5⟩
        have hX := rdR_facts a b c d (T ++ ⟨#[65, 66]⟩)
        rw [HRD.out] at hX
        have r5 : RowE w5 v5 es := hO5.rowE hX.1 (by have := hX.2; simp only [gOf, Option.getD_some] at this; show es.length ≤ 1048576; omega)
        obtain ⟨A5, C5, hv5⟩ := r5.val
        subst hv5
        have h5 := h4.below hb5
        have b6 : Below w5.heap.size w5 (w5.alloc (.cells #[.string tag, .slice A5 es.length C5, .int .i64 (T.size : Int), .int .i64 0, .int .i64 0] 34)) := (Below.refl _ _).alloc (Nat.le_refl _) _
        have h6 := h5.below b6
        have R6 : Hid (RowE (w5.alloc (.cells #[.string tag, .slice A5 es.length C5, .int .i64 (T.size : Int), .int .i64 0, .int .i64 0] 34)) (.slice A5 es.length C5) es) := r5.below b6
        obtain ⟨g0, g1⟩ := h6.g0
        clear hb5 h4 x0 x1 x2 x3 hO5 hX r5 b6 h5
        simp only [gOf, Option.getD_some]
        go_wp2_with fail
        refine (lwSeg_any tag _ _ es _ R6.out h6.row).mono ?_
        rintro e w7 ⟨rfl, hb7⟩
        have HL : Hid (Below w.heap.size w w7) := (h6.below hb7).bel
        clear hb7 h6
        go_wp2_with fail
        go_meet
        case rel => exact HL.out
      case rest =>
        have hbc : Below w.heap.size w wc := hcut
        have hsc := hbc.size
        go_wp2_with fail
        refine (drawSegmentRead_any a1 len1 cap1 z1 _ (by omega) (bytesAt_belowS HR.out.2 hbc)).mono ?_
        rintro e u1 ⟨p0, p1, p2, p3, t, rfl, htq, hb9⟩
        have bA : Below w.heap.size w u1 := hbc.trans (hb9.mono hsc)
        have hsu := bA.size
        have X1 : Box4 (u1.alloc (.cells #[.int .i64 p0, .int .i64 p1, .int .i64 p2, .int .i64 p3] 24)) u1.heap.size p0 p1 p2 p3 := Box4.new u1 24 p0 p1 p2 p3
        have HB1 : Hid (Below w.heap.size w (u1.alloc (.cells #[.int .i64 p0, .int .i64 p1, .int .i64 p2, .int .i64 p3] 24))) := bA.alloc hsu _
        have q0 := X1.c0
        have q1 := X1.c1
        have q2 := X1.c2
        have q3 := X1.c3
        clear hb9 bA hbc
        obtain ⟨R, hR⟩ : ∃ R, rdR p0 p1 p2 p3 t = R := ⟨_, rfl⟩
        have HRD2 : Hid (rdR p0 p1 p2 p3 t = R) := hR
        clear hR
        go_wp2_with fail
        refine (read_impl p0 p1 p2 p3 t _ R HRD2.out).mono ?_
        rintro e u2 ⟨v2, vals2, rfl, hO2, hb2⟩
        obtain ⟨A2, N2, C2, hv2⟩ := row_slice hO2.row
        subst hv2
        have hX2 := rdR_facts p0 p1 p2 p3 t
        rw [HRD2.out] at hX2
        have r2 : RowE u2 (.slice A2 N2 C2) (gOf R.2.2.2).2 := hO2.rowE hX2.1 (by omega)
        have X2 := X1.keep (Keep.of_below (B := u1.heap.size + 1) hb2) (by omega)
        have bB : Below w.heap.size w u2 := HB1.out.trans (hb2.mono HB1.out.size)
        have htk : ∀ s : ByteArray, s.size ≤ 5000 → s.size ≤ 9223372036854775807 := fun s h => by omega
        generalize hM : (Value.string (gOf R.2.2.2).1) = M at *
        obtain ⟨code, at_, used, sg⟩ := R
        dsimp only at *
        have bC : Below u2.heap.size u2 (u2.alloc (.cells #[.string (gOf sg).1, .slice A2 N2 C2, .int .i64 used, .int .i64 at_, .int .i64 code] 34)) := (Below.refl _ _).alloc (Nat.le_refl _) _
        subst hM
        have X3 := X2.alloc (.cells #[.string (gOf sg).1, .slice A2 N2 C2, .int .i64 used, .int .i64 at_, .int .i64 code] 34)
        have H3 : Hid (RowE (u2.alloc (.cells #[.string (gOf sg).1, .slice A2 N2 C2, .int .i64 used, .int .i64 at_, .int .i64 code] 34)) (.slice A2 N2 C2) (gOf sg).2 ∧ Below w.heap.size w (u2.alloc (.cells #[.string (gOf sg).1, .slice A2 N2 C2, .int .i64 used, .int .i64 at_, .int .i64 code] 34)) ∧ BdX (gOf sg).2 ∧ (gOf sg).2.length ≤ 10) := ⟨r2.below bC, bB.trans (bC.mono bB.size), hX2⟩
        have k0 := X3.c0
        have k1 := X3.c1
        have k2 := X3.c2
        have k3 := X3.c3
        have f0 : (u2.alloc (.cells #[.string (gOf sg).1, .slice A2 N2 C2, .int .i64 used, .int .i64 at_, .int .i64 code] 34)).cell? ⟨u2.heap.size, 0, none⟩ = some (.string (gOf sg).1) := by simp [go_sem]
        have f1 : (u2.alloc (.cells #[.string (gOf sg).1, .slice A2 N2 C2, .int .i64 used, .int .i64 at_, .int .i64 code] 34)).cell? ⟨u2.heap.size, 1, none⟩ = some (.slice A2 N2 C2) := by simp [go_sem]
        have f2 : (u2.alloc (.cells #[.string (gOf sg).1, .slice A2 N2 C2, .int .i64 used, .int .i64 at_, .int .i64 code] 34)).cell? ⟨u2.heap.size, 2, none⟩ = some (.int .i64 used) := by simp [go_sem]
        have f4 : (u2.alloc (.cells #[.string (gOf sg).1, .slice A2 N2 C2, .int .i64 used, .int .i64 at_, .int .i64 code] 34)).cell? ⟨u2.heap.size, 4, none⟩ = some (.int .i64 code) := by simp [go_sem]
        clear hO2 hb2 hX2 r2 X2 X3 bB bC htk HB1 X1 q0 q1 q2 q3
        go_wp2_with fail
        have hfl : ∀ (x : Value) (W : World), _ := fun x W => fld (gOf sg).1 x used at_ code W
        generalize u2.alloc (.cells #[.string (gOf sg).1, .slice A2 N2 C2, .int .i64 used, .int .i64 at_, .int .i64 code] 34) = u3 at *
        go_region_held3 (fun W => W.cell? ⟨u1.heap.size, 0, none⟩ = some (.int .i64 p0) ∧ W.cell? ⟨u1.heap.size, 1, none⟩ = some (.int .i64 p1) ∧ W.cell? ⟨u1.heap.size, 2, none⟩ = some (.int .i64 p2) ∧ W.cell? ⟨u1.heap.size, 3, none⟩ = some (.int .i64 p3) ∧ W.cell? ⟨u2.heap.size, 4, none⟩ = some (.int .i64 code)) (go_keep) (first | (go_at_call 13; refine (read_spec p0 p1 p2 p3 t _ _ HRD2.out).mono ?_; rintro e u4 ⟨v4, vals4, rfl, hO4, hb4⟩; have l0 := (hb4.cell (p := ⟨u1.heap.size, 0, none⟩) (show u1.heap.size < u3.heap.size from cell_lt k0)).trans k0; have l1 := (hb4.cell (p := ⟨u1.heap.size, 1, none⟩) (show u1.heap.size < u3.heap.size from cell_lt k1)).trans k1; have l2 := (hb4.cell (p := ⟨u1.heap.size, 2, none⟩) (show u1.heap.size < u3.heap.size from cell_lt k2)).trans k2; have l3 := (hb4.cell (p := ⟨u1.heap.size, 3, none⟩) (show u1.heap.size < u3.heap.size from cell_lt k3)).trans k3; have m0 := (hb4.cell (p := ⟨u2.heap.size, 0, none⟩) (show u2.heap.size < u3.heap.size from cell_lt f0)).trans f0; have m1 := (hb4.cell (p := ⟨u2.heap.size, 1, none⟩) (show u2.heap.size < u3.heap.size from cell_lt f1)).trans f1; have m2 := (hb4.cell (p := ⟨u2.heap.size, 2, none⟩) (show u2.heap.size < u3.heap.size from cell_lt f2)).trans f2; have m4 := (hb4.cell (p := ⟨u2.heap.size, 4, none⟩) (show u2.heap.size < u3.heap.size from cell_lt f4)).trans f4))
        all_goals
          rename_i hHeld
          clear hHeld
          have H4 : Hid (RowE u4 (.slice A2 N2 C2) (gOf sg).2 ∧ Below w.heap.size w u4 ∧ BdX (gOf sg).2 ∧ (gOf sg).2.length ≤ 10) := ⟨H3.out.1.below (((Below.refl _ u3).drew).trans hb4), H3.out.2.1.trans (((Below.refl _ u3).drew.trans hb4).mono H3.out.2.1.size), H3.out.2.2⟩
          clear hO4 hb4 k0 k1 k2 k3 f0 f1 f2 f4 H3
          by_cases hc0 : code = 0
          · subst hc0
            obtain ⟨hr2, hs2⟩ := rdR_ok (show (rdR p0 p1 p2 p3 t).1 = 0 by rw [HRD2.out])
            have hI := rdR_I hs2 hr2
            obtain ⟨n, g, e1, e2, hn0, hn1, hg2, htx⟩ := rd_text hr2 (s := t) (by rw [← hI, HRD2.out])
            rw [← hI, HRD2.out] at e1 e2
            dsimp only at e1 e2
            subst e1 e2
            simp only [gOf, Option.getD_some] at m0 H4 hfl
            have hn2 : (0 : Int) < (n : Int) := by omega
            have hn3 : (n : Int) ≤ (t.size : Int) := by omega
            have hn4 : decide ((0 : Int) < (n : Int)) = true := decide_eq_true hn2
            have hn5 : decide ((n : Int) ≤ (t.size : Int)) = true := decide_eq_true hn3
            have hn6 : decide (0 < n) = true := decide_eq_true hn0
            have hn7 : decide (n ≤ t.size) = true := decide_eq_true hn1
            have htt : ((textG p0 p1 p2 p3 g.1 g.2).toList == (t.extract 0 n).toList) = true := by rw [htx]; simp
            have HTX : Hid (∀ W : World, RowE W (.slice A2 N2 C2) g.2 → Calls Try.prog 9 #[.agg #[.int .i64 p0, .int .i64 p1, .int .i64 p2, .int .i64 p3], .agg #[.string g.1, .slice A2 N2 C2]] W fun e w' => e = .returned (.string (textG p0 p1 p2 p3 g.1 g.2)) ∧ Below W.heap.size W w') := fun W hW => text_seg_impl p0 p1 p2 p3 g.1 _ g.2 W hW (H4.out.2.2.1.bdE (by have := H4.out.2.2.2; omega))
            generalize textG p0 p1 p2 p3 g.1 g.2 = TX at *
            clear htx hfl
            go_wp2_with fail
            go_region_held3 (fun W => W.cell? ⟨u1.heap.size, 0, none⟩ = some (.int .i64 p0) ∧ W.cell? ⟨u1.heap.size, 1, none⟩ = some (.int .i64 p1) ∧ W.cell? ⟨u1.heap.size, 2, none⟩ = some (.int .i64 p2) ∧ W.cell? ⟨u1.heap.size, 3, none⟩ = some (.int .i64 p3) ∧ W.cell? ⟨u2.heap.size, 0, none⟩ = some (.string g.1) ∧ W.cell? ⟨u2.heap.size, 1, none⟩ = some (.slice A2 N2 C2) ∧ W.cell? ⟨u2.heap.size, 2, none⟩ = some (.int .i64 (n : Int))) (go_keep) (first | (go_at_call 9; refine (HTX.out _ (H4.out.1.below (Below.refl _ _).drew)).mono ?_; rintro e u5 ⟨rfl, hb5⟩; have i0 := (hb5.cell (p := ⟨u1.heap.size, 0, none⟩) (show u1.heap.size < u4.heap.size from cell_lt l0)).trans l0; have i1 := (hb5.cell (p := ⟨u1.heap.size, 1, none⟩) (show u1.heap.size < u4.heap.size from cell_lt l1)).trans l1; have i2 := (hb5.cell (p := ⟨u1.heap.size, 2, none⟩) (show u1.heap.size < u4.heap.size from cell_lt l2)).trans l2; have i3 := (hb5.cell (p := ⟨u1.heap.size, 3, none⟩) (show u1.heap.size < u4.heap.size from cell_lt l3)).trans l3; have j0 := (hb5.cell (p := ⟨u2.heap.size, 0, none⟩) (show u2.heap.size < u4.heap.size from cell_lt m0)).trans m0; have j1 := (hb5.cell (p := ⟨u2.heap.size, 1, none⟩) (show u2.heap.size < u4.heap.size from cell_lt m1)).trans m1; have j2 := (hb5.cell (p := ⟨u2.heap.size, 2, none⟩) (show u2.heap.size < u4.heap.size from cell_lt m2)).trans m2))
            all_goals
              rename_i hHeld
              clear hHeld
              have H5 : Hid (Below w.heap.size w u5) := H4.out.2.1.trans (((Below.refl _ u4).drew.trans hb5).mono H4.out.2.1.size)
              clear hb5 l0 l1 l2 l3 m0 m1 m2 m4 i0 i1 i2 i3 j0 j1 j2
              go_wp2_with fail
              go_ret
              exact ⟨rfl, H5.out⟩
          · have hc1 : (code != 0) = true := by rw [bne_iff_ne]; exact hc0
            have hc2 : (code == 0) = false := by rw [beq_eq_false_iff_ne]; exact hc0
            go_wp2_with fail
            go_ret
            exact ⟨rfl, H4.out.2.1⟩
theorem own : ownKnob Try.prog.godebug = none := by kernel_rfl
theorem laidOut : laidOutB Try.prog = true := by kernel_rfl
set_option maxRecDepth 100000 in
theorem lifted (os : Os) (started : os.Started) (H : Type) (enc : TypeId × Value → H) :
    ReturnsInHanded {} Try.checked os 3 .any (Rows.fnSegmentBackSpec.pre6 enc Try.prog Try.f3 Rows.fnSegmentBackRow.domain false) (Rows.fnSegmentBackSpec.post enc Try.prog Try.f3 false true false false) := by
  refine returnsInHanded_of_change (C := Try.checked) own started (by kernel_rfl) Try.func3
    (ChangeSpec.witness6 (enc := enc) (C := Try.checked) false ⟨#[], #[.slice none 0 0, .slice none 0 0], []⟩ 8 (by kernel_rfl) (by kernel_rfl) (by kernel_rfl) (by kernel_rfl)) ?_
  intro W base args ds gs before hval0 hW hcnd _
  have hval : ∀ (j : Nat) t v, Try.f3.params[j]? = some t → args[j]? = some v → Value.okWide Try.prog W .any base t v := hval0
  have hW' := hW
  obtain ⟨p, q, hA0, hV, rfl, hfz, hnd⟩ := hW
  have hA : DataW.TrodAll enc Try.prog W 0 (fun _ => true) true Try.f3.params.toList args.toList ds p := hA0
  rw [Try.params3] at hA hval
  obtain ⟨v0, vs0, d0, ds0, p0, q0, hargs, rfl, rfl, h0, r0⟩ := trodAll_cons hA
  obtain ⟨v1, vs1, d1, ds1, p1, q1, rfl, rfl, rfl, h1, r1⟩ := trodAll_cons r0
  obtain ⟨rfl, rfl, rfl⟩ := trodAll_nil r1
  obtain rfl : args = #[v0, v1] := by cases args; simp_all
  obtain ⟨rfl, rfl⟩ := trodVars_none hV
  obtain ⟨a0, len0, cap0, rfl⟩ := okWide_slice Try.underlying22 (hval 0 22 v0 rfl rfl)
  have k0 := h0
  have lt0 : ∀ x ∈ p0, x.block < W.heap.size := by obtain ⟨m, hm⟩ := k0; exact DataW.trod_lt m _ _ _ hm
  obtain ⟨z0, w0⟩ : ∃ zs, IsRow .u8 W a0 len0 cap0 zs := by
    obtain ⟨fuel, hf⟩ := h0
    rcases open_ints Try.underlying22 Try.underlying5 (by kernel_rfl) hf with ⟨hcs, _⟩ | ⟨x, l, c, zs, hcs, _, hl, hm, hz, _, hcell, hwz⟩
    · simp [Value.cells] at hcs
      obtain ⟨rfl, rfl, rfl⟩ := hcs
      exact ⟨[], .inl ⟨rfl, rfl, rfl, rfl⟩⟩
    · simp [Value.cells] at hcs
      obtain ⟨rfl, rfl, rfl⟩ := hcs
      exact ⟨zs, .inr ⟨_, rfl, hl, hm, by simpa using hz, hcell, hwz⟩⟩
  obtain ⟨a1, len1, cap1, rfl⟩ := okWide_slice Try.underlying22 (hval 1 22 v1 rfl rfl)
  have k1 := h1
  have lt1 : ∀ x ∈ p1, x.block < W.heap.size := by obtain ⟨m, hm⟩ := k1; exact DataW.trod_lt m _ _ _ hm
  obtain ⟨z1, w1⟩ : ∃ zs, IsRow .u8 W a1 len1 cap1 zs := by
    obtain ⟨fuel, hf⟩ := h1
    rcases open_ints Try.underlying22 Try.underlying5 (by kernel_rfl) hf with ⟨hcs, _⟩ | ⟨x, l, c, zs, hcs, _, hl, hm, hz, _, hcell, hwz⟩
    · simp [Value.cells] at hcs
      obtain ⟨rfl, rfl, rfl⟩ := hcs
      exact ⟨[], .inl ⟨rfl, rfl, rfl, rfl⟩⟩
    · simp [Value.cells] at hcs
      obtain ⟨rfl, rfl, rfl⟩ := hcs
      exact ⟨zs, .inr ⟨_, rfl, hl, hm, by simpa using hz, hcell, hwz⟩⟩
  clear hA0 hval0
  refine (walk a0 len0 cap0 z0 a1 len1 cap1 z1 W w0 w1).mono fun e W' ⟨he, bel⟩ => ?_
  subst he
  exact ⟨_, rfl, _, _, _, [], _, [], hW', trodAll_mk1 (shut_bool Try.underlying4 _), (trodAll_cons_mk (Below.trod laidOut (by kernel_rfl) (of_decide_eq_true (by kernel_rfl)) k0 bel lt0) (trodAll_cons_mk (Below.trod laidOut (by kernel_rfl) (of_decide_eq_true (by kernel_rfl)) k1 bel lt1) trodAll_mk0)), rfl, bel.frame _, fun h => by cases h⟩
theorem over : Rows.fnSegmentBackRow.holds Try.pinned (OpenSpec.ofChange Rows.fnSegmentBackSpec) :=
  OpenClaim.holds_of_wide 3 Try.f3 rfl rfl rfl rfl rfl rfl rfl ⟨rfl, rfl, rfl, rfl, rfl⟩ rfl rfl rfl rfl rfl (by kernel_rfl) Try.func3 (by kernel_rfl)
    (of_decide_eq_true (by kernel_rfl)) (by unfold Func.isWrapper; first | (rw [if_pos (by decide +kernel)]; kernel_rfl) | (rw [if_neg (by decide +kernel)]; exact ⟨rfl, rfl⟩))
    (fun os started H enc _ => lifted os started H enc)
end fnSegmentBack
theorem fnSegmentBack_holds : Rows.FnSegmentBackSaid := fnSegmentBack.over
#print axioms fnSegmentBack_holds
end Go.Proofs.Ytbhionebejnbgaa
