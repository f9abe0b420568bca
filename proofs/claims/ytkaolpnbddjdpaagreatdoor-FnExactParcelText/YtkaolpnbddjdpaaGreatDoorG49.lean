/- Texts of ours put together: TextGS. -/
import Derived.Test.YtkaolpnbddjdpaaGreatDoorG47
import Derived.Test.YtkaolpnbddjdpaaGreatDoorG27
import Derived.Test.YtkaolpnbddjdpaaGreatDoorG48
import Derived.Lib.SmallJoins
import Derived.Deep.RegionHeld3
namespace Go.Proofs.YtkaolpnbddjdpaaGreatDoor
open Go.ChangeShapes Go.WideShapes Go.ChangeAt Go.RowKit
theorem convOne (W : World) (x : Int) : (convert 22 9 (.slice (some ⟨W.heap.size, 0, none⟩) 1 1)).run Tryz.prog (W.alloc (.cells #[.int .u8 x] 5)) = .ok (.string (strOfNums [x])) (W.alloc (.cells #[.int .u8 x] 5)) :=
  run_convert_bytes_arg _ 22 5 Tryz.underlying22 Tryz.underlying5 W.heap.size 0 1 1 [x] rfl (fun i hi => by
    rcases i with _ | i
    · simp [go_sem]
    · simp at hi) 9 Tryz.underlying9
/-- The first parts of an element, El ahead of all. -/
def sU (a b c d : Int) (ss : List ByteArray) : Nat → List UInt8
  | 0 => [mB b]
  | k + 1 => sU a b c d ss k ++ (if k = 0 then [] else [mB c]) ++ escB a b c d (ss[k]?.getD ⟨#[]⟩)
theorem iU_sU (a b c d : Int) (ss : List ByteArray) : ∀ k, iU a b c d ss (k + 1) = sU a b c d ss (k + 1) := by
  intro k
  induction k with
  | zero => simp [iU, sU]
  | succ k ih =>
    have e1 : iU a b c d ss (k + 1 + 1) = iU a b c d ss (k + 1) ++ ((if k + 1 = 0 then mB b else mB c) :: escB a b c d (ss[k + 1]?.getD ⟨#[]⟩)) := rfl
    have e2 : sU a b c d ss (k + 1 + 1) = sU a b c d ss (k + 1) ++ (if k + 1 = 0 then [] else [mB c]) ++ escB a b c d (ss[k + 1]?.getD ⟨#[]⟩) := rfl
    rw [e1, e2, ih, if_neg (by omega), if_neg (by omega), List.append_assoc]
    rfl
theorem sU_len {a b c d : Int} {ss : List ByteArray} (h : ∀ (j : Nat) (t : ByteArray), ss[j]? = some t → partB t = true) (k : Nat) (hk : k ≤ ss.length) : (sU a b c d ss k).length ≤ 1 + 81 * k := by
  cases k with
  | zero => simp [sU]
  | succ k =>
    rw [← iU_sU]
    have := iU_len (a := a) (b := b) (c := c) (d := d) h (k + 1) hk
    omega
theorem strOne (x : Int) : (strOfNums [x % 256]).data.toList = [mB x] := by
  rw [strOfNums_data]
  rfl
theorem size_list (x : ByteArray) : x.size = x.data.toList.length := by simp
/-- The model's escape, with seven cells that it keeps. -/
theorem esc7 (a b c d : Int) (t : ByteArray) (W : World) (hs : t.size ≤ 20000) {p0 p1 p2 p3 p4 p5 p6 : Addr} {v0 v1 v2 v3 v4 v5 v6 : Value} (h0 : W.cell? p0 = some v0) (h1 : W.cell? p1 = some v1) (h2 : W.cell? p2 = some v2) (h3 : W.cell? p3 = some v3) (h4 : W.cell? p4 = some v4) (h5 : W.cell? p5 = some v5) (h6 : W.cell? p6 = some v6) :
    Calls Tryz.prog 100 #[.agg #[.int .i64 a, .int .i64 b, .int .i64 c, .int .i64 d], .string t] W fun e w' => ∃ E : ByteArray, e = .returned (.string E) ∧ E.data.toList = escB a b c d t ∧ E.size ≤ 2 * t.size ∧ Below W.heap.size W w' ∧ w'.cell? p0 = some v0 ∧ w'.cell? p1 = some v1 ∧ w'.cell? p2 = some v2 ∧ w'.cell? p3 = some v3 ∧ w'.cell? p4 = some v4 ∧ w'.cell? p5 = some v5 ∧ w'.cell? p6 = some v6 := by
  refine (l01Escape_any a b c d t W hs).mono ?_
  rintro e w' ⟨rfl, hb⟩
  have k : ∀ {p : Addr} {v : Value}, W.cell? p = some v → w'.cell? p = some v := fun h => (hb.cell (World.block_lt_of_cell? W _ h)).trans h
  refine ⟨_, rfl, rfl, ?_, hb, k h0, k h1, k h2, k h3, k h4, k h5, k h6⟩
  have := escB_len a b c d t
  unfold escB at this
  simpa using this
set_option maxHeartbeats 4000000 in
theorem text_seg_spec (a b c d : Int) (tag : ByteArray) (v : Value) (es : List (List ByteArray)) (w : World) (h : RowE w v es) (hE : BdE 1048576 es) :
    Calls Tryz.prog 60 #[.agg #[.int .i64 a, .int .i64 b, .int .i64 c, .int .i64 d], .agg #[.string tag, v]] w fun e w' => e = .returned (.string (textG a b c d tag es)) ∧ Below w.heap.size w w' := by
  obtain ⟨A, cap, rfl⟩ := h.val
  have hl := hE.1
  have hT := TS.begun a b c d tag h
  clear h
  have HE : Hid (BdE 1048576 es) := hE
  clear hE
  go_enter Tryz.func60, Tryz.ntmps60
  go_wp2_with fail
  refine (right_spec a b c d _).mono ?_
  rintro e w1 ⟨rfl, hb1⟩
  have hT1 := hT.below hb1
  clear hb1 hT
  cases hr : rightB a b c d
  · have HB : Hid (Below w.heap.size w w1) := hT1.bel
    clear hT1
    go_wp2
    go_ret
    exact ⟨ret_str (textG_no (.inl hr)).symm, HB.out⟩
  obtain ⟨x0, x1, x2, x3, x4, x5⟩ := hT1.cells
  go_wp2_with fail
  refine (right_seg_spec tag _ es _ hT1.row HE.out).mono ?_
  rintro e w2 ⟨rfl, hb2⟩
  have hT2 := hT1.below hb2
  clear hb2 hT1 x0 x1 x2 x3 x4 x5
  cases hg : rightG tag es
  · have HB : Hid (Below w.heap.size w w2) := hT2.bel
    clear hT2
    go_wp2
    go_ret
    exact ⟨ret_str (textG_no (.inr hg)).symm, HB.out⟩
  obtain ⟨x0, x1, x2, x3, x4, x5⟩ := hT2.cells
  have hlt2 := hT2.lt
  have q1 := segU_len (a := a) (b := b) (c := c) (d := d) hg
  obtain ⟨r1, r2, r3⟩ := rightG_facts hg
  have HQ : Hid ((∀ k, k ≤ es.length → (segU a b c d tag es k).length ≤ 3 + 324 * k) ∧ (∀ (j : Nat) (ss : List ByteArray), es[j]? = some ss → elB ss = true)) := ⟨q1, r3⟩
  clear q1 r3
  have HT : Hid (TS w w2 a b c d tag (.slice A es.length cap) es) := hT2
  clear hT2
  go_wp2_with fail
  go_loopw [5, 6] (fun t i wr => ∃ (k : Nat) (x : ByteArray), t = .string x ∧ i = .int .i64 (k : Int) ∧ k ≤ es.length ∧ x.data.toList = segU a b c d tag es k ∧ Below w2.heap.size w2 wr) (fun _ i _ => es.length - (intOf i).toNat)
  case atStart => exact ⟨0, tag, rfl, rfl, by omega, rfl, Below.refl _ _⟩
  case round =>
    obtain ⟨k, x, rfl, rfl, hk, hx, hb⟩ := hrel
    rename World => wo
    have q1 := HQ.out.1 k hk
    have hxs : x.size ≤ 3 + 324 * k := by rw [size_list, hx]; exact q1
    have hwo : w2.heap.size ≤ wo.heap.size := hb.size
    have o1 := strOfNums_size [b % 256]
    have o2 := strOfNums_size [c % 256]
    have o3 := strOfNums_size [a % 256]
    simp only [List.length_cons, List.length_nil] at o1 o2 o3
    have hcv := convOne wo
    obtain ⟨x0, x1, x2, x3, x4, x5⟩ := (HT.out.below hb).cells
    by_cases hlt : k < es.length
    · have hlt' : (k : Int) < (es.length : Int) := by omega
      obtain ⟨b1, o1', c1, ss, u, e, hs, hc, hS⟩ := HT.out.row.at hlt
      simp only [Value.slice.injEq, true_and] at e
      obtain ⟨rfl, rfl⟩ := e
      obtain ⟨a2, cap2, rfl⟩ := hS.val
      obtain ⟨p1, p2, p3⟩ := elB_facts (HQ.out.2 k ss hs)
      have hcw : wo.cell? ⟨b1, o1' + k, none⟩ = some (.slice a2 ss.length cap2) := (hb.cell (p := ⟨b1, o1' + k, none⟩) (cell_lt hc)).trans hc
      have HS : Hid (es[k]? = some ss ∧ RowS w2 (.slice a2 ss.length cap2) ss ∧ (∀ (j : Nat) (t : ByteArray), ss[j]? = some t → partB t = true) ∧ w2.cell? ⟨b1, o1' + k, none⟩ = some (.slice a2 ss.length cap2)) := ⟨hs, hS, p3, hc⟩
      have HB : Hid (x.data.toList = segU a b c d tag es k ∧ Below w2.heap.size w2 wo) := ⟨hx, hb⟩
      clear hs hS p3 hx hb hc
      have z1 : ¬ 9223372036854775807 < x.size + (strOfNums [b % 256]).size := by omega
      go_wp2_with fail
      go_loopw [5, 7] (fun t i wi => ∃ (m : Nat) (y : ByteArray), t = .string y ∧ i = .int .i64 (m : Int) ∧ m ≤ ss.length ∧ y.data.toList = segU a b c d tag es k ++ sU a b c d ss m ∧ Below w2.heap.size w2 wi) (fun _ i _ => ss.length - (intOf i).toNat)
      case atStart =>
        refine ⟨0, _, rfl, rfl, by omega, ?_, HB.out.2.alloc hwo _⟩
        rw [Go.Joins.data_append, strOne, HB.out.1]
        rfl
      case round =>
        obtain ⟨m, y, rfl, rfl, hm, hy, hbm⟩ := hrel
        have q3 := sU_len (a := a) (b := b) (c := c) (d := d) HS.out.2.2.1 m hm
        have hys : y.size ≤ 4 + 324 * k + 81 * m := by rw [size_list, hy, List.length_append]; omega
        have hcw' : wr.cell? ⟨b1, o1' + k, none⟩ = some (.slice a2 ss.length cap2) := (hbm.cell (p := ⟨b1, o1' + k, none⟩) (cell_lt HS.out.2.2.2)).trans HS.out.2.2.2
        have hwr : w2.heap.size ≤ wr.heap.size := hbm.size
        obtain ⟨z0, z1, z2, z3, z4, z5⟩ := (HT.out.below hbm).cells
        by_cases hml : m < ss.length
        · have hml' : (m : Int) < (ss.length : Int) := by omega
          obtain ⟨b3, o3', c3, t, e3, ht, hc3, hsz⟩ := (HS.out.2.1.below hbm).at hml
          simp only [Value.slice.injEq, true_and] at e3
          obtain ⟨rfl, rfl⟩ := e3
          have htl := partB_size (HS.out.2.2.1 m t ht)
          have hcv' := convOne wr
          have HM : Hid (ss[m]? = some t ∧ y.data.toList = segU a b c d tag es k ++ sU a b c d ss m ∧ Below w2.heap.size w2 wr) := ⟨ht, hy, hbm⟩
          clear ht hy hbm
          rcases Nat.eq_zero_or_pos m with rfl | hm0
          · rw [Nat.add_zero] at hc3
            go_wp2_with fail
            go_region_held3 (fun W => W.cell? ⟨w.heap.size, 0, none⟩ = some (.int .i64 a) ∧ W.cell? ⟨w.heap.size, 1, none⟩ = some (.int .i64 b) ∧ W.cell? ⟨w.heap.size, 2, none⟩ = some (.int .i64 c) ∧ W.cell? ⟨w.heap.size, 3, none⟩ = some (.int .i64 d) ∧ W.cell? ⟨w.heap.size + 1, 1, none⟩ = some (.slice (some ⟨b1, o1', none⟩) es.length cap) ∧ W.cell? ⟨b1, o1' + k, none⟩ = some (.slice (some ⟨b3, o3', none⟩) ss.length cap2) ∧ W.cell? ⟨b3, o3', none⟩ = some (.string t)) (go_keep) (first | (go_at_call 100; refine (esc7 a b c d t wr.drew (by omega) z0 z1 z2 z3 z5 hcw' hc3).mono ?_; rintro e w6 ⟨E, rfl, hEl, hEs, hb6, y0, y1, y2, y3, y4, y5, y6⟩; have u2 : ¬ 9223372036854775807 < y.size + E.size := by omega))
            have HEl : Hid (E.data.toList = escB a b c d t) := hEl
            clear hEl
            have HB6 : Hid (Below w2.heap.size w2 w6) := (HM.out.2.2.drew).trans (hb6.mono hwr)
            clear hb6
            rename_i hHeld
            clear hHeld
            go_wp2
            go_roundw
            case rel =>
              refine ⟨1, _, rfl, by go_num, by omega, ?_, HB6.out⟩
              rw [Go.Joins.data_append, HM.out.2.1, HEl.out]
              simp only [sU, HM.out.1, Option.getD_some, if_true, List.append_nil, List.append_assoc]
            case measure => simp [intOf]; omega
          · have hm0' : (0 : Int) < (m : Int) := by omega
            have u1 : ¬ 9223372036854775807 < y.size + (strOfNums [c % 256]).size := by omega
            have o2' : (strOfNums [c % 256]).size ≤ 1 := by omega
            clear o1 o2 o3
            have hbA : Below wr.heap.size wr (wr.alloc (.cells #[.int .u8 (c % 256)] 5)) := (Below.refl _ _).alloc (Nat.le_refl _) _
            obtain ⟨g0, g1, g2, g3, g4, g5⟩ := ((HT.out.below HM.out.2.2).below hbA).cells
            have g6 := (hbA.cell (p := ⟨b1, o1' + k, none⟩) (cell_lt hcw')).trans hcw'
            have g7 := (hbA.cell (p := ⟨b3, o3' + m, none⟩) (cell_lt hc3)).trans hc3
            clear hbA
            go_wp2_with fail
            go_region_held3 (fun W => W.cell? ⟨w.heap.size, 0, none⟩ = some (.int .i64 a) ∧ W.cell? ⟨w.heap.size, 1, none⟩ = some (.int .i64 b) ∧ W.cell? ⟨w.heap.size, 2, none⟩ = some (.int .i64 c) ∧ W.cell? ⟨w.heap.size, 3, none⟩ = some (.int .i64 d) ∧ W.cell? ⟨w.heap.size + 1, 1, none⟩ = some (.slice (some ⟨b1, o1', none⟩) es.length cap) ∧ W.cell? ⟨b1, o1' + k, none⟩ = some (.slice (some ⟨b3, o3', none⟩) ss.length cap2) ∧ W.cell? ⟨b3, o3' + m, none⟩ = some (.string t)) (go_keep) (first | (go_at_call 100; refine (esc7 a b c d t (wr.alloc (.cells #[.int .u8 (c % 256)] 5)).drew (by omega) g0 g1 g2 g3 g5 g6 g7).mono ?_; rintro e w6 ⟨E, rfl, hEl, hEs, hb6, y0, y1, y2, y3, y4, y5, y6⟩; have u2 : ¬ 9223372036854775807 < y.size + (strOfNums [c % 256]).size + E.size := by omega))
            have HEl : Hid (E.data.toList = escB a b c d t) := hEl
            clear hEl
            have HB6 : Hid (Below w2.heap.size w2 w6) := ((HM.out.2.2.alloc hwr _).drew).trans (hb6.mono (by show w2.heap.size ≤ (wr.alloc (.cells #[.int .u8 (c % 256)] 5)).heap.size; simp; omega))
            clear hb6
            rename_i hHeld
            clear hHeld
            go_wp2
            go_roundw
            case rel =>
              refine ⟨m + 1, _, rfl, by go_num, by omega, ?_, HB6.out⟩
              rw [Go.Joins.data_append, Go.Joins.data_append, strOne, HM.out.2.1, HEl.out]
              simp only [sU, HM.out.1, Option.getD_some]
              rw [if_neg (by omega)]
              simp only [List.append_assoc]
            case measure => simp [intOf]; omega
        · obtain rfl : m = ss.length := by omega
          have HM : Hid (y.data.toList = segU a b c d tag es (k + 1) ∧ Below w2.heap.size w2 wr) := by
            refine ⟨?_, hbm⟩
            rw [hy]
            obtain ⟨n, hn⟩ : ∃ n, ss.length = n + 1 := ⟨ss.length - 1, by omega⟩
            simp only [segU, HS.out.1, Option.getD_some]
            rw [hn, iU_sU]
          clear hy hbm
          go_wp2
          go_roundw
          case rel => exact ⟨k + 1, y, rfl, by go_num, by omega, HM.out.1, HM.out.2⟩
          case measure => simp [intOf]; omega
    · obtain rfl : k = es.length := by omega
      have z1 : ¬ 9223372036854775807 < x.size + (strOfNums [a % 256]).size := by omega
      have HB : Hid (x.data.toList = segU a b c d tag es es.length ∧ Below w2.heap.size w2 wo) := ⟨hx, hb⟩
      have hlt' : ¬ (es.length : Int) < (es.length : Int) := by omega
      clear hx hb hlt
      go_wp2
      go_ret
      refine ⟨ret_str ?_, HT.out.bel.trans ((HB.out.2.mono HT.out.bel.size).alloc (Nat.le_trans HT.out.bel.size hwo) _)⟩
      rw [textG_yes hr hg]
      apply ByteArray.ext
      apply Array.toList_inj.1
      rw [Go.Joins.data_append, strOne, HB.out.1]
      rfl
end Go.Proofs.YtkaolpnbddjdpaaGreatDoor
