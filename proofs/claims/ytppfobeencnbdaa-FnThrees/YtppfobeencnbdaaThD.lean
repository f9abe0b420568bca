/- Contract of the program's ThreeCount. -/
import Derived.Test.YtppfobeencnbdaaThC
import Derived.Deep.DeepMust
namespace Go.Proofs.Ytppfobeencnbdaa
open Go.ChangeShapes Go.WideShapes Go.ChangeAt Go.RowKit
theorem unallocT {a b : World} {o : Obj} (h : Below (a.alloc o).heap.size (a.alloc o) b) : Below a.heap.size a b := ((Below.refl _ _).alloc (Nat.le_refl _) _).trans (h.mono (by simp))
set_option maxHeartbeats 8000000 in
theorem threeCount_impl (v : Value) (rs : List OLn) (q : ByteArray) (w : World) (h : RowOl w v rs) (hq : q.size ≤ 1048576) :
    Calls Try.prog 8 #[v, .string q] w fun e w' => e = .returned (.agg #[.int .i64 (thcT rs q).nw, .int .i64 (thcT rs q).pt, .int .i64 (thcT rs q).wy, .int .i64 (thcT rs q).dn, .int .i64 (thcT rs q).gn]) ∧ Below w.heap.size w w' := by
  obtain ⟨t, ht⟩ : ∃ t, t = thcT rs q := ⟨_, rfl⟩
  rw [← ht]
  have HT : Hid (t = thcT rs q) := ht
  clear ht
  obtain ⟨A, C, rfl⟩ := h.val
  have hlen := h.len
  obtain ⟨W1, hW1⟩ : ∃ W1, w.alloc (.cells #[.int .i64 0, .int .i64 0, .int .i64 0, .int .i64 0, .int .i64 0] 28) = W1 := ⟨_, rfl⟩
  have hb1 : Below w.heap.size w W1 := by rw [← hW1]; exact (Below.refl _ _).alloc (Nat.le_refl _) _
  have i1 : W1.heap[w.heap.size]? = some (.cells #[.int .i64 0, .int .i64 0, .int .i64 0, .int .i64 0, .int .i64 0] 28) := by rw [← hW1]; exact World.alloc_heap_new _ _
  obtain ⟨R, hR⟩ : ∃ R, R = w.heap.size := ⟨_, rfl⟩
  rw [← hR] at i1
  have HB : Hid (Below w.heap.size w W1 ∧ w.heap.size ≤ R ∧ R < W1.heap.size ∧ W1.heap[R]? = some (.cells #[.int .i64 0, .int .i64 0, .int .i64 0, .int .i64 0, .int .i64 0] 28)) := ⟨hb1, by omega, (Array.getElem?_eq_some_iff.1 i1).1, i1⟩
  have HR : Hid (RowOl W1 (.slice A rs.length C) rs) := h.below hb1
  have HZ : Hid (∀ W, Below W1.heap.size W1 W → W.heap[R]? = some (.cells #[.int .i64 0, .int .i64 0, .int .i64 0, .int .i64 0, .int .i64 0] 28)) := fun W hW => (hW.block R HB.out.2.2.1).trans HB.out.2.2.2
  clear h hb1 i1
  go_enter Try.func8, Try.ntmps8
  go_upto_region 1 with fail
  try rw [hW1]
  try rw [← hR]
  clear hW1 hR
  by_cases hl : 20000 < q.size
  · have hl' : (20000 : Int) < (q.size : Int) := by omega
    have HN : Hid (t = thr0) := by show t = _; rw [HT.out, thcT, if_neg (by omega)]
    have hr := HZ.out W1 (Below.refl _ _)
    have HX : Hid (W1.heap[R]? = some (.cells #[.int .i64 0, .int .i64 0, .int .i64 0, .int .i64 0, .int .i64 0] 28)) := hr
    have hfz := frozeT5 hr
    obtain ⟨r0, r1, r2, r3, r4⟩ := box5T hr
    clear hr
    go_wp2
    obtain ⟨f0, f1, f2, f3, f4⟩ := box5T (set5T (y0 := .int .i64 0) (y1 := .int .i64 0) (y2 := .int .i64 0) (y3 := .int .i64 0) (y4 := .int .i64 0) HX.out)
    rw [HN.out]
    exact bodyPost_ret (v := .agg #[.int .i64 0, .int .i64 0, .int .i64 0, .int .i64 0, .int .i64 0]) (by simp [results, Try.results8, go_sem, f0, f1, f2, f3, f4]) rfl ⟨rfl, bel5T HB.out.1 HB.out.2.1⟩
  have hl' : ¬ (20000 : Int) < (q.size : Int) := by omega
  go_wp2_with fail
  refine (linesRight_impl _ rs _ HR.out).mono ?_
  rintro e w2 ⟨rfl, hb2⟩
  have H2 : Hid (Below W1.heap.size W1 w2) := hb2
  clear hb2
  cases hx : lnsB rs with
  | false =>
    have HN : Hid (t = thr0) := by show t = _; rw [HT.out, thcT, if_neg (by simp [hx])]
    have hr := HZ.out w2 H2.out
    have HX : Hid (w2.heap[R]? = some (.cells #[.int .i64 0, .int .i64 0, .int .i64 0, .int .i64 0, .int .i64 0] 28)) := hr
    have hfz := frozeT5 hr
    obtain ⟨r0, r1, r2, r3, r4⟩ := box5T hr
    clear hr hx
    go_wp2
    obtain ⟨f0, f1, f2, f3, f4⟩ := box5T (set5T (y0 := .int .i64 0) (y1 := .int .i64 0) (y2 := .int .i64 0) (y3 := .int .i64 0) (y4 := .int .i64 0) HX.out)
    rw [HN.out]
    exact bodyPost_ret (v := .agg #[.int .i64 0, .int .i64 0, .int .i64 0, .int .i64 0, .int .i64 0]) (by simp [results, Try.results8, go_sem, f0, f1, f2, f3, f4]) rfl ⟨rfl, bel5T (HB.out.1.trans (H2.out.mono HB.out.1.size)) HB.out.2.1⟩
  | true =>
    have HN : Hid (t = cntT q rs ∧ RightL rs) := by
      refine ⟨?_, lnsB_iff.1 hx⟩
      show t = _
      rw [HT.out, thcT, if_pos ⟨by omega, hx⟩]
    clear hx
    have hln := HN.out.2.len
    go_upto_region 4 with fail
    obtain ⟨W3, hW3⟩ : ∃ W3, w2.alloc (.cells #[.int .i64 0, .int .i64 0, .int .i64 0, .int .i64 0, .int .i64 0] 28) = W3 := ⟨_, rfl⟩
    have hb3 : Below W1.heap.size W1 W3 := by rw [← hW3]; exact H2.out.alloc H2.out.size _
    have i3 : W3.heap[w2.heap.size]? = some (.cells #[.int .i64 0, .int .i64 0, .int .i64 0, .int .i64 0, .int .i64 0] 28) := by rw [← hW3]; exact World.alloc_heap_new _ _
    obtain ⟨P, hP⟩ : ∃ P, P = w2.heap.size := ⟨_, rfl⟩
    rw [← hP] at i3
    have H3 : Hid (Below W1.heap.size W1 W3 ∧ W1.heap.size ≤ P ∧ W3.heap[P]? = some (.cells #[.int .i64 0, .int .i64 0, .int .i64 0, .int .i64 0, .int .i64 0] 28)) := ⟨hb3, by have := H2.out.size; omega, i3⟩
    try rw [hW3]
    try rw [← hP]
    clear hW3 hP hb3 i3
    go_wp2_with fail
    go_loopw [19] (fun i wr => ∃ k : Nat, i = .int .i64 (k : Int) ∧ k ≤ rs.length ∧ Hid (Below W1.heap.size W1 wr ∧ wr.heap[P]? = some (.cells #[.int .i64 (cntT q (rs.take k)).nw, .int .i64 (cntT q (rs.take k)).pt, .int .i64 (cntT q (rs.take k)).wy, .int .i64 (cntT q (rs.take k)).dn, .int .i64 (cntT q (rs.take k)).gn] 28))) (fun i _ => rs.length - (intOf i).toNat)
    case atStart => exact ⟨0, rfl, by omega, H3.out.1, H3.out.2.2⟩
    case round =>
      obtain ⟨k, rfl, hk, HW⟩ := hrel
      by_cases hlt : k < rs.length
      · have hlt' : (k : Int) < (rs.length : Int) := by omega
        obtain ⟨b, o, cap', c, e, hs, ⟨q0, q1, q2, q3, q4, q5, q6, q7⟩, hsz⟩ := (HR.out.below HW.out.1).at hlt
        simp only [Value.slice.injEq, true_and] at e
        obtain ⟨rfl, rfl⟩ := e
        obtain ⟨y, hy⟩ : ∃ y, y = cntT q (rs.take k) := ⟨_, rfl⟩
        have HY : Hid (cntT q (rs.take (k + 1)) = stp q y c ∧ ThLe y 1000000) := by
          refine ⟨?_, ?_⟩
          · rw [hy, List.take_add_one, hs]
            exact cntT_snoc _ _ _
          · rw [hy]
            exact (cntT_le q (rs.take k)).mono (by have : (rs.take k).length ≤ rs.length := by rw [List.length_take]; omega
                                                   omega)
        rw [← hy] at HW
        clear hy hs hsz
        obtain ⟨W4, hW4⟩ : ∃ W4, wr.alloc (.cells #[.string c.partner, .string c.ref, .int .i64 c.no, .string c.item, .int .i64 c.ordered, .int .i64 c.sent, .int .i64 c.got, .int .i64 c.cut] 31) = W4 := ⟨_, rfl⟩
        have hb4 : Below wr.heap.size wr W4 := by rw [← hW4]; exact (Below.refl _ _).alloc (Nat.le_refl _) _
        have i4 : W4.heap[wr.heap.size]? = some (.cells #[.string c.partner, .string c.ref, .int .i64 c.no, .string c.item, .int .i64 c.ordered, .int .i64 c.sent, .int .i64 c.got, .int .i64 c.cut] 31) := by rw [← hW4]; exact World.alloc_heap_new _ _
        obtain ⟨B, hB⟩ : ∃ B, B = wr.heap.size := ⟨_, rfl⟩
        rw [← hB] at i4
        have HP : Hid (∀ W, Below W4.heap.size W4 W → W.heap[P]? = some (.cells #[.int .i64 y.nw, .int .i64 y.pt, .int .i64 y.wy, .int .i64 y.dn, .int .i64 y.gn] 28) ∧ Below W1.heap.size W1 W ∧ W.cell? ⟨B, 0, none⟩ = some (.string c.partner) ∧ W.cell? ⟨B, 1, none⟩ = some (.string c.ref) ∧ W.cell? ⟨B, 2, none⟩ = some (.int .i64 c.no) ∧ W.cell? ⟨B, 3, none⟩ = some (.string c.item) ∧ W.cell? ⟨B, 4, none⟩ = some (.int .i64 c.ordered) ∧ W.cell? ⟨B, 5, none⟩ = some (.int .i64 c.sent) ∧ W.cell? ⟨B, 6, none⟩ = some (.int .i64 c.got) ∧ W.cell? ⟨B, 7, none⟩ = some (.int .i64 c.cut)) := fun W hW =>
          have hp := (Array.getElem?_eq_some_iff.1 HW.out.2).1
          ⟨(hW.block P (Nat.lt_of_lt_of_le hp hb4.size)).trans ((hb4.block P hp).trans HW.out.2), HW.out.1.trans ((hb4.mono HW.out.1.size).trans (hW.mono (Nat.le_trans HW.out.1.size hb4.size))), box8 ((hW.block B (Array.getElem?_eq_some_iff.1 i4).1).trans i4)⟩
        have HW4 : Hid (wr.alloc (.cells #[.string c.partner, .string c.ref, .int .i64 c.no, .string c.item, .int .i64 c.ordered, .int .i64 c.sent, .int .i64 c.got, .int .i64 c.cut] 31) = W4 ∧ B = wr.heap.size) := ⟨hW4, hB⟩
        clear hW4 hb4 i4 hB
        go_upto_region 7 with fail
        try rw [HW4.out.1]
        try rw [← HW4.out.2]
        clear HW4 q0 q1 q2 q3 q4 q5 q6 q7
        obtain ⟨_, _, c0, c1, c2, c3, c4, c5, c6, c7⟩ := HP.out W4 (Below.refl _ _)
        go_wp2_with fail
        refine (isOf_any c q _).mono ?_
        rintro e w5 ⟨rfl, hb5⟩
        have H5 : Hid (Below W4.heap.size W4 w5) := hb5
        clear hb5 c0 c1 c2 c3 c4 c5 c6 c7
        cases hy : isB q c with
        | false =>
          have HS : Hid (cntT q (rs.take (k + 1)) = y) := by show _ = y; rw [HY.out.1, stp, hy]; rfl
          clear hy
          go_wp2
          go_roundw
          case rel => exact ⟨k + 1, by go_num, by omega, (HP.out w5 H5.out).2.1, by rw [HS.out]; exact (HP.out w5 H5.out).1⟩
          case measure => simp [intOf]; omega
        | true =>
          have HS : Hid (cntT q (rs.take (k + 1)) = bmp y (stT c)) := by show _ = _; rw [HY.out.1, stp, hy]; rfl
          clear hy
          obtain ⟨_, _, c0, c1, c2, c3, c4, c5, c6, c7⟩ := HP.out w5 H5.out
          go_wp2_with fail
          refine (standOf_any c _).mono ?_
          rintro e w6 ⟨⟨f, rfl⟩, hb6⟩
          have H6 : Hid (Below W4.heap.size W4 w6) := H5.out.trans (hb6.mono H5.out.size)
          clear hb6 c0 c1 c2 c3 c4 c5 c6 c7
          have fx := fldTh1 f (stT c) (wdT (stT c))
          go_wp2_with fail
          refine (add_any P y HY.out.2 (stT c) _ (HP.out w6 H6.out).1).mono ?_
          rintro e w7 ⟨rfl, hp7, hb7⟩
          have H7 : Hid (Below W1.heap.size W1 w7 ∧ w7.heap[P]? = some (.cells #[.int .i64 (bmp y (stT c)).nw, .int .i64 (bmp y (stT c)).pt, .int .i64 (bmp y (stT c)).wy, .int .i64 (bmp y (stT c)).dn, .int .i64 (bmp y (stT c)).gn] 28)) := ⟨hb7 _ _ (HP.out w6 H6.out).2.1 H3.out.2.1, hp7⟩
          clear hp7 hb7 fx
          go_wp2
          go_roundw
          case rel => exact ⟨k + 1, by go_num, by omega, H7.out.1, by rw [HS.out]; exact H7.out.2⟩
          case measure => simp [intOf]; omega
      · obtain rfl : k = rs.length := by omega
        have HE : Hid (Below W1.heap.size W1 wr ∧ wr.heap[P]? = some (.cells #[.int .i64 t.nw, .int .i64 t.pt, .int .i64 t.wy, .int .i64 t.dn, .int .i64 t.gn] 28)) := by
          refine ⟨HW.out.1, ?_⟩
          have := HW.out.2
          rw [List.take_length] at this
          rw [HN.out.1]
          exact this
        clear HW
        have hr := HZ.out wr HE.out.1
        have HX : Hid (wr.heap[R]? = some (.cells #[.int .i64 0, .int .i64 0, .int .i64 0, .int .i64 0, .int .i64 0] 28)) := hr
        have hfz := frozeT5 hr
        obtain ⟨r0, r1, r2, r3, r4⟩ := box5T hr
        obtain ⟨p0, p1, p2, p3, p4⟩ := box5T HE.out.2
        clear hr
        go_wp2
        obtain ⟨f0, f1, f2, f3, f4⟩ := box5T (set5T (y0 := .int .i64 t.nw) (y1 := .int .i64 t.pt) (y2 := .int .i64 t.wy) (y3 := .int .i64 t.dn) (y4 := .int .i64 t.gn) HX.out)
        exact bodyPost_ret (v := .agg #[.int .i64 t.nw, .int .i64 t.pt, .int .i64 t.wy, .int .i64 t.dn, .int .i64 t.gn]) (by simp [results, Try.results8, go_sem, f0, f1, f2, f3, f4]) rfl ⟨rfl, bel5T (HB.out.1.trans (HE.out.1.mono HB.out.1.size)) HB.out.2.1⟩
end Go.Proofs.Ytppfobeencnbdaa
