/- Contract of the model's ThreeCount. -/
import Derived.Test.YtnaidbpkllmeoaaThB5
import Derived.Test.YtnaidbpkllmeoaaThS
import Derived.Test.YtnaidbpkllmeoaaLnB
import Derived.Deep.DeepMust
namespace Go.Proofs.Ytnaidbpkllmeoaa
open Go.ChangeShapes Go.WideShapes Go.ChangeAt Go.RowKit
theorem two_newT (w : World) (o1 o2 : Obj) : ((w.alloc o1).alloc o2).heap[w.heap.size]? = some o1 ∧ ((w.alloc o1).alloc o2).heap[w.heap.size + 1]? = some o2 := by
  constructor
  · exact (((Below.refl (w.alloc o1).heap.size _).alloc (Nat.le_refl _) o2).block _ (by simp)).trans (World.alloc_heap_new _ _)
  · have := World.alloc_heap_new (w.alloc o1) o2
    simpa using this
set_option maxHeartbeats 16000000 in
theorem threeCount_spec (v : Value) (rs : List OLn) (q : ByteArray) (w : World) (h : RowOl w v rs) (hq : q.size ≤ 1048576) :
    Calls Try.prog 13 #[v, .string q] w fun e w' => e = .returned (.agg #[.int .i64 (thcT rs q).nw, .int .i64 (thcT rs q).pt, .int .i64 (thcT rs q).wy, .int .i64 (thcT rs q).dn, .int .i64 (thcT rs q).gn]) ∧ Below w.heap.size w w' := by
  obtain ⟨t, ht⟩ : ∃ t, t = thcT rs q := ⟨_, rfl⟩
  rw [← ht]
  have HT : Hid (t = thcT rs q) := ht
  clear ht
  obtain ⟨A, C, rfl⟩ := h.val
  have hlen := h.len
  obtain ⟨W1, hW1⟩ : ∃ W1, (w.alloc (.cells #[.int .i64 0, .int .i64 0, .int .i64 0, .int .i64 0, .int .i64 0] 32)).alloc (.cells #[.int .i64 0, .int .i64 0, .int .i64 0, .int .i64 0, .int .i64 0] 32) = W1 := ⟨_, rfl⟩
  have hb1 : Below w.heap.size w W1 := by rw [← hW1]; exact ((Below.refl _ _).alloc (Nat.le_refl _) _).alloc (by simp) _
  obtain ⟨i1, i2⟩ := two_newT w (.cells #[.int .i64 0, .int .i64 0, .int .i64 0, .int .i64 0, .int .i64 0] 32) (.cells #[.int .i64 0, .int .i64 0, .int .i64 0, .int .i64 0, .int .i64 0] 32)
  rw [hW1] at i1 i2
  obtain ⟨R, hR⟩ : ∃ R, R = w.heap.size := ⟨_, rfl⟩
  obtain ⟨P, hP⟩ : ∃ P, P = w.heap.size + 1 := ⟨_, rfl⟩
  rw [← hR] at i1
  rw [← hP] at i2
  have HB : Hid (Below w.heap.size w W1 ∧ w.heap.size ≤ R ∧ R < P ∧ W1.heap[R]? = some (.cells #[.int .i64 0, .int .i64 0, .int .i64 0, .int .i64 0, .int .i64 0] 32) ∧ W1.heap[P]? = some (.cells #[.int .i64 0, .int .i64 0, .int .i64 0, .int .i64 0, .int .i64 0] 32)) := ⟨hb1, by omega, by omega, i1, i2⟩
  have HR : Hid (∀ W, Below P W1 W → RowOl W (.slice A rs.length C) rs ∧ W.heap[R]? = some (.cells #[.int .i64 0, .int .i64 0, .int .i64 0, .int .i64 0, .int .i64 0] 32) ∧ Below w.heap.size w W) := fun W hW => by
    have hb : Below w.heap.size w W := hb1.trans (hW.mono (by omega))
    exact ⟨h.below hb, (hW.block R HB.out.2.2.1).trans i1, hb⟩
  have HW1 : Hid ((w.alloc (.cells #[.int .i64 0, .int .i64 0, .int .i64 0, .int .i64 0, .int .i64 0] 32)).alloc (.cells #[.int .i64 0, .int .i64 0, .int .i64 0, .int .i64 0, .int .i64 0] 32) = W1 ∧ R = w.heap.size ∧ P = w.heap.size + 1) := ⟨hW1, hR, hP⟩
  clear h hb1 i1 i2 hW1 hR hP
  go_enter Try.func13, Try.ntmps13
  go_upto_region 2 with fail
  try rw [HW1.out.1]
  try rw [← HW1.out.2.2]
  try rw [← HW1.out.2.1]
  have HPs : Hid (P < W1.heap.size) := (Array.getElem?_eq_some_iff.1 HB.out.2.2.2.2).1
  clear HW1
  by_cases hl : 20000 < q.size
  · have hl' : (20000 : Int) < (q.size : Int) := by omega
    have HN : Hid (t = thr0) := by show t = _; rw [HT.out, thcT, if_neg (by omega)]
    have hfz := frozeT5 HB.out.2.2.2.1
    obtain ⟨r0, r1, r2, r3, r4⟩ := box5T HB.out.2.2.2.1
    obtain ⟨p0, p1, p2, p3, p4⟩ := box5T HB.out.2.2.2.2
    go_wp2
    obtain ⟨f0, f1, f2, f3, f4⟩ := box5T (set5T (y0 := .int .i64 0) (y1 := .int .i64 0) (y2 := .int .i64 0) (y3 := .int .i64 0) (y4 := .int .i64 0) HB.out.2.2.2.1)
    rw [HN.out]
    exact bodyPost_ret (v := .agg #[.int .i64 0, .int .i64 0, .int .i64 0, .int .i64 0, .int .i64 0]) (by simp [results, Try.results13, go_sem, f0, f1, f2, f3, f4]) rfl ⟨rfl, bel5T HB.out.1 HB.out.2.1⟩
  have hl' : ¬ (20000 : Int) < (q.size : Int) := by omega
  go_wp2_with fail
  refine (linesRight_spec _ rs _ (HR.out _ (Below.refl _ _)).1).mono ?_
  rintro e w2 ⟨rfl, hb2⟩
  have H2 : Hid (Below P W1 w2 ∧ w2.heap[P]? = some (.cells #[.int .i64 0, .int .i64 0, .int .i64 0, .int .i64 0, .int .i64 0] 32)) := ⟨hb2.mono (Nat.le_of_lt HPs.out), (hb2.block P HPs.out).trans HB.out.2.2.2.2⟩
  clear hb2
  cases hx : lnsB rs with
  | false =>
    have HN : Hid (t = thr0) := by show t = _; rw [HT.out, thcT, if_neg (by simp [hx])]
    have HX : Hid (w2.heap[R]? = some (.cells #[.int .i64 0, .int .i64 0, .int .i64 0, .int .i64 0, .int .i64 0] 32)) := (HR.out _ H2.out.1).2.1
    have hfz := frozeT5 HX.out
    obtain ⟨r0, r1, r2, r3, r4⟩ := box5T HX.out
    obtain ⟨p0, p1, p2, p3, p4⟩ := box5T H2.out.2
    clear hx
    go_wp2
    obtain ⟨f0, f1, f2, f3, f4⟩ := box5T (set5T (y0 := .int .i64 0) (y1 := .int .i64 0) (y2 := .int .i64 0) (y3 := .int .i64 0) (y4 := .int .i64 0) HX.out)
    rw [HN.out]
    exact bodyPost_ret (v := .agg #[.int .i64 0, .int .i64 0, .int .i64 0, .int .i64 0, .int .i64 0]) (by simp [results, Try.results13, go_sem, f0, f1, f2, f3, f4]) rfl ⟨rfl, bel5T (HR.out _ H2.out.1).2.2 HB.out.2.1⟩
  | true =>
    have HN : Hid (t = cntT q rs ∧ RightL rs) := by
      refine ⟨?_, lnsB_iff.1 hx⟩
      show t = _
      rw [HT.out, thcT, if_pos ⟨by omega, hx⟩]
    clear hx
    have hln := HN.out.2.len
    go_wp2_with fail
    go_loopw [6] (fun i wr => ∃ k : Nat, i = .int .i64 (k : Int) ∧ k ≤ rs.length ∧ Hid (Below P W1 wr ∧ wr.heap[P]? = some (.cells #[.int .i64 (cntT q (rs.take k)).nw, .int .i64 (cntT q (rs.take k)).pt, .int .i64 (cntT q (rs.take k)).wy, .int .i64 (cntT q (rs.take k)).dn, .int .i64 (cntT q (rs.take k)).gn] 32))) (fun i _ => rs.length - (intOf i).toNat)
    case atStart => exact ⟨0, rfl, by omega, H2.out.1, H2.out.2⟩
    case round =>
      obtain ⟨k, rfl, hk, HW⟩ := hrel
      by_cases hlt : k < rs.length
      · have hlt' : (k : Int) < (rs.length : Int) := by omega
        obtain ⟨b, o, cap', c, e, hs, hat, hsz⟩ := (HR.out _ HW.out.1).1.at hlt
        have HA : Hid (AtOl wr b (o + k * 8) c) := hat
        obtain ⟨q0, q1, q2, q3, q4, q5, q6, q7⟩ := hat
        simp only [Value.slice.injEq, true_and] at e
        obtain ⟨rfl, rfl⟩ := e
        obtain ⟨y, hy⟩ : ∃ y, y = cntT q (rs.take k) := ⟨_, rfl⟩
        have HY : Hid (cntT q (rs.take (k + 1)) = stp q y c ∧ ThLe y 1000000 ∧ LnOk c) := by
          refine ⟨?_, ?_, HN.out.2.ok c (List.mem_of_getElem? hs)⟩
          · rw [hy, List.take_add_one, hs]
            exact cntT_snoc _ _ _
          · rw [hy]
            exact (cntT_le q (rs.take k)).mono (by have : (rs.take k).length ≤ rs.length := by rw [List.length_take]; omega
                                                   omega)
        rw [← hy] at HW
        clear hy hs hsz
        cases hi : isB q c with
        | false =>
          have HS : Hid (cntT q (rs.take (k + 1)) = y) := by show _ = y; rw [HY.out.1, stp, hi]; rfl
          simp only [isB, Bool.or_eq_false_iff] at hi
          obtain ⟨e2, e3⟩ := hi
          go_wp2
          go_roundw
          case rel => exact ⟨k + 1, by go_num, by omega, HW.out.1, by rw [HS.out]; exact HW.out.2⟩
          case measure => simp [intOf]; omega
        | true =>
          have HS : Hid (cntT q (rs.take (k + 1)) = bmp y (stT c)) := by show _ = _; rw [HY.out.1, stp, hi]; rfl
          have hq2 : q.toList.isEmpty = true ∨ (q.toList.isEmpty = false ∧ (c.partner.toList == q.toList) = true) := by
            simp only [isB, Bool.or_eq_true] at hi
            cases e2 : q.toList.isEmpty with
            | true => exact .inl rfl
            | false => exact .inr ⟨rfl, hi.resolve_left (by simp [e2])⟩
          clear hi
          rcases hq2 with e2 | ⟨e2, e3⟩
          all_goals go_wp2_with fail
          all_goals refine (threeOf_spec c _).mono ?_
          all_goals rintro e w3 ⟨rfl, hb3⟩
          all_goals have H3 : Hid (Below P W1 w3 ∧ w3.heap[P]? = some (.cells #[.int .i64 y.nw, .int .i64 y.pt, .int .i64 y.wy, .int .i64 y.dn, .int .i64 y.gn] 32)) := ⟨HW.out.1.trans (hb3.mono (Nat.le_of_lt (Array.getElem?_eq_some_iff.1 HW.out.2).1)), (hb3.block P (Array.getElem?_eq_some_iff.1 HW.out.2).1).trans HW.out.2⟩
          all_goals obtain ⟨z, hz⟩ : ∃ z, z = stT c := ⟨_, rfl⟩
          all_goals have hzr : 1 ≤ z ∧ z ≤ 5 := by rw [hz, stT_yes HY.out.2.2]; exact stR_ran c
          all_goals rw [← hz] at HS ⊢
          all_goals clear hz hb3 e2 q0 q1 q2 q3 q4 q5 q6 q7
          all_goals have hfz := frozeT5 H3.out.2
          all_goals obtain ⟨p0, p1, p2, p3, p4⟩ := box5T H3.out.2
          all_goals obtain ⟨⟨l1, h1⟩, ⟨l2, h2⟩, ⟨l3, h3⟩, ⟨l4, h4⟩, ⟨l5, h5⟩⟩ := HY.out.2.1
          all_goals obtain rfl | rfl | rfl | rfl | rfl : z = 1 ∨ z = 2 ∨ z = 3 ∨ z = 4 ∨ z = 5 := by omega
          · have hw : IntKind.i64.wrap (y.nw + 1) = y.nw + 1 := by rw [IntKind.wrap_i64]; omega
            go_wp2
            go_roundw
            case rel => exact ⟨k + 1, by go_num, by omega, H3.out.1.setCell (Nat.le_refl _) _, by rw [HS.out]; simp [bmp, one5T0 H3.out.2]⟩
            case measure => simp [intOf]; omega
          · have hw : IntKind.i64.wrap (y.pt + 1) = y.pt + 1 := by rw [IntKind.wrap_i64]; omega
            go_wp2
            go_roundw
            case rel => exact ⟨k + 1, by go_num, by omega, H3.out.1.setCell (Nat.le_refl _) _, by rw [HS.out]; simp [bmp, one5T1 H3.out.2]⟩
            case measure => simp [intOf]; omega
          · have hw : IntKind.i64.wrap (y.wy + 1) = y.wy + 1 := by rw [IntKind.wrap_i64]; omega
            go_wp2
            go_roundw
            case rel => exact ⟨k + 1, by go_num, by omega, H3.out.1.setCell (Nat.le_refl _) _, by rw [HS.out]; simp [bmp, one5T2 H3.out.2]⟩
            case measure => simp [intOf]; omega
          · have hw : IntKind.i64.wrap (y.dn + 1) = y.dn + 1 := by rw [IntKind.wrap_i64]; omega
            go_wp2
            go_roundw
            case rel => exact ⟨k + 1, by go_num, by omega, H3.out.1.setCell (Nat.le_refl _) _, by rw [HS.out]; simp [bmp, one5T3 H3.out.2]⟩
            case measure => simp [intOf]; omega
          · have hw : IntKind.i64.wrap (y.gn + 1) = y.gn + 1 := by rw [IntKind.wrap_i64]; omega
            go_wp2
            go_roundw
            case rel => exact ⟨k + 1, by go_num, by omega, H3.out.1.setCell (Nat.le_refl _) _, by rw [HS.out]; simp [bmp, one5T4 H3.out.2]⟩
            case measure => simp [intOf]; omega
          · have hw : IntKind.i64.wrap (y.nw + 1) = y.nw + 1 := by rw [IntKind.wrap_i64]; omega
            go_wp2
            go_roundw
            case rel => exact ⟨k + 1, by go_num, by omega, H3.out.1.setCell (Nat.le_refl _) _, by rw [HS.out]; simp [bmp, one5T0 H3.out.2]⟩
            case measure => simp [intOf]; omega
          · have hw : IntKind.i64.wrap (y.pt + 1) = y.pt + 1 := by rw [IntKind.wrap_i64]; omega
            go_wp2
            go_roundw
            case rel => exact ⟨k + 1, by go_num, by omega, H3.out.1.setCell (Nat.le_refl _) _, by rw [HS.out]; simp [bmp, one5T1 H3.out.2]⟩
            case measure => simp [intOf]; omega
          · have hw : IntKind.i64.wrap (y.wy + 1) = y.wy + 1 := by rw [IntKind.wrap_i64]; omega
            go_wp2
            go_roundw
            case rel => exact ⟨k + 1, by go_num, by omega, H3.out.1.setCell (Nat.le_refl _) _, by rw [HS.out]; simp [bmp, one5T2 H3.out.2]⟩
            case measure => simp [intOf]; omega
          · have hw : IntKind.i64.wrap (y.dn + 1) = y.dn + 1 := by rw [IntKind.wrap_i64]; omega
            go_wp2
            go_roundw
            case rel => exact ⟨k + 1, by go_num, by omega, H3.out.1.setCell (Nat.le_refl _) _, by rw [HS.out]; simp [bmp, one5T3 H3.out.2]⟩
            case measure => simp [intOf]; omega
          · have hw : IntKind.i64.wrap (y.gn + 1) = y.gn + 1 := by rw [IntKind.wrap_i64]; omega
            go_wp2
            go_roundw
            case rel => exact ⟨k + 1, by go_num, by omega, H3.out.1.setCell (Nat.le_refl _) _, by rw [HS.out]; simp [bmp, one5T4 H3.out.2]⟩
            case measure => simp [intOf]; omega
      · obtain rfl : k = rs.length := by omega
        have HE : Hid (Below P W1 wr ∧ wr.heap[P]? = some (.cells #[.int .i64 t.nw, .int .i64 t.pt, .int .i64 t.wy, .int .i64 t.dn, .int .i64 t.gn] 32)) := by
          refine ⟨HW.out.1, ?_⟩
          have := HW.out.2
          rw [List.take_length] at this
          rw [HN.out.1]
          exact this
        clear HW
        have HX : Hid (wr.heap[R]? = some (.cells #[.int .i64 0, .int .i64 0, .int .i64 0, .int .i64 0, .int .i64 0] 32)) := (HR.out _ HE.out.1).2.1
        have hfz := frozeT5 HX.out
        obtain ⟨r0, r1, r2, r3, r4⟩ := box5T HX.out
        obtain ⟨p0, p1, p2, p3, p4⟩ := box5T HE.out.2
        go_wp2
        obtain ⟨f0, f1, f2, f3, f4⟩ := box5T (set5T (y0 := .int .i64 t.nw) (y1 := .int .i64 t.pt) (y2 := .int .i64 t.wy) (y3 := .int .i64 t.dn) (y4 := .int .i64 t.gn) HX.out)
        exact bodyPost_ret (v := .agg #[.int .i64 t.nw, .int .i64 t.pt, .int .i64 t.wy, .int .i64 t.dn, .int .i64 t.gn]) (by simp [results, Try.results13, go_sem, f0, f1, f2, f3, f4]) rfl ⟨rfl, bel5T (HR.out _ HE.out.1).2.2 HB.out.2.1⟩
end Go.Proofs.Ytnaidbpkllmeoaa
