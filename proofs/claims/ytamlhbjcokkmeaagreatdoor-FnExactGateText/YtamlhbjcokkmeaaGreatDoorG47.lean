/- Texts of ours put together: BhS, LnS. -/
import Derived.Test.YtamlhbjcokkmeaaGreatDoorG34
import Derived.Test.YtamlhbjcokkmeaaGreatDoorG44
import Derived.Test.YtamlhbjcokkmeaaGreatDoorG42
import Derived.Shelf.SlSortCmp.QuietGrown
namespace Go.Proofs.YtamlhbjcokkmeaaGreatDoor
open Go.ChangeShapes Go.WideShapes Go.ChangeAt Go.RowKit
open Go.Sort
/-- The first place of that name, or -1. -/
def idxT (t : ByteArray) (rs : List Stk) : Int := match rs.findIdx? (nmS t) with | some i => (i : Int) | none => -1
theorem idxT_no {t : ByteArray} {rs : List Stk} (h : ∀ (i : Nat) (s : Stk), rs[i]? = some s → nmS t s = false) : idxT t rs = -1 := by
  have : rs.findIdx? (nmS t) = none := by
    rw [List.findIdx?_eq_none_iff]
    intro x hx
    obtain ⟨i, hi⟩ := List.getElem?_of_mem hx
    exact h i x hi
  simp [idxT, this]
theorem idxT_yes {t : ByteArray} {rs : List Stk} {k : Nat} {s : Stk} (hs : rs[k]? = some s) (hn : nmS t s = true) (h : ∀ (i : Nat) (s : Stk), i < k → rs[i]? = some s → nmS t s = false) : idxT t rs = (k : Int) := by
  have : rs.findIdx? (nmS t) = some k := by
    obtain ⟨hk, e⟩ := List.getElem?_eq_some_iff.1 hs
    rw [List.findIdx?_eq_some_iff_getElem]
    refine ⟨hk, by rw [e]; exact hn, fun j hj => ?_⟩
    have := h j _ hj (List.getElem?_eq_getElem (by omega))
    simp [this]
  simp [idxT, this]
theorem idxT_find {t : ByteArray} {rs : List Stk} : (idxT t rs = -1 ∧ findS t rs = none) ∨ ∃ (k : Nat) (s : Stk), idxT t rs = (k : Int) ∧ rs[k]? = some s ∧ findS t rs = some s := by
  cases hf : findS t rs with
  | none =>
    refine .inl ⟨idxT_no fun i s hi => ?_, rfl⟩
    have := List.find?_eq_none.1 hf s (List.mem_of_getElem? hi)
    simpa [nmS] using this
  | some s =>
    refine .inr ?_
    obtain ⟨h1, xs, ys, rfl, h3⟩ := List.find?_eq_some_iff_append.1 hf
    refine ⟨xs.length, s, idxT_yes (s := s) (by simp) h1 fun i x hi hx => ?_, by simp, rfl⟩
    rw [List.getElem?_append_left hi] at hx
    have := h3 x (List.mem_of_getElem? hx)
    simpa [nmS] using this
set_option maxHeartbeats 4000000 in
theorem l10Stock_grows (p : Bk) (us ul : Value) (t : ByteArray) (w : World) (h : RBk w us ul p) : Calls Tryz.prog 97 #[.agg #[us, ul], .string t] w fun e w' => e = .returned (.int .i64 (idxT t p.stocks)) ∧ Grw w w' := by
  have hlen := h.st.len
  obtain ⟨a, c, a', c', rfl, rfl⟩ := h.val
  obtain ⟨W0, hW0⟩ : ∃ W0, w.alloc (.cells #[.slice a p.stocks.length c, .slice a' p.lines.length c'] 39) = W0 := ⟨_, rfl⟩
  have hb0 : Below w.heap.size w W0 := by rw [← hW0]; exact (Below.refl _ _).alloc (Nat.le_refl _) _
  have hbx : W0.heap[w.heap.size]? = some (.cells #[.slice a p.stocks.length c, .slice a' p.lines.length c'] 39) := by rw [← hW0]; exact World.alloc_heap_new _ _
  have HG : Hid (Grw w W0) := by rw [← hW0]; exact .one w _
  have H0 : Hid (Below w.heap.size w W0 ∧ RBk W0 (.slice a p.stocks.length c) (.slice a' p.lines.length c') p ∧ W0.heap[w.heap.size]? = some (.cells #[.slice a p.stocks.length c, .slice a' p.lines.length c'] 39)) := ⟨hb0, h.below hb0, hbx⟩
  obtain ⟨c0, c1⟩ := box2 hbx
  have hlt0 := (Array.getElem?_eq_some_iff.1 hbx).1
  clear h hb0 hbx
  go_enter Tryz.func97, Tryz.ntmps97
  go_upto_region 1 with fail
  try rw [hW0]
  clear hW0
  obtain ⟨rs, hrs⟩ : ∃ rs, rs = p.stocks := ⟨_, rfl⟩
  rw [← hrs] at hlen c0
  have HR : Hid (rs = p.stocks) := hrs
  have HRow : Hid (RowSt W0 (.slice a rs.length c) rs) := by rw [hrs]; exact H0.out.2.1.st
  clear hrs c1
  go_wp2_with fail
  go_loopw [5] (fun i wr => wr = W0 ∧ ∃ k : Nat, i = .int .i64 (k : Int) ∧ k ≤ rs.length ∧ ∀ (i : Nat) (s : Stk), i < k → rs[i]? = some s → nmS t s = false) (fun i _ => rs.length - (intOf i).toNat)
  case atStart => exact ⟨rfl, 0, rfl, by omega, fun i s hi => by omega⟩
  case round =>
    obtain ⟨rfl, k, rfl, hk, hno⟩ := hrel
    have HI : Hid (∀ (i : Nat) (s : Stk), i < k → rs[i]? = some s → nmS t s = false) := hno
    clear hno
    by_cases hlt : k < rs.length
    · have hlt' : (k : Int) < (rs.length : Int) := by omega
      obtain ⟨b, o, cap', s, e, hs, ⟨q0, q1⟩, hz⟩ := HRow.out.at hlt
      simp only [Value.slice.injEq, true_and] at e
      obtain ⟨rfl, rfl⟩ := e
      have HS : Hid (rs[k]? = some s) := hs
      clear hs hz q1
      cases hn : (s.item.toList == t.toList) with
      | true =>
        have HN : Hid (idxT t p.stocks = (k : Int)) := by rw [← HR.out]; exact idxT_yes HS.out hn HI.out
        go_wp2
        go_ret
        exact ⟨by rw [HN.out]; rfl, HG.out⟩
      | false =>
        go_wp2
        go_roundw
        case rel =>
          refine ⟨by first | trivial | rfl, k + 1, by go_num, by omega, fun i y hi hy => ?_⟩
          rcases Nat.lt_or_ge i k with g | g
          · exact HI.out i y g hy
          · obtain rfl : i = k := by omega
            rw [HS.out] at hy
            cases hy
            exact hn
        case measure => simp [intOf]; omega
    · obtain rfl : k = rs.length := by omega
      have HN : Hid (idxT t p.stocks = -1) := by rw [← HR.out]; exact idxT_no fun i s hi => HI.out i s (List.getElem?_eq_some_iff.1 hi).1 hi
      go_wp2
      go_ret
      exact ⟨by rw [HN.out]; rfl, HG.out⟩
theorem handT_long {p : Bk} {t : ByteArray} (h : 20000 < t.size) : handT p t = 0 := by
  unfold handT
  split
  · rename_i hb
    have hR := (bkB_iff.1 hb).1
    have : findS t p.stocks = none := by
      refine List.find?_eq_none.2 fun x hx => ?_
      have h1 := hR.small x hx
      intro e
      rw [beq_iff_eq] at e
      have := ba_list e
      rw [this] at h1
      omega
    rw [this]
    rfl
  · rfl
set_option maxHeartbeats 8000000 in
theorem bookHand_spec (p : Bk) (us ul : Value) (t : ByteArray) (w : World) (h : RBk w us ul p) (ht : t.size ≤ 1048576) : Calls Tryz.prog 51 #[.agg #[us, ul], .string t] w fun e w' => e = .returned (.int .i64 (handT p t)) ∧ Below w.heap.size w w' := by
  obtain ⟨a, c, a', c', rfl, rfl⟩ := h.val
  obtain ⟨W0, hW0⟩ : ∃ W0, w.alloc (.cells #[.slice a p.stocks.length c, .slice a' p.lines.length c'] 39) = W0 := ⟨_, rfl⟩
  have hb0 : Below w.heap.size w W0 := by rw [← hW0]; exact (Below.refl _ _).alloc (Nat.le_refl _) _
  have hbx : W0.heap[w.heap.size]? = some (.cells #[.slice a p.stocks.length c, .slice a' p.lines.length c'] 39) := by rw [← hW0]; exact World.alloc_heap_new _ _
  have H0 : Hid (Below w.heap.size w W0 ∧ RBk W0 (.slice a p.stocks.length c) (.slice a' p.lines.length c') p ∧ W0.heap[w.heap.size]? = some (.cells #[.slice a p.stocks.length c, .slice a' p.lines.length c'] 39)) := ⟨hb0, h.below hb0, hbx⟩
  obtain ⟨c0, c1⟩ := box2 hbx
  have hlt0 := (Array.getElem?_eq_some_iff.1 hbx).1
  clear h hb0 hbx
  go_enter Tryz.func51, Tryz.ntmps51
  go_upto_region 1 with fail
  try rw [hW0]
  clear hW0
  by_cases hl : 20000 < t.size
  · have hl' : (20000 : Int) < (t.size : Int) := by omega
    have HN : Hid (handT p t = 0) := handT_long hl
    go_wp2
    go_ret
    exact ⟨by rw [HN.out]; rfl, H0.out.1⟩
  have hl' : ¬ (20000 : Int) < (t.size : Int) := by omega
  obtain ⟨x, hx⟩ : ∃ x, x = bkB p := ⟨_, rfl⟩
  have HX : Hid (x = bkB p) := hx
  have Q1 := fun W h => bookRight_spec p (.slice a p.stocks.length c) (.slice a' p.lines.length c') W h
  rw [← hx] at Q1
  clear hx
  go_wp2_with fail
  refine (Q1 _ H0.out.2.1).mono ?_
  rintro e w1 ⟨rfl, hb1⟩
  have H1 : Hid (Below w.heap.size w w1 ∧ RBk w1 (.slice a p.stocks.length c) (.slice a' p.lines.length c') p ∧ w1.heap[w.heap.size]? = some (.cells #[.slice a p.stocks.length c, .slice a' p.lines.length c'] 39)) := ⟨H0.out.1.trans (hb1.mono H0.out.1.size), H0.out.2.1.below hb1, (hb1.block _ hlt0).trans H0.out.2.2⟩
  obtain ⟨d0, d1⟩ := box2 H1.out.2.2
  clear hb1 c0 c1 Q1
  cases x with
  | false =>
    have HN : Hid (handT p t = 0) := by unfold handT; rw [← HX.out]; simp [Hid]
    go_wp2
    go_ret
    exact ⟨by rw [HN.out]; rfl, H1.out.1⟩
  | true =>
    have hR := (bkB_iff.1 HX.out.symm).1
    have hln := hR.len
    have HN : Hid (handT p t = ((findS t p.stocks).map Stk.hand).getD 0) := by unfold handT; rw [← HX.out]; simp [Hid]
    clear hR
    have Q2 := fun W h => l10Stock_grows p (.slice a p.stocks.length c) (.slice a' p.lines.length c') t W h
    rcases idxT_find (t := t) (rs := p.stocks) with ⟨e1, e2⟩ | ⟨k, s, e1, e2, e3⟩
    · rw [e1] at Q2
      have HM : Hid (handT p t = 0) := by rw [HN.out, e2]; rfl
      clear e1 e2 HN
      go_wp2_with fail
      refine (Q2 _ H1.out.2.1).mono ?_
      rintro e w2 ⟨rfl, hg2⟩
      have H2 : Hid (Below w.heap.size w w2) := H1.out.1.trans (hg2.below.mono H1.out.1.size)
      clear hg2 Q2
      go_wp2
      go_ret
      exact ⟨by rw [HM.out]; rfl, H2.out⟩
    · rw [e1] at Q2
      have hk := (List.getElem?_eq_some_iff.1 e2).1
      have hk' : (k : Int) < (p.stocks.length : Int) := by omega
      have hk0 : ¬ (k : Int) < 0 := by omega
      have HM : Hid (handT p t = s.hand) := by rw [HN.out, e3]; rfl
      have HK : Hid (p.stocks[k]? = some s) := e2
      clear e1 e2 e3 HN
      go_wp2_with fail
      refine (Q2 _ H1.out.2.1).mono ?_
      rintro e w2 ⟨rfl, hg2⟩
      have hb2 := hg2.below
      have H2 : Hid (Below w.heap.size w w2 ∧ RBk w2 (.slice a p.stocks.length c) (.slice a' p.lines.length c') p) := ⟨H1.out.1.trans (hb2.mono H1.out.1.size), H1.out.2.1.below hb2⟩
      obtain ⟨b, o, cap', s', e, hs, ⟨q0, q1⟩, hz⟩ := H2.out.2.st.at hk
      simp only [Value.slice.injEq, true_and] at e
      obtain ⟨rfl, rfl⟩ := e
      obtain rfl : s = s' := by have := HK.out; rw [hs] at this; exact (Option.some.inj this).symm
      have hlt1 := (Array.getElem?_eq_some_iff.1 H1.out.2.2).1
      have hx2 := (hb2.block _ hlt1).trans H1.out.2.2
      have hlt2 := (Array.getElem?_eq_some_iff.1 hx2).1
      obtain ⟨f0, f1⟩ := box2 hx2
      have g0 := cell_grown (a := ⟨w.heap.size, 0, none⟩) hlt2 f0
      have g1 := cell_grown (a := ⟨w.heap.size, 1, none⟩) hlt2 f1
      have g2 := cell_grown (cell_lt q1) q1
      clear hg2 hb2 hs hz hx2 q0 q1 d0 d1
      go_upto_region 3 with fail
      clear f0 f1
      have Q3 : ∀ n os, Calls Tryz.prog 97 #[.agg #[.slice (some ⟨b, o, none⟩) p.stocks.length c, .slice a' p.lines.length c'], .string t] (grow (w2.drewN n) os) fun e w' => e = .returned (.int .i64 (k : Int)) ∧ Grw (grow (w2.drewN n) os) w' := fun n os => Q2 _ (H2.out.2.below (Grw.below ⟨n, os, rfl⟩))
      clear Q2
      have mixed : Tryz.prog.follows .mixedOrders = true := by kernel_rfl
      refine wp_region_quiet_grown mixed (by kernel_rfl) ?_
      repeat (go_big_quiet_step (first | (go_at_call 97; refine Calls.grown_of (Q3 _ _))))
      refine wpQuiet_nil ?_
      intro _ hw'
      obtain ⟨⟨nq, osq⟩, hw''⟩ := hw'
      subst hw''
      have H3 : Hid (Below w.heap.size w (grow (w2.drewN nq) osq)) := H2.out.1.trans ((Grw.below ⟨nq, osq, rfl⟩).mono H2.out.1.size)
      go_wp2
      go_ret
      exact ⟨by rw [HM.out]; rfl, H3.out⟩
end Go.Proofs.YtamlhbjcokkmeaaGreatDoor
namespace Go.Proofs.YtamlhbjcokkmeaaGreatDoor
open Go.ChangeShapes Go.WideShapes Go.ChangeAt Go.RowKit
open Go.Sort
set_option maxHeartbeats 2000000 in
theorem lineOpen_spec (l : OLn) (w : World) : Calls Tryz.prog 54 #[.agg #[.string l.partner, .string l.ref, .int .i64 l.no, .string l.item, .int .i64 l.ordered, .int .i64 l.sent, .int .i64 l.got, .int .i64 l.cut]] w fun e w' => e = .returned (.int .i64 (opnT l)) ∧ Below w.heap.size w w' := by
  obtain ⟨z, hz⟩ : ∃ z, z = opnT l := ⟨_, rfl⟩
  obtain ⟨b, hb⟩ : ∃ b, b = lnB l := ⟨_, rfl⟩
  have Q1 := lineRight_spec l
  rw [← hb] at Q1
  rw [← hz]
  obtain ⟨W0, hW0⟩ : ∃ W0, w.alloc (.cells #[.string l.partner, .string l.ref, .int .i64 l.no, .string l.item, .int .i64 l.ordered, .int .i64 l.sent, .int .i64 l.got, .int .i64 l.cut] 107) = W0 := ⟨_, rfl⟩
  have hb0 : Below w.heap.size w W0 := by rw [← hW0]; exact (Below.refl _ _).alloc (Nat.le_refl _) _
  have hbx : W0.heap[w.heap.size]? = some (.cells #[.string l.partner, .string l.ref, .int .i64 l.no, .string l.item, .int .i64 l.ordered, .int .i64 l.sent, .int .i64 l.got, .int .i64 l.cut] 107) := by rw [← hW0]; exact World.alloc_heap_new _ _
  go_enter Tryz.func54, Tryz.ntmps54
  go_upto_region 1 with fail
  try rw [hW0]
  clear hW0
  have HC : Hid (∀ W, Below W0.heap.size W0 W → W.cell? ⟨w.heap.size, 0, none⟩ = some (.string l.partner) ∧ W.cell? ⟨w.heap.size, 1, none⟩ = some (.string l.ref) ∧ W.cell? ⟨w.heap.size, 2, none⟩ = some (.int .i64 l.no) ∧ W.cell? ⟨w.heap.size, 3, none⟩ = some (.string l.item) ∧ W.cell? ⟨w.heap.size, 4, none⟩ = some (.int .i64 l.ordered) ∧ W.cell? ⟨w.heap.size, 5, none⟩ = some (.int .i64 l.sent) ∧ W.cell? ⟨w.heap.size, 6, none⟩ = some (.int .i64 l.got) ∧ W.cell? ⟨w.heap.size, 7, none⟩ = some (.int .i64 l.cut)) := fun W hW => box8 ((hW.block _ (Array.getElem?_eq_some_iff.1 hbx).1).trans hbx)
  have HB : Hid (Below w.heap.size w W0) := hb0
  clear hbx hb0
  obtain ⟨c0, c1, c2, c3, c4, c5, c6, c7⟩ := HC.out W0 (Below.refl _ _)
  go_wp2_with fail
  refine (Q1 _).mono ?_
  rintro e w1 ⟨rfl, hb1⟩
  obtain ⟨d0, d1, d2, d3, d4, d5, d6, d7⟩ := HC.out w1 hb1
  have H1 : Hid (Below w.heap.size w w1) := HB.out.trans (hb1.mono HB.out.size)
  clear hb1 c0 c1 c2 c3 c4 c5 c6 c7
  cases b
  · have HZ : Hid (z = 0) := by show z = 0; rw [hz, opnT_no (lnB_iff'.1 hb.symm)]
    clear hz hb
    go_wp2
    go_ret
    exact ⟨by rw [HZ.out]; rfl, H1.out⟩
  · have hok := lnB_iff.1 hb.symm
    have HZ : Hid (z = l.ordered - l.sent - l.cut) := by show z = _; rw [hz, opnT_yes hok]
    have k0 := hok.o1
    have k1 := hok.o2
    have k2 := hok.s0
    have k3 := hok.g0
    have k4 := hok.c0
    have k5 := hok.gs
    have k6 := hok.so
    have k7 := hok.co
    clear hz hb hok
    go_wp2
    go_ret
    exact ⟨by rw [HZ.out]; rfl, H1.out⟩
set_option maxHeartbeats 2000000 in
theorem lineTransit_spec (l : OLn) (w : World) : Calls Tryz.prog 55 #[.agg #[.string l.partner, .string l.ref, .int .i64 l.no, .string l.item, .int .i64 l.ordered, .int .i64 l.sent, .int .i64 l.got, .int .i64 l.cut]] w fun e w' => e = .returned (.int .i64 (trnT l)) ∧ Below w.heap.size w w' := by
  obtain ⟨z, hz⟩ : ∃ z, z = trnT l := ⟨_, rfl⟩
  obtain ⟨b, hb⟩ : ∃ b, b = lnB l := ⟨_, rfl⟩
  have Q1 := lineRight_spec l
  rw [← hb] at Q1
  rw [← hz]
  obtain ⟨W0, hW0⟩ : ∃ W0, w.alloc (.cells #[.string l.partner, .string l.ref, .int .i64 l.no, .string l.item, .int .i64 l.ordered, .int .i64 l.sent, .int .i64 l.got, .int .i64 l.cut] 107) = W0 := ⟨_, rfl⟩
  have hb0 : Below w.heap.size w W0 := by rw [← hW0]; exact (Below.refl _ _).alloc (Nat.le_refl _) _
  have hbx : W0.heap[w.heap.size]? = some (.cells #[.string l.partner, .string l.ref, .int .i64 l.no, .string l.item, .int .i64 l.ordered, .int .i64 l.sent, .int .i64 l.got, .int .i64 l.cut] 107) := by rw [← hW0]; exact World.alloc_heap_new _ _
  go_enter Tryz.func55, Tryz.ntmps55
  go_upto_region 1 with fail
  try rw [hW0]
  clear hW0
  have HC : Hid (∀ W, Below W0.heap.size W0 W → W.cell? ⟨w.heap.size, 0, none⟩ = some (.string l.partner) ∧ W.cell? ⟨w.heap.size, 1, none⟩ = some (.string l.ref) ∧ W.cell? ⟨w.heap.size, 2, none⟩ = some (.int .i64 l.no) ∧ W.cell? ⟨w.heap.size, 3, none⟩ = some (.string l.item) ∧ W.cell? ⟨w.heap.size, 4, none⟩ = some (.int .i64 l.ordered) ∧ W.cell? ⟨w.heap.size, 5, none⟩ = some (.int .i64 l.sent) ∧ W.cell? ⟨w.heap.size, 6, none⟩ = some (.int .i64 l.got) ∧ W.cell? ⟨w.heap.size, 7, none⟩ = some (.int .i64 l.cut)) := fun W hW => box8 ((hW.block _ (Array.getElem?_eq_some_iff.1 hbx).1).trans hbx)
  have HB : Hid (Below w.heap.size w W0) := hb0
  clear hbx hb0
  obtain ⟨c0, c1, c2, c3, c4, c5, c6, c7⟩ := HC.out W0 (Below.refl _ _)
  go_wp2_with fail
  refine (Q1 _).mono ?_
  rintro e w1 ⟨rfl, hb1⟩
  obtain ⟨d0, d1, d2, d3, d4, d5, d6, d7⟩ := HC.out w1 hb1
  have H1 : Hid (Below w.heap.size w w1) := HB.out.trans (hb1.mono HB.out.size)
  clear hb1 c0 c1 c2 c3 c4 c5 c6 c7
  cases b
  · have HZ : Hid (z = 0) := by show z = 0; rw [hz, trnT_no (lnB_iff'.1 hb.symm)]
    clear hz hb
    go_wp2
    go_ret
    exact ⟨by rw [HZ.out]; rfl, H1.out⟩
  · have hok := lnB_iff.1 hb.symm
    have HZ : Hid (z = l.sent - l.got) := by show z = _; rw [hz, trnT_yes hok]
    have k0 := hok.o1
    have k1 := hok.o2
    have k2 := hok.s0
    have k3 := hok.g0
    have k4 := hok.c0
    have k5 := hok.gs
    have k6 := hok.so
    have k7 := hok.co
    clear hz hb hok
    go_wp2
    go_ret
    exact ⟨by rw [HZ.out]; rfl, H1.out⟩
end Go.Proofs.YtamlhbjcokkmeaaGreatDoor
