/- Texts of ours put together: GtI, RpK. -/
import Derived.Test.YtamlhbjcokkmeaaGreatDoorG16
import Derived.Test.YtamlhbjcokkmeaaGreatDoorG27
import Derived.Test.YtamlhbjcokkmeaaGreatDoorG29
import Derived.Test.YtamlhbjcokkmeaaGreatDoorG31
import Derived.Test.YtamlhbjcokkmeaaGreatDoorG32
import Derived.Laws.Cover1
import Derived.Deep.AppendLies
import Derived.Deep.RegionLaw
import Derived.Deep.Cut
import Derived.Deep.CutRange
namespace Go.Proofs.YtamlhbjcokkmeaaGreatDoor
open Go.ChangeShapes Go.WideShapes Go.ChangeAt Go.RowKit
theorem bx4P {W : World} {b t : Nat} {x0 x1 x2 x3 : Value} (h : W.heap[b]? = some (.cells #[x0, x1, x2, x3] t)) : W.cell? ⟨b, 0, none⟩ = some x0 ∧ W.cell? ⟨b, 1, none⟩ = some x1 ∧ W.cell? ⟨b, 2, none⟩ = some x2 ∧ W.cell? ⟨b, 3, none⟩ = some x3 := by
  refine ⟨?_, ?_, ?_, ?_⟩ <;> simp [World.cell?, h]
set_option maxHeartbeats 4000000 in
theorem partnersRight_any (v : Value) (ps : List Ptn) (w : World) (h : RowPt w v ps) : Calls Tryz.prog 65 #[v] w fun e w' => e = .returned (.bool (ptsB ps)) ∧ Below w.heap.size w w' := by
  have hlen := h.len
  obtain ⟨A, Cp, rfl⟩ := h.val
  have H0 : Hid (RowPt w (.slice A ps.length Cp) ps) := h
  clear h
  go_enter Tryz.func65, Tryz.ntmps65
  by_cases hl : 20 < ps.length
  · have hl' : (20 : Int) < (ps.length : Int) := by omega
    have HN : Hid (ptsB ps = false) := ptsB_no fun h => by have := h.len; omega
    go_wp2
    go_ret
    exact ⟨by rw [HN.out]; rfl, Below.refl _ _⟩
  have hl' : ¬ (20 : Int) < (ps.length : Int) := by omega
  go_wp2_with fail
  go_loopw [3, 11] (fun l i wr => ∃ (k : Nat) (s : ByteArray), l = .string s ∧ i = .int .i64 (k : Int) ∧ k ≤ ps.length ∧ Below w.heap.size w wr ∧ (k = 0 → s = ⟨#[]⟩) ∧ (∀ d, 0 < k → ps[k - 1]? = some d → d.name = s) ∧ ∀ i c, i < k → ps[i]? = some c → OkP ps i c) (fun _ i _ => ps.length - (intOf i).toNat)
  case atStart => exact ⟨0, ⟨#[]⟩, rfl, rfl, by omega, Below.refl _ _, fun _ => rfl, fun d h => by omega, fun i c hi => by omega⟩
  case round =>
    obtain ⟨k, s, rfl, rfl, hk, hb, hs0, hs1, hok⟩ := hrel
    have HI : Hid (Below w.heap.size w wr ∧ (k = 0 → s = ⟨#[]⟩) ∧ (∀ d, 0 < k → ps[k - 1]? = some d → d.name = s) ∧ ∀ i c, i < k → ps[i]? = some c → OkP ps i c) := ⟨hb, hs0, hs1, hok⟩
    clear hok hb hs0 hs1
    by_cases hlt : k < ps.length
    · have hlt' : (k : Int) < (ps.length : Int) := by omega
      obtain ⟨b, o, cap', p, u, e, hs, ⟨q0, q1, q2, q3⟩, hR⟩ := (H0.out.below HI.out.1).at hlt
      simp only [Value.slice.injEq, true_and] at e
      obtain ⟨rfl, rfl⟩ := e
      obtain ⟨n0, c0, rfl⟩ := hR.ls.val
      obtain ⟨W1, hW1⟩ : ∃ W1, wr.alloc (.cells #[.string p.name, .int .i64 p.low, .int .i64 p.next, .slice n0 p.seen.length c0] 101) = W1 := ⟨_, rfl⟩
      have hb1 : Below wr.heap.size wr W1 := by rw [← hW1]; exact (Below.refl _ _).alloc (Nat.le_refl _) _
      have hx1 : W1.heap[wr.heap.size]? = some (.cells #[.string p.name, .int .i64 p.low, .int .i64 p.next, .slice n0 p.seen.length c0] 101) := by rw [← hW1]; exact World.alloc_heap_new _ _
      obtain ⟨S, hS⟩ : ∃ S, S = wr.heap.size := ⟨_, rfl⟩
      rw [← hS] at hx1
      have HS : Hid (ps[k]? = some p ∧ RPt W1 (.slice n0 p.seen.length c0) p ∧ Below w.heap.size w W1 ∧ W1.heap[S]? = some (.cells #[.string p.name, .int .i64 p.low, .int .i64 p.next, .slice n0 p.seen.length c0] 101)) := ⟨hs, hR.below hb1, HI.out.1.trans (hb1.mono HI.out.1.size), hx1⟩
      have HW : Hid (wr.alloc (.cells #[.string p.name, .int .i64 p.low, .int .i64 p.next, .slice n0 p.seen.length c0] 101) = W1 ∧ S = wr.heap.size) := ⟨hW1, hS⟩
      clear hs hR hb1 hx1 hW1 hS
      go_upto_region 7 with fail
      try rw [HW.out.1]
      try rw [← HW.out.2]
      clear HW q0 q1 q2 q3
      obtain ⟨x0, x1, x2, x3⟩ := bx4P HS.out.2.2.2
      go_wp2_with fail
      refine (ptRight_impl p _ _ HS.out.2.1).mono ?_
      rintro e w2 ⟨rfl, hb2⟩
      have H2 : Hid (ps[k]? = some p ∧ Below w.heap.size w w2) := ⟨HS.out.1, HS.out.2.2.1.trans (hb2.mono HS.out.2.2.1.size)⟩
      have hx2 := (hb2.block _ (Array.getElem?_eq_some_iff.1 HS.out.2.2.2).1).trans HS.out.2.2.2
      clear x0 x1 x2 x3
      obtain ⟨x0, x1, x2, x3⟩ := bx4P hx2
      clear hb2 hx2 HS
      obtain ⟨y, hy⟩ : ∃ y, y = ptnB p := ⟨_, rfl⟩
      have HY : Hid (y = ptnB p) := hy
      rw [← hy]
      clear hy
      cases y with
      | false =>
        have HN : Hid (ptsB ps = false) := ptsB_no fun h => by
          have h1 := (h.at_ k _ H2.out.1).ok
          rw [← HY.out] at h1
          cases h1
        go_wp2
        go_ret
        exact ⟨by rw [HN.out]; rfl, H2.out.2⟩
      | true =>
        cases x : Op.bytesLess p.name.toList s.toList
        case true =>
          have HN : Hid (ptsB ps = false) := ptsB_no fun h => by
            have := bl_asymm (ptp_lt (h.at_ k _ H2.out.1) hk HI.out.2.1 HI.out.2.2.1)
            rw [x] at this
            cases this
          go_wp2
          go_ret
          exact ⟨by rw [HN.out]; rfl, H2.out.2⟩
        cases y : (p.name.toList == s.toList)
        case true =>
          have HN : Hid (ptsB ps = false) := ptsB_no fun h => by
            have := bl_neG (ptp_lt (h.at_ k _ H2.out.1) hk HI.out.2.1 HI.out.2.2.1)
            rw [y] at this
            cases this
          go_wp2
          go_ret
          exact ⟨by rw [HN.out]; rfl, H2.out.2⟩
        have HN : Hid (OkP ps k p) := ptp_ok HY.out.symm x y HI.out.2.2.1
        go_wp2
        go_roundw
        case rel =>
          refine ⟨k + 1, p.name, rfl, by go_num, by omega, H2.out.2, fun h => by omega, fun d _ hd => ?_, fun i y hi hy => ?_⟩
          · rw [show k + 1 - 1 = k by omega, H2.out.1] at hd
            cases hd
            rfl
          · rcases Nat.lt_or_ge i k with g | g
            · exact HI.out.2.2.2 i y g hy
            · obtain rfl : i = k := by omega
              rw [H2.out.1] at hy
              cases hy
              exact HN.out
        case measure => simp [intOf]; omega
    · obtain rfl : k = ps.length := by omega
      have HN : Hid (ptsB ps = true) := ptsB_yes ⟨by omega, fun i c hc => HI.out.2.2.2 i c (List.getElem?_eq_some_iff.1 hc).1 hc⟩
      go_wp2
      go_ret
      exact ⟨by rw [HN.out]; rfl, HI.out.1⟩
set_option maxHeartbeats 4000000 in
theorem gateRight_impl (g : Gat) (up uc us ul ud uo : Value) (w : World) (h : RGt w up uc us ul ud uo g) : Calls Tryz.prog 25 #[.agg #[.string g.name, .int .i64 g.day, up, uc, us, ul, ud, uo]] w fun e w' => e = .returned (.bool (gtB g)) ∧ Below w.heap.size w w' := by
  obtain ⟨a0, c0, a1, c1, a2, c2, a3, c3, a4, c4, a5, c5, rfl, rfl, rfl, rfl, rfl, rfl⟩ := h.val
  have hld := h.df.len
  obtain ⟨W0, hW0⟩ : ∃ W0, w.alloc (.cells #[.string g.name, .int .i64 g.day, (.slice a0 g.ptns.length c0), (.slice a1 g.crss.length c1), (.slice a2 g.book.stocks.length c2), (.slice a3 g.book.lines.length c3), (.slice a4 g.dffs.length c4), (.slice a5 g.outs.length c5)] 43) = W0 := ⟨_, rfl⟩
  have hb0 : Below w.heap.size w W0 := by rw [← hW0]; exact (Below.refl _ _).alloc (Nat.le_refl _) _
  have hx0 : W0.heap[w.heap.size]? = some (.cells #[.string g.name, .int .i64 g.day, (.slice a0 g.ptns.length c0), (.slice a1 g.crss.length c1), (.slice a2 g.book.stocks.length c2), (.slice a3 g.book.lines.length c3), (.slice a4 g.dffs.length c4), (.slice a5 g.outs.length c5)] 43) := by rw [← hW0]; exact World.alloc_heap_new _ _
  have H0 : Hid (Below w.heap.size w W0 ∧ RGt W0 (.slice a0 g.ptns.length c0) (.slice a1 g.crss.length c1) (.slice a2 g.book.stocks.length c2) (.slice a3 g.book.lines.length c3) (.slice a4 g.dffs.length c4) (.slice a5 g.outs.length c5) g ∧ W0.heap[w.heap.size]? = some (.cells #[.string g.name, .int .i64 g.day, (.slice a0 g.ptns.length c0), (.slice a1 g.crss.length c1), (.slice a2 g.book.stocks.length c2), (.slice a3 g.book.lines.length c3), (.slice a4 g.dffs.length c4), (.slice a5 g.outs.length c5)] 43)) := ⟨hb0, h.below hb0, hx0⟩
  clear h hb0 hx0
  obtain ⟨y1, h1⟩ : ∃ y, y = nameB g.name := ⟨_, rfl⟩
  obtain ⟨y2, h2⟩ : ∃ y, y = dayB g.day := ⟨_, rfl⟩
  obtain ⟨y3, h3⟩ : ∃ y, y = ptsB g.ptns := ⟨_, rfl⟩
  obtain ⟨y4, h4⟩ : ∃ y, y = rightB g.crss := ⟨_, rfl⟩
  obtain ⟨y5, h5⟩ : ∃ y, y = bkB g.book := ⟨_, rfl⟩
  obtain ⟨y7, h7⟩ : ∃ y, y = ousB g.outs := ⟨_, rfl⟩
  have HZ : Hid (gtB g = (y1 && (y2 && (y3 && (y4 && (y5 && (dfB g && y7))))))) := by rw [h1, h2, h3, h4, h5, h7]; rfl
  have Q1 := isName_any g.name
  have Q2 := isDay_any g.day
  have Q3 := fun W h => partnersRight_any (.slice a0 g.ptns.length c0) g.ptns W h
  have Q4 := fun W h => crossRight_impl (.slice a1 g.crss.length c1) g.crss W h
  have Q5 := fun W h => bookRight_impl g.book (.slice a2 g.book.stocks.length c2) (.slice a3 g.book.lines.length c3) W h
  have Q7 := fun W h => outboxRight_impl (.slice a5 g.outs.length c5) g.outs W h
  rw [← h1] at Q1
  rw [← h2] at Q2
  rw [← h3] at Q3
  rw [← h4] at Q4
  rw [← h5] at Q5
  rw [← h7] at Q7
  clear h1 h2 h3 h4 h5 h7
  go_enter Tryz.func25, Tryz.ntmps25
  go_upto_region 1 with fail
  try rw [hW0]
  clear hW0
  obtain ⟨x0, x1, x2, x3, x4, x5, x6, x7⟩ := bx8 H0.out.2.2
  go_wp2_with fail
  refine (Q1 _).mono ?_
  rintro e w1 ⟨rfl, rfl⟩
  cases y1
  · go_wp2
    go_ret
    exact ⟨by rw [HZ.out]; simp, H0.out.1⟩
  go_wp2_with fail
  refine (Q2 _).mono ?_
  rintro e w1 ⟨rfl, rfl⟩
  cases y2
  · go_wp2
    go_ret
    exact ⟨by rw [HZ.out]; simp, H0.out.1⟩
  go_wp2_with fail
  refine (Q3 _ H0.out.2.1.pt).mono ?_
  rintro e w3 ⟨rfl, hb⟩
  have H3 : Hid (Below w.heap.size w w3 ∧ RGt w3 (.slice a0 g.ptns.length c0) (.slice a1 g.crss.length c1) (.slice a2 g.book.stocks.length c2) (.slice a3 g.book.lines.length c3) (.slice a4 g.dffs.length c4) (.slice a5 g.outs.length c5) g ∧ w3.heap[w.heap.size]? = some (.cells #[.string g.name, .int .i64 g.day, (.slice a0 g.ptns.length c0), (.slice a1 g.crss.length c1), (.slice a2 g.book.stocks.length c2), (.slice a3 g.book.lines.length c3), (.slice a4 g.dffs.length c4), (.slice a5 g.outs.length c5)] 43)) := ⟨H0.out.1.trans (hb.mono H0.out.1.size), H0.out.2.1.below hb, (hb.block _ (Array.getElem?_eq_some_iff.1 H0.out.2.2).1).trans H0.out.2.2⟩
  clear hb x0 x1 x2 x3 x4 x5 x6 x7 H0
  obtain ⟨x0, x1, x2, x3, x4, x5, x6, x7⟩ := bx8 H3.out.2.2
  cases y3
  · go_wp2
    go_ret
    exact ⟨by rw [HZ.out]; simp, H3.out.1⟩
  go_wp2_with fail
  refine (Q4 _ H3.out.2.1.cs).mono ?_
  rintro e w4 ⟨rfl, hb⟩
  have H4 : Hid (Below w.heap.size w w4 ∧ RGt w4 (.slice a0 g.ptns.length c0) (.slice a1 g.crss.length c1) (.slice a2 g.book.stocks.length c2) (.slice a3 g.book.lines.length c3) (.slice a4 g.dffs.length c4) (.slice a5 g.outs.length c5) g ∧ w4.heap[w.heap.size]? = some (.cells #[.string g.name, .int .i64 g.day, (.slice a0 g.ptns.length c0), (.slice a1 g.crss.length c1), (.slice a2 g.book.stocks.length c2), (.slice a3 g.book.lines.length c3), (.slice a4 g.dffs.length c4), (.slice a5 g.outs.length c5)] 43)) := ⟨H3.out.1.trans (hb.mono H3.out.1.size), H3.out.2.1.below hb, (hb.block _ (Array.getElem?_eq_some_iff.1 H3.out.2.2).1).trans H3.out.2.2⟩
  clear hb x0 x1 x2 x3 x4 x5 x6 x7 H3
  obtain ⟨x0, x1, x2, x3, x4, x5, x6, x7⟩ := bx8 H4.out.2.2
  cases y4
  · go_wp2
    go_ret
    exact ⟨by rw [HZ.out]; simp, H4.out.1⟩
  go_wp2_with fail
  refine (Q5 _ H4.out.2.1.bk).mono ?_
  rintro e w5 ⟨rfl, hb⟩
  have H5 : Hid (Below w.heap.size w w5 ∧ RGt w5 (.slice a0 g.ptns.length c0) (.slice a1 g.crss.length c1) (.slice a2 g.book.stocks.length c2) (.slice a3 g.book.lines.length c3) (.slice a4 g.dffs.length c4) (.slice a5 g.outs.length c5) g ∧ w5.heap[w.heap.size]? = some (.cells #[.string g.name, .int .i64 g.day, (.slice a0 g.ptns.length c0), (.slice a1 g.crss.length c1), (.slice a2 g.book.stocks.length c2), (.slice a3 g.book.lines.length c3), (.slice a4 g.dffs.length c4), (.slice a5 g.outs.length c5)] 43)) := ⟨H4.out.1.trans (hb.mono H4.out.1.size), H4.out.2.1.below hb, (hb.block _ (Array.getElem?_eq_some_iff.1 H4.out.2.2).1).trans H4.out.2.2⟩
  clear hb x0 x1 x2 x3 x4 x5 x6 x7 H4
  obtain ⟨x0, x1, x2, x3, x4, x5, x6, x7⟩ := bx8 H5.out.2.2
  cases y5
  · go_wp2
    go_ret
    exact ⟨by rw [HZ.out]; simp, H5.out.1⟩
  by_cases hd : g.dffs.length ≤ 200
  case neg =>
    have hd' : ¬ (g.dffs.length : Int) ≤ 200 := by omega
    have HD : Hid (dfB g = false) := decide_eq_false hd
    go_wp2
    go_ret
    exact ⟨by rw [HZ.out, HD.out]; simp, H5.out.1⟩
  have hd' : (g.dffs.length : Int) ≤ 200 := by omega
  have HD : Hid (dfB g = true) := decide_eq_true hd
  go_wp2_with fail
  refine (Q7 _ H5.out.2.1.ou).mono ?_
  rintro e w7 ⟨rfl, hb⟩
  have H7 : Hid (Below w.heap.size w w7 ∧ RGt w7 (.slice a0 g.ptns.length c0) (.slice a1 g.crss.length c1) (.slice a2 g.book.stocks.length c2) (.slice a3 g.book.lines.length c3) (.slice a4 g.dffs.length c4) (.slice a5 g.outs.length c5) g ∧ w7.heap[w.heap.size]? = some (.cells #[.string g.name, .int .i64 g.day, (.slice a0 g.ptns.length c0), (.slice a1 g.crss.length c1), (.slice a2 g.book.stocks.length c2), (.slice a3 g.book.lines.length c3), (.slice a4 g.dffs.length c4), (.slice a5 g.outs.length c5)] 43)) := ⟨H5.out.1.trans (hb.mono H5.out.1.size), H5.out.2.1.below hb, (hb.block _ (Array.getElem?_eq_some_iff.1 H5.out.2.2).1).trans H5.out.2.2⟩
  clear hb x0 x1 x2 x3 x4 x5 x6 x7 H5
  go_wp2
  go_ret
  exact ⟨by rw [HZ.out, HD.out]; cases y7 <;> rfl, H7.out.1⟩
end Go.Proofs.YtamlhbjcokkmeaaGreatDoor
namespace Go.Proofs.YtamlhbjcokkmeaaGreatDoor
open Go.ChangeShapes Go.WideShapes Go.ChangeAt Go.RowKit
/-- An append of a list of texts, at the list of a plain region's operations. -/
theorem wpList_appsTxI {ops : Array Oper} {rest : List Oper} {o : Oper} {a : Act} {Q : Exit → Act → World → Prop} {W : World} {base c C : Nat} {lv : Value} {ss cs : List ByteArray} (hgd : o.guard = none) (s x : Operand)
    (ho : o.op = .call { callee := .builtin .append, args := #[s, x], argTypes := #[63, 63] })
    (hs' : a.eval s = lv) (hx : a.eval x = .slice (some ⟨c, 0, none⟩) cs.length C) (h : W.ownsRow base 9 1 lv ss.length (ss.map Value.string)) (hg : ∀ j t, cs[j]? = some t → W.cell? ⟨c, j, none⟩ = some (.string t)) (hc : 0 < cs.length) (hl : ss.length + cs.length ≤ 2000000) (hbase : base ≤ W.heap.size)
    (k : ∀ v' w', w'.ownsRow base 9 1 v' (ss ++ cs).length ((ss ++ cs).map Value.string) → W.grownBy w' lv.ownBlock → (∃ g C, v' = .slice (some ⟨g, 0, none⟩) (ss ++ cs).length C ∧ (lv.ownBlock = some g ∨ g = W.heap.size)) → wpList Tryz.prog ops Q rest (a.put o.dst v') w') : wpList Tryz.prog ops Q (o :: rest) a W := by
  obtain ⟨i0, hi, hz0, hz1, hz2⟩ := info_parts infoTx
  refine wpList_append_lies W hgd s x 63 ho base 9 i0 (.string ⟨#[]⟩) 1 16 Tryz.underlying63 hi hz0 hz1 hz2 rfl (by decide) lv ss.length (ss.map Value.string) hs' h ⟨c, 0, none⟩ cs.length C (cs.map Value.string) hx (by simp) (fun j u hu => ?_) (fun u hu => ?_) hc (by unfold maxLen; omega) (by omega) hbase W.heap.size rfl ?_
  · rw [List.getElem?_map] at hu
    obtain ⟨g, hg', rfl⟩ := Option.map_eq_some_iff.1 hu
    rw [fl_addr]
    have := hg j g hg'
    simpa using this
  · obtain ⟨z, _, rfl⟩ := List.mem_map.1 hu
    rfl
  · intro g cap w' hown hgrow hat _
    have e : ss.length + cs.length = (ss ++ cs).length := by rw [List.length_append]
    rw [e] at hown
    rw [e]
    exact k _ w' (by rw [List.map_append]; exact hown) hgrow ⟨g, cap, rfl, hat⟩
/-- Neither ends nor a report. -/
def NIR (o : Obj) : Prop := (∀ cs fr, o ≠ .cells cs 3 fr) ∧ ∀ cs fr, o ≠ .cells cs 66 fr
/-- What is not the report's own is as it was; a is where its words lay, b where they lie. -/
def KI (w w' : World) (a b : Value) : Prop := ∀ (j : Nat) (o : Obj), w.heap[j]? = some o → NIR o → a.ownBlock ≠ some j → w'.heap[j]? = some o ∧ b.ownBlock ≠ some j
theorem KI.trans {w1 w2 w3 : World} {a b c : Value} (h : KI w1 w2 a b) (h' : KI w2 w3 b c) : KI w1 w3 a c := fun j o hj hn ha => by
  obtain ⟨h1, h2⟩ := h j o hj hn ha
  exact h' j o h1 hn h2
theorem KI.of_below {w w' : World} {a : Value} (h : Below w.heap.size w w') : KI w w' a a := fun j _ hj _ ha => ⟨(h.block j (Array.getElem?_eq_some_iff.1 hj).1).trans hj, ha⟩
theorem ni_apart {B e K n b : Nat} {W : World} {v : Value} {xs : List Value} {o : Obj} (h : W.ownsRow B e K v n xs) (hb : W.heap[b]? = some o) (hne : ∀ cs fr, o ≠ .cells cs e fr) : v.ownBlock ≠ some b := fun hv => by
  rcases h.2 with ⟨rfl, _⟩ | ⟨g, cap, cur, rfl, _, h2, _⟩
  · cases hv
  · simp only [Value.ownBlock, Option.some.injEq] at hv
    subst hv
    have := h2.symm.trans hb
    simp only [Option.some.injEq] at this
    exact hne _ _ this.symm
theorem KI.words {n0 R N C g : Nat} {W w4 : World} {wv ev : Value} {rs : List (List ByteArray)} (h : Rep n0 R W wv ev rs) (hg : W.grownBy w4 wv.ownBlock) (hat : wv.ownBlock = some g ∨ g = W.heap.size) {n : Nat} {xs : List Value} (_ho : w4.ownsRow n0 9 1 (.slice (some ⟨g, 0, none⟩) N C) n xs) : KI W (w4.setCell ⟨R, 0, none⟩ (.slice (some ⟨g, 0, none⟩) N C)) wv (.slice (some ⟨g, 0, none⟩) N C) := fun j o hj hn ha => by
  have hjl := (Array.getElem?_eq_some_iff.1 hj).1
  have h4 : w4.heap[j]? = some o := (hg.block j hjl (fun e => ha e.symm)).trans hj
  have hne : j ≠ R := fun e => by
    subst e
    rw [h.box] at hj
    cases hj
    exact hn.2 _ _ rfl
  refine ⟨by rw [Below.heap_setCell _ _ _ _ hne]; exact h4, fun e => ?_⟩
  simp only [Value.ownBlock, Option.some.injEq] at e
  rcases hat with h | h
  · rw [e] at h
    exact ha h
  · omega
theorem KI.ends {n0 R : Nat} {W w4 : World} {v4 ev x a : Value} {o' : Obj} {n : Nat} {xs : List Value} (hx : W.heap[R]? = some (.cells #[v4, ev] 66)) (he : W.ownsRow n0 3 1 ev n xs) (hg : (W.alloc o').drew.grownBy w4 ev.ownBlock) : KI W (w4.setCell ⟨R, 1, none⟩ x) a a := fun j o hj hn ha => by
  have hjl := (Array.getElem?_eq_some_iff.1 hj).1
  have hb : Below W.heap.size W (W.alloc o').drew := ((Below.refl _ _).alloc (Nat.le_refl _) o').drew
  have h3 : (W.alloc o').drew.heap[j]? = some o := (hb.block _ hjl).trans hj
  have h4 : w4.heap[j]? = some o := (hg.block j (Array.getElem?_eq_some_iff.1 h3).1 (fun e => ni_apart he hj hn.1 e.symm)).trans h3
  have hne : j ≠ R := fun e => by
    subst e
    rw [hx] at hj
    cases hj
    exact hn.2 _ _ rfl
  exact ⟨by rw [Below.heap_setCell _ _ _ _ hne]; exact h4, ha⟩
set_option maxHeartbeats 8000000 in
theorem write_anyI (n0 R c C : Nat) (wv ev : Value) (rs : List (List ByteArray)) (cs : List ByteArray) (w : World) (h : Rep n0 R w wv ev rs) (hg : ∀ j t, cs[j]? = some t → w.cell? ⟨c, j, none⟩ = some (.string t)) (hc : 0 < cs.length) (hl : rs.flatten.length + cs.length ≤ 1000000) (hr : rs.length ≤ 1000000) (hs : n0 ≤ w.heap.size) :
    Calls Tryz.prog 26 #[.pointer (some ⟨R, 0, none⟩), .slice (some ⟨c, 0, none⟩) cs.length C] w fun e w' => e = .returned (.tuple #[]) ∧ (∃ wv' ev', Rep n0 R w' wv' ev' (rs ++ [cs]) ∧ KI w w' wv wv') ∧ Below n0 w w' := by
  obtain ⟨A0, C0, rfl⟩ := own_form h.words
  obtain ⟨A1, C1, rfl⟩ := own_form h.ends
  have HH : Hid (Rep n0 R w (.slice A0 rs.flatten.length C0) (.slice A1 rs.length C1) rs) := h
  obtain ⟨k0, k1, f0, f1⟩ := rp_box h.box
  have hrow := h.words
  unfold wordV at hrow
  obtain ⟨ss, hss⟩ : ∃ ss, ss = rs.flatten := ⟨_, rfl⟩
  rw [← hss] at hrow k0 hl
  have HS : Hid (ss = rs.flatten) := hss
  have hl2 : ss.length + cs.length ≤ 2000000 := by omega
  have hRn := h.hR
  try rw [← hss]
  clear h hss
  go_enter Tryz.func26, Tryz.ntmps26
  go_wp2_with (first | (at_builtin; refine wpList_appsTxI (base := n0) (c := c) (C := C) (lv := .slice A0 ss.length C0) (ss := ss) (cs := cs) rfl (.tmp 8) (.tmp 9) rfl rfl rfl hrow hg hc hl2 hs ?_; rintro v4 w4 hown4 hgrow4 ⟨g4, C4, rfl, hat4⟩; have ki4 := KI.words HH.out (by rw [← HS.out]; exact hgrow4) (by rw [← HS.out]; exact hat4) (N := (ss ++ cs).length) (C := C4) hown4; have k4 := rep_words HH.out (by rw [← HS.out]; exact hgrow4) hs (by rw [← HS.out]; exact hown4); obtain ⟨m0, m1, n0', n1'⟩ := rp_box k4.2.2.2.2.1; try rw [← HS.out] at m0))
  have e4 : (ss ++ cs).length = ss.length + cs.length := List.length_append
  rw [e4] at k4 ki4
  obtain ⟨N, hN⟩ : ∃ N, N = ss.length + cs.length := ⟨_, rfl⟩
  rw [← hN] at k4 ki4 ⊢
  have hN1 : N ≤ 1000000 := by omega
  have HN : Hid (N = rs.flatten.length + cs.length) := by show _ = _; rw [hN, HS.out]
  obtain ⟨W5, hW5⟩ : ∃ W5, w4.setCell ⟨R, 0, none⟩ (.slice (some ⟨g4, 0, none⟩) N C4) = W5 := ⟨_, rfl⟩
  rw [hW5] at k4 ki4 ⊢
  clear hW5 e4 hN m0 m1 n0' n1' k0 k1 f0 f1 hown4 hgrow4 hat4 hrow hg hl hl2
  obtain ⟨x5, y5, hE, b5, _, kt5⟩ := k4
  obtain ⟨p0, p1, q0, q1⟩ := rp_box x5
  have hs5 : n0 ≤ W5.heap.size := Nat.le_trans hs b5.size
  have H5 : Hid (W5.heap[R]? = some (.cells #[.slice (some ⟨g4, 0, none⟩) N C4, .slice A1 rs.length C1] 66) ∧ W5.ownsRow n0 9 1 (.slice (some ⟨g4, 0, none⟩) N C4) (rs.flatten ++ cs).length ((rs.flatten ++ cs).map Value.string) ∧ W5.ownsRow n0 3 1 (.slice A1 rs.length C1) rs.length (endV rs) ∧ Below n0 w W5 ∧ KI w W5 (.slice A0 rs.flatten.length C0) (.slice (some ⟨g4, 0, none⟩) N C4)) := ⟨x5, y5, hE, b5, ki4⟩
  have x5a : (W5.alloc (.cells #[.int .i64 (N : Int)] 3)).heap[R]? = some (.cells #[.slice (some ⟨g4, 0, none⟩) N C4, .slice A1 rs.length C1] 66) := (((Below.refl _ W5).alloc (Nat.le_refl _) _).block _ (Array.getElem?_eq_some_iff.1 x5).1).trans x5
  obtain ⟨pa0, pa1, qa0, qa1⟩ := rp_box x5a
  clear x5 y5 b5 HH x5a kt5 ki4
  obtain ⟨i0, hi, hz0, hz1, hz2⟩ := info_parts infoIt
  have hmx : rs.length + 1 ≤ maxLen := by unfold maxLen; omega
  go_region_law (refine step_append_lies _ (by rfl) _ _ _ (by rfl) n0 3 i0 _ 1 8 Tryz.underlying64 hi hz0 hz1 hz2 rfl (by omega) (.slice A1 rs.length C1) rs.length (endV rs) (by rfl) ((hE.alloc _).drew) ⟨W5.heap.size, 0, none⟩ 1 1 [.int .i64 (N : Int)] (by rfl) (by rfl) (World.news_of_block (cs := #[.int .i64 (N : Int)]) (t := 3) (fr := (0, 0)) (World.alloc_heap_new W5 (.cells #[.int .i64 (N : Int)] 3))) (by simp [Value.oneCell']) (by omega) hmx (by omega) (by simp; omega) (W5.heap.size + 1) (by simp) ?_; intro gg cap w6 hown6 hgrow6 hat6 hlt6; have ki6 := KI.ends H5.out.1 H5.out.2.2.1 hgrow6 (a := .slice (some ⟨g4, 0, none⟩) N C4) (x := .slice (some ⟨gg, 0, none⟩) (rs.length + 1) cap); have k6 := rep_ends hRn H5.out.1 H5.out.2.1 H5.out.2.2.1 hgrow6 hs5 (by rw [← HN.out]; exact hown6); obtain ⟨g0, g1, j0, j1⟩ := rp_box k6.2.2.1)
  all_goals
    have HF : Hid (Rep n0 R (w6.setCell ⟨R, 1, none⟩ (.slice (some ⟨gg, 0, none⟩) (rs.length + 1) cap)) (.slice (some ⟨g4, 0, none⟩) N C4) (.slice (some ⟨gg, 0, none⟩) (rs.length + 1) cap) (rs ++ [cs]) ∧ Below n0 w (w6.setCell ⟨R, 1, none⟩ (.slice (some ⟨gg, 0, none⟩) (rs.length + 1) cap)) ∧ KI w (w6.setCell ⟨R, 1, none⟩ (.slice (some ⟨gg, 0, none⟩) (rs.length + 1) cap)) (.slice A0 rs.flatten.length C0) (.slice (some ⟨g4, 0, none⟩) N C4)) := ⟨k6.1, H5.out.2.2.2.1.trans k6.2.1, H5.out.2.2.2.2.trans ki6⟩
    clear k6 ki6 hown6 hgrow6 hat6 hlt6
    go_wp2
    go_end0
    exact ⟨rfl, ⟨_, _, HF.out.1, by (try rw [HS.out]); exact HF.out.2.2⟩, HF.out.2.1⟩
end Go.Proofs.YtamlhbjcokkmeaaGreatDoor
