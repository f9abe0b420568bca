/- Texts of ours put together: IxT, IxE. -/
import Derived.Test.YtjnikogaleofaaaDoorG22
import Derived.Test.YtjnikogaleofaaaDoorG28
import Derived.Test.YtjnikogaleofaaaDoorG25
import Derived.Test.YtjnikogaleofaaaDoorG00
import Derived.Deep.RegionHeld3
import Derived.Deep.RegionLaw
import Derived.Deep.AppendLies
import Derived.Test.YtjnikogaleofaaaDoorG16
namespace Go.Proofs.YtjnikogaleofaaaDoor
open Go.ChangeShapes Go.WideShapes Go.ChangeAt Go.RowKit
set_option maxRecDepth 20000 in
set_option maxHeartbeats 4000000 in
theorem copySeg_any (tag : ByteArray) (v : Value) (es : List (List ByteArray)) (w : World) (h : RowE w v es) (hl : es.length ≤ 10) (ht : tag.size ≤ 1048576) (hz : ∀ e ∈ es, 0 < e.length ∧ e.length ≤ 4 ∧ ∀ t ∈ e, t.size ≤ 40) :
    Calls Tryd.prog 52 #[.agg #[.string tag, v]] w fun e w' => ∃ u vals, e = .returned (.agg #[.string tag, u]) ∧ OwnV w.heap.size w' u vals es ∧ Below w.heap.size w w' := by
  obtain ⟨A, C, rfl⟩ := h.val
  obtain ⟨j0, hj0i, hi0, hi1, hi2⟩ := info_parts infoElm
  have bx : Below w.heap.size w (w.alloc (.cells #[.string tag, .slice A es.length C] 33)) := (Below.refl _ _).alloc (Nat.le_refl _) _
  have hx0 : (w.alloc (.cells #[.string tag, .slice A es.length C] 33)).cell? ⟨w.heap.size, 0, none⟩ = some (.string tag) := by simp [go_sem]
  have hx1 : (w.alloc (.cells #[.string tag, .slice A es.length C] 33)).cell? ⟨w.heap.size, 1, none⟩ = some (.slice A es.length C) := by simp [go_sem]
  have hxs : (w.alloc (.cells #[.string tag, .slice A es.length C] 33)).heap.size = w.heap.size + 1 := by simp
  have HR : Hid (RowE (w.alloc (.cells #[.string tag, .slice A es.length C] 33)) (.slice A es.length C) es ∧ Below w.heap.size w (w.alloc (.cells #[.string tag, .slice A es.length C] 33))) := ⟨h.below bx, bx⟩
  clear h bx
  go_enter Tryd.func52, Tryd.ntmps52
  go_wp2_with fail
  generalize (w.alloc (.cells #[.string tag, .slice A es.length C] 33)) = W0 at *
  refine (clone_any tag _ (by omega)).mono ?_
  rintro e w1 ⟨rfl, hb1⟩
  have z1 := hb1.size
  have bR : Below W0.heap.size W0 (W0.alloc (.cells #[.string ⟨#[]⟩, .slice none 0 0] 33)) := (Below.refl _ _).alloc (Nat.le_refl _) _
  have hw1 : Below W0.heap.size W0 w1 := bR.trans (hb1.mono (by simp))
  have bG : Below w1.heap.size w1 (w1.alloc (.cells #[.string tag, .slice none 0 0] 33)) := (Below.refl _ _).alloc (Nat.le_refl _) _
  have hr1 : w1.heap[W0.heap.size]? = some (.cells #[.string ⟨#[]⟩, .slice none 0 0] 33) := (hb1.block W0.heap.size (by simp)).trans (World.alloc_heap_new W0 _)
  have hGB : GB W0.heap.size w1.heap.size W0 (w1.alloc (.cells #[.string tag, .slice none 0 0] 33)) tag (.slice none 0 0) [] [] := ⟨(Below.heap_alloc _ _ _ (Array.getElem?_eq_some_iff.1 hr1).1).trans hr1, World.alloc_heap_new w1 _, ⟨rfl, World.ownsRow_nil _ _ _ _, fun i u e hu => by simp at hu, fun i j u x _ hu => by simp at hu⟩, hw1.trans (bG.mono hw1.size), Nat.le_refl _, by have := z1; simp at this; omega⟩
  have HGB : Hid (GB W0.heap.size w1.heap.size W0 (w1.alloc (.cells #[.string tag, .slice none 0 0] 33)) tag (.slice none 0 0) [] []) := hGB
  have x1a := ((hw1.trans (bG.mono hw1.size)).cell (cell_lt hx1)).trans hx1
  clear hb1 bR hw1 bG hr1 hGB
  rw [hxs] at *
  go_wp2_with fail
  go_loopw [16] (fun i wr => ∃ (k : Nat) (u : Value) (vals : List Value), i = .int .i64 (k : Int) ∧ k ≤ es.length ∧ GB (w.heap.size + 1) w1.heap.size W0 wr tag u vals (es.take k)) (fun i _ => es.length - (intOf i).toNat)
  case atStart => exact ⟨0, .slice none 0 0, [], rfl, by omega, HGB.out⟩
  case round =>
    obtain ⟨k, u, vals, rfl, hk, hG⟩ := hrel
    obtain ⟨Au, Nu, Cu, hu⟩ := row_slice hG.own.row
    subst hu
    obtain ⟨c0, c1⟩ := hG.cells
    have hlw := hG.lt
    by_cases hlt : k < es.length
    · have hlt' : (k : Int) < (es.length : Int) := by omega
      obtain ⟨b, o, cap', ss, ue, e, hs, hc, hE⟩ := (HR.out.1.below (hG.bel.mono (by omega))).at hlt
      simp only [Value.slice.injEq, true_and] at e
      obtain ⟨rfl, rfl⟩ := e
      obtain ⟨hz0, hz1, hz2⟩ := hz ss (List.mem_of_getElem? hs)
      obtain ⟨ne, ce, rfl⟩ := hE.val
      have hel : (es.take k).length = k := by rw [List.length_take]; omega
      have hNu : Nu = k := by have := row_n' hG.own.row; omega
      subst hNu
      have hmx : Nu + 1 ≤ maxLen := by unfold maxLen; omega
      have bE : Below wr.heap.size wr (wr.alloc (.cells #[.slice ne ss.length ce] 36)) := (Below.refl _ _).alloc (Nat.le_refl _) _
      have HG : Hid (GB (w.heap.size + 1) w1.heap.size W0 wr tag (.slice Au Nu Cu) vals (es.take Nu) ∧ es[Nu]? = some ss ∧ RowS (wr.alloc (.cells #[.slice ne ss.length ce] 36)) (.slice ne ss.length ce) ss ∧ Below wr.heap.size wr (wr.alloc (.cells #[.slice ne ss.length ce] 36))) := ⟨hG, hs, hE.below bE, bE⟩
      have ec : (wr.alloc (.cells #[.slice ne ss.length ce] 36)).cell? ⟨wr.heap.size, 0, none⟩ = some (.slice ne ss.length ce) := by simp [go_sem]
      clear hG hs hE bE
      go_wp2_with fail
      generalize hWE : (wr.alloc (.cells #[.slice ne ss.length ce] 36)) = WE at *
      clear hWE
      generalize hwo : wr = wo at *
      clear hwo
      obtain ⟨i0, hs0i, hs0, hs1, hs2⟩ := info_parts infoStr
      go_loopw [6, 23] (fun pv i wr => ∃ (j : Nat), i = .int .i64 (j : Int) ∧ j ≤ ss.length ∧ wr.ownsRow WE.heap.size 9 1 pv j ((ss.take j).map Value.string) ∧ Below WE.heap.size WE wr) (fun _ i _ => ss.length - (intOf i).toNat)
      case atStart => exact ⟨0, rfl, by omega, World.ownsRow_nil _ _ _ _, Below.refl _ _⟩
      case round =>
        obtain ⟨j, rfl, hj, hrow, hb⟩ := hrel
        obtain ⟨Ap, Np, Cp, hpv⟩ := row_slice hrow
        subst hpv
        have hNp := row_n' hrow
        subst hNp
        by_cases hlj : Np < ss.length
        · have hlj' : (Np : Int) < (ss.length : Int) := by omega
          obtain ⟨bs, os, caps, t, e3, hst, hct, _⟩ := (HG.out.2.2.1.below hb).at hlj
          simp only [Value.slice.injEq, true_and] at e3
          obtain ⟨rfl, rfl⟩ := e3
          have htz := hz2 t (List.mem_of_getElem? hst)
          have HB : Hid (wr.ownsRow WE.heap.size 9 1 (.slice Ap Np Cp) Np ((ss.take Np).map Value.string) ∧ Below WE.heap.size WE wr ∧ ss[Np]? = some t) := ⟨hrow, hb, hst⟩
          have zw := hb.size
          clear hrow hb hst
          go_wp2_with fail
          refine (clone_any t _ (by omega)).mono ?_
          rintro e w2 ⟨rfl, hb2⟩
          have z2 := hb2.size
          have H2 : Hid (w2.ownsRow WE.heap.size 9 1 (.slice Ap Np Cp) Np ((ss.take Np).map Value.string) ∧ Below WE.heap.size WE w2) := ⟨row_keep HB.out.1 hb2, HB.out.2.1.trans (hb2.mono HB.out.2.1.size)⟩
          clear hb2
          have hmp : Np + 1 ≤ maxLen := by unfold maxLen; omega
          have tok1 : True := trivial
          go_wp2_with (at_builtin; have _t := tok1; refine wpList_append_own _ rfl _ _ 34 rfl WE.heap.size 9 i0 (.string ⟨#[]⟩) 1 16 Tryd.underlying34 hs0i hs0 hs1 hs2 rfl (by decide) _ _ _ rfl (H2.out.1.alloc _) ⟨_, 0, none⟩ 1 1 [.string t] rfl rfl (World.news_of_block (World.alloc_heap_new w2 _)) (by simp [Value.oneCell']) hmp (by omega) (by simp; omega) ?_; intro u' w4 hown' hgrow _; have HW4 : Hid (w4.ownsRow WE.heap.size 9 1 u' (Np + 1) ((ss.take (Np + 1)).map Value.string) ∧ Below WE.heap.size WE w4) := ⟨(by rw [List.take_add_one, HB.out.2.2]; simpa using hown'), ⟨hgrow.os.trans H2.out.2.os, hgrow.tape.trans H2.out.2.tape, hgrow.output.trans H2.out.2.output, Nat.le_trans H2.out.2.size (Nat.le_trans (by simp) hgrow.size), fun q hq => (hgrow.block q (by simp; omega) (row_lt H2.out.1 hq)).trans ((Below.heap_alloc _ _ _ (by omega)).trans (H2.out.2.block q hq))⟩⟩; clear tok1 hown' hgrow)
          go_roundw
          case rel => exact ⟨Np + 1, by go_num, by omega, HW4.out⟩
          case measure => simp [intOf]; omega
        · obtain rfl : Np = ss.length := by omega
          rw [List.take_length] at hrow
          have z3 := HG.out.2.2.2.size
          have zE := hb.size
          have hwE : Below wo.heap.size wo wr := HG.out.2.2.2.trans (hb.mono z3)
          have G3 := HG.out.1.below hwE
          obtain ⟨f0, f1⟩ := G3.cells
          have rowN : wr.ownsRow (w1.heap.size + 1) 36 1 (.slice Au Nu Cu) Nu vals := by have := G3.own.row; rwa [hel] at this
          have l3 := G3.lt
          have H3 : Hid (wr.ownsRow wo.heap.size 9 1 (.slice Ap ss.length Cp) ss.length (ss.map Value.string) ∧ Below wo.heap.size wo wr) := ⟨row_mono hrow z3, hwE⟩
          clear hrow hb hwE G3
          have tok1 : True := trivial
          go_wp2_with (at_builtin; have _t := tok1; refine wpList_append_own _ rfl _ _ 31 rfl (w1.heap.size + 1) 36 j0 (.agg #[.slice none 0 0]) 1 24 Tryd.underlying31 hj0i hi0 hi1 hi2 rfl (by decide) _ _ _ rfl (rowN.alloc _) ⟨_, 0, none⟩ 1 1 [.slice Ap ss.length Cp] rfl rfl (World.news_of_block (World.alloc_heap_new wr _)) (by simp [Value.oneCell']) hmx (by omega) (by simp; omega) ?_; intro u' w4 hown' hgrow _; obtain ⟨⟨z0, zf⟩, hG4⟩ := (HG.out.1.push (x := .slice Ap ss.length Cp) (e := ss) H3.out.2 H3.out.1 hz0 ((Below.refl _ _).alloc (Nat.le_refl _) _) (by rw [hel]; exact hown') hgrow); obtain ⟨A4, N4, C4, hu4⟩ := row_slice hown'; subst hu4; have HG4 : Hid (GB (w.heap.size + 1) w1.heap.size W0 (w4.setCell ⟨w1.heap.size, 1, none⟩ (.slice A4 N4 C4)) tag (.slice A4 N4 C4) (vals ++ [.slice Ap ss.length Cp]) (es.take Nu ++ [ss])) := hG4; have l4 := cell_lt z0; clear tok1 hown' hgrow hG4)
          go_roundw
          case rel =>
            refine ⟨Nu + 1, .slice A4 N4 C4, vals ++ [.slice Ap ss.length Cp], by go_num, by omega, ?_⟩
            have e1 : es.take (Nu + 1) = es.take Nu ++ [ss] := by
              rw [List.take_add_one, HG.out.2.1]
              rfl
            rw [e1]
            exact HG4.out
          case measure => simp [intOf]; omega
    · obtain rfl : k = es.length := by omega
      have hr := hG.r
      have r0 : wr.cell? ⟨w.heap.size + 1, 0, none⟩ = some (.string ⟨#[]⟩) := by simp [World.cell?, hr]
      have r1 : wr.cell? ⟨w.heap.size + 1, 1, none⟩ = some (.slice none 0 0) := by simp [World.cell?, hr]
      have rz : ∀ o, wr.frozen? ⟨w.heap.size + 1, o, none⟩ = false := fun o => by simp [World.frozen?, hr]
      have hO := hG.own
      rw [List.take_length] at hO
      have q2 := hG.rb
      have HF : Hid (OwnV (w1.heap.size + 1) wr (.slice Au Nu Cu) vals es ∧ Below w.heap.size w wr) := ⟨hO, HR.out.2.trans (hG.bel.mono HR.out.2.size)⟩
      clear hG hr hO
      go_wp2
      exact bodyPost_ret (v := .agg #[.string tag, .slice Au Nu Cu]) (by simp [results, Tryd.results52, go_sem, r0, r1]) rfl ⟨_, vals, rfl, ((HF.out.1.set (by omega) _ _).set (by omega) _ _).mono (by omega), (HF.out.2.setCell (show w.heap.size ≤ w.heap.size + 1 by omega) _).setCell (show w.heap.size ≤ w.heap.size + 1 by omega) _⟩
end Go.Proofs.YtjnikogaleofaaaDoor
namespace Go.Proofs.YtjnikogaleofaaaDoor
open Go.ChangeShapes Go.WideShapes Go.ChangeAt Go.RowKit
theorem cellsL_app {gs : List Seg} {ps : List (Value × List Value)} (h : ps.length = gs.length) (hs : List Seg) (qs : List (Value × List Value)) : cellsL (gs ++ hs) (ps ++ qs) = cellsL gs ps ++ cellsL hs qs := by
  unfold cellsL
  rw [List.zip_append h.symm, List.flatMap_append]
theorem cellsL_len {gs : List Seg} {ps : List (Value × List Value)} (h : ps.length = gs.length) : (cellsL gs ps).length = gs.length * 2 := by
  induction gs generalizing ps with
  | nil => simp [cellsL]
  | cons g gs ih =>
    cases ps with
    | nil => simp at h
    | cons p ps =>
      have e : cellsL (g :: gs) (p :: ps) = .string g.1 :: p.1 :: cellsL gs ps := by simp [cellsL]
      rw [e]
      simp at h
      simp [ih h]
      omega
theorem OwnL.one {n : Nat} {W : World} {tag : ByteArray} {u : Value} {vals : List Value} {es : List (List ByteArray)} (h : OwnV n W u vals es) (hn : n ≤ W.heap.size) :
    OwnL n (W.alloc (.cells #[.string tag, u] 33)) (.slice (some ⟨W.heap.size, 0, none⟩) 1 1) [(u, vals)] [(tag, es)] := by
  have hb : Below W.heap.size W (W.alloc (.cells #[.string tag, u] 33)) := (Below.refl _ _).alloc (Nat.le_refl _) _
  refine ⟨rfl, ⟨by simp [cellsL], .inr ⟨W.heap.size, 1, #[.string tag, u], rfl, hn, World.alloc_heap_new W _, Nat.le_refl _, by unfold maxLen; omega, rfl, by simp [cellsL]⟩⟩, fun i p g hp hg => ?_, fun i j p q hij hp hq => ?_⟩
  · rcases i with _ | i
    · simp at hp hg
      subst hp hg
      exact h.below hb
    · simp at hp
  · rcases j with _ | j
    · omega
    · simp at hq
/-- Two lists, one behind the other. -/
theorem OwnL.app {n₀ : Nat} {W W2 w4 : World} {lv lv' mv : Value} {ps qs : List (Value × List Value)} {gs hs : List Seg} (h : OwnL n₀ W lv ps gs) (hn : n₀ ≤ W.heap.size) (hb2 : Below W.heap.size W W2) (h2 : OwnL W.heap.size W2 mv qs hs)
    (hown : w4.ownsRow n₀ 33 2 lv' (gs.length + hs.length) (cellsL gs ps ++ cellsL hs qs)) (hg : W2.grownBy w4 lv.ownBlock) : OwnL n₀ w4 lv' (ps ++ qs) (gs ++ hs) := by
  have h' := h.below hb2
  have hl := h.len
  have hl2 := h2.len
  refine ⟨by simp [hl, hl2], by rw [cellsL_app hl, List.length_append]; exact hown, fun i p g hp hg' => ?_, fun i j p q hij hp hq => ?_⟩
  · rcases Nat.lt_or_ge i ps.length with k | k
    · rw [List.getElem?_append_left k] at hp
      rw [List.getElem?_append_left (by omega)] at hg'
      exact (h'.segs i p g hp hg').grow2 hg h'.row
    · rw [List.getElem?_append_right k] at hp
      rw [List.getElem?_append_right (by omega), ← hl] at hg'
      exact ((h2.segs _ p g hp hg').mono hn).grow2 hg h'.row
  · rcases Nat.lt_or_ge j ps.length with k | k
    · rw [List.getElem?_append_left k] at hq
      rw [List.getElem?_append_left (by omega)] at hp
      exact h.sep i j p q hij hp hq
    · rw [List.getElem?_append_right k] at hq
      rcases Nat.lt_or_ge i ps.length with k' | k'
      · rw [List.getElem?_append_left k'] at hp
        intro x hx y hy b hb hb'
        have hi : i < gs.length := by omega
        have q1 := (h.segs i p _ hp (List.getElem?_eq_getElem hi)).base x hx b hb
        have hjl := (List.getElem?_eq_some_iff.1 hq).1
        have q2 := (h2.segs _ q _ hq (List.getElem?_eq_getElem (show j - ps.length < hs.length by omega))).base y hy b hb'
        omega
      · rw [List.getElem?_append_right k'] at hp
        exact h2.sep (i - ps.length) (j - ps.length) p q (by omega) hp hq
theorem cells_of_own {n : Nat} {W : World} {mv : Value} {qs : List (Value × List Value)} {hs : List Seg} (h : OwnL n W mv qs hs) (hpos : 0 < hs.length) : ∃ ad c, mv = .slice (some ad) hs.length c ∧ ∀ j u, (cellsL hs qs)[j]? = some u → W.cell? (ad.add j) = some u := by
  rcases h.row.2 with ⟨_, h0⟩ | ⟨g, cap, cur, e, _⟩
  · omega
  · subst e
    exact ⟨⟨g, 0, none⟩, cap, rfl, h.row.cells (g := g) rfl⟩
theorem cellsL_oneCell {n : Nat} {W : World} {mv : Value} {qs : List (Value × List Value)} {hs : List Seg} (h : OwnL n W mv qs hs) : ∀ u ∈ cellsL hs qs, u.oneCell' = true := by
  intro u hu
  unfold cellsL at hu
  rw [List.mem_flatMap] at hu
  obtain ⟨⟨g, p⟩, hx, hu⟩ := hu
  simp only [List.mem_cons, List.not_mem_nil, or_false] at hu
  rcases hu with rfl | rfl
  · simp [Value.oneCell']
  · obtain ⟨i, hi⟩ := List.mem_iff_getElem?.1 hx
    rw [List.getElem?_zip_eq_some] at hi
    obtain ⟨A, N, C, e⟩ := row_slice (h.segs i p g hi.2 hi.1).row
    rw [e]
    simp [Value.oneCell']
/-- An append of segments, at the list of a plain region's operations. -/
theorem wpList_app {ops : Array Oper} {rest : List Oper} {o : Oper} {a : Act} {Q : Exit → Act → World → Prop} {n₀ : Nat} {W W2 : World} {lv mv : Value} {ps qs : List (Value × List Value)} {gs hs : List Seg} (hgd : o.guard = none) (s x : Operand)
    (ho : o.op = .call { callee := .builtin .append, args := #[s, x], argTypes := #[28, 28] })
    (hs' : a.eval s = lv) (hx : a.eval x = mv) (h : OwnL n₀ W lv ps gs) (hn : n₀ ≤ W.heap.size) (hb2 : Below W.heap.size W W2) (h2 : OwnL W.heap.size W2 mv qs hs) (hl : gs.length + hs.length ≤ 3000000) (hpos : 0 < hs.length)
    (k : ∀ A C w4, OwnL n₀ w4 (.slice A (gs.length + hs.length) C) (ps ++ qs) (gs ++ hs) → Below n₀ W2 w4 → wpList Tryd.prog ops Q rest (a.put o.dst (.slice A (gs.length + hs.length) C)) w4) : wpList Tryd.prog ops Q (o :: rest) a W2 := by
  obtain ⟨i0, hi, hz0, hz1, hz2⟩ := info_parts infoSg
  obtain ⟨ad, c, e, hc⟩ := cells_of_own h2 hpos
  have h' := h.below hb2
  refine wpList_append_own W2 hgd s x 28 ho n₀ 33 i0 (.agg #[.string ⟨#[]⟩, .slice none 0 0]) 2 40 Tryd.underlying28 hi hz0 hz1 hz2 rfl (by decide) lv gs.length (cellsL gs ps) hs' h'.row ad hs.length c (cellsL hs qs) (by rw [hx, e]) (cellsL_len h2.len) hc (cellsL_oneCell h2) (by unfold maxLen; omega) (by omega) (Nat.le_trans hn hb2.size) ?_
  intro v' w4 hown hgrow _
  obtain ⟨A, C, hv⟩ : ∃ A C, v' = .slice A (gs.length + hs.length) C := by
    rcases hown.2 with ⟨rfl, h0⟩ | ⟨g, cap, cur, rfl, _⟩
    · exact ⟨none, 0, by rw [h0]⟩
    · exact ⟨_, _, rfl⟩
  subst hv
  refine k A C w4 (h.app hn hb2 h2 hown hgrow) ⟨hgrow.os, hgrow.tape, hgrow.output, hgrow.size, fun q hq => hgrow.block q (by have := hb2.size; omega) (row2_ne h'.row hq).symm⟩
end Go.Proofs.YtjnikogaleofaaaDoor
