/- Contracts of impl.segmentBy and impl.copyOfSegment: a segment in memory of its own. -/
import Derived.Test.YtmnfijgmfedpmaaDoorIxQ
import Derived.Test.YtmnfijgmfedpmaaDoorElBy
import Derived.Test.YtmnfijgmfedpmaaDoorShClone
import Derived.Deep.RegionHeld3
import Derived.Deep.RegionLaw
import Derived.Deep.AppendLies
namespace Go.Proofs.YtmnfijgmfedpmaaDoor
open Go.ChangeShapes Go.WideShapes Go.ChangeAt Go.RowKit
theorem infoStr : (Tryd.prog.info? 9).map (fun i => (i.zero, i.size, i.bytes)) = some (some (.string ⟨#[]⟩), 1, 16) := by kernel_rfl
theorem row_n' {n₀ t k N C : Nat} {W : World} {A : Option Addr} {xs : List Value} (h : W.ownsRow n₀ t 1 (.slice A N C) k xs) : N = k := by
  rcases h.2 with ⟨e, h0⟩ | ⟨g, cap, cur, e, _⟩
  · simp only [Value.slice.injEq] at e
    omega
  · simp only [Value.slice.injEq] at e
    exact e.2.1
theorem row1 (w : World) (t : ByteArray) (hz : t.size ≤ 9223372036854775807) : RowS (w.alloc (.cells #[.string t] 9)) (.slice (some ⟨w.heap.size, 0, none⟩) 1 1) [t] := by
  refine ⟨⟨_, _, rfl, fun _ => ⟨w.heap.size, 0, rfl, fun i s hi => ?_⟩⟩, by simp, fun i s hi => ?_⟩
  · rcases i with _ | i
    · simp at hi
      subst hi
      simp [go_sem]
    · simp at hi
  · rcases i with _ | i
    · simp at hi
      subst hi
      exact hz
    · simp at hi
/-- A segment at hand in block B, the answer's block R ahead of it. -/
structure GB (R B : Nat) (w W : World) (tag : ByteArray) (u : Value) (vals : List Value) (es : List (List ByteArray)) : Prop where
  r : W.heap[R]? = some (.cells #[.string ⟨#[]⟩, .slice none 0 0] 51)
  g : W.heap[B]? = some (.cells #[.string tag, u] 51)
  own : OwnV (B + 1) W u vals es
  bel : Below w.heap.size w W
  wr : w.heap.size ≤ R
  rb : R < B
theorem GB.lt {R B : Nat} {w W : World} {tag : ByteArray} {u : Value} {vals : List Value} {es : List (List ByteArray)} (h : GB R B w W tag u vals es) : B + 1 ≤ W.heap.size := (Array.getElem?_eq_some_iff.1 h.g).1
theorem GB.below {R B : Nat} {w W W' : World} {tag : ByteArray} {u : Value} {vals : List Value} {es : List (List ByteArray)} (h : GB R B w W tag u vals es) (hb : Below W.heap.size W W') : GB R B w W' tag u vals es :=
  ⟨(hb.block _ (Array.getElem?_eq_some_iff.1 h.r).1).trans h.r, (hb.block _ (Array.getElem?_eq_some_iff.1 h.g).1).trans h.g, h.own.below hb, h.bel.trans (hb.mono h.bel.size), h.wr, h.rb⟩
theorem GB.cells {R B : Nat} {w W : World} {tag : ByteArray} {u : Value} {vals : List Value} {es : List (List ByteArray)} (h : GB R B w W tag u vals es) : W.cell? ⟨B, 0, none⟩ = some (.string tag) ∧ W.cell? ⟨B, 1, none⟩ = some u := by
  have := h.g
  exact ⟨by simp [World.cell?, this], by simp [World.cell?, this]⟩
/-- One element more: appended in w4, then stored. -/
theorem GB.push {R B : Nat} {w W W2 W3 w4 : World} {tag : ByteArray} {u x u' : Value} {vals : List Value} {es : List (List ByteArray)} {e : List ByteArray} (h : GB R B w W tag u vals es) (hb2 : Below W.heap.size W W2) (hx : W2.ownsRow W.heap.size 9 1 x e.length (e.map Value.string)) (he : 0 < e.length) (hb3 : Below W2.heap.size W2 W3)
    (hown : w4.ownsRow (B + 1) 96 1 u' (es.length + 1) (vals ++ [x])) (hg : W3.grownBy w4 u.ownBlock) :
    (w4.cell? ⟨B, 1, none⟩ = some u ∧ w4.frozen? ⟨B, 1, none⟩ = false) ∧ GB R B w (w4.setCell ⟨B, 1, none⟩ u') tag u' (vals ++ [x]) (es ++ [e]) := by
  have h3 := (h.below hb2).below hb3
  have l3 := h3.lt
  have q1 := h.wr
  have q2 := h.rb
  have hO := h.own.push h.lt hb2 hx he hb3 hown hg
  have hold : ∀ k, k < B + 1 → w4.heap[k]? = W3.heap[k]? := fun k hk => hg.block k (by omega) (row_lt h3.own.row hk)
  have hgg : w4.heap[B]? = some (.cells #[.string tag, u] 51) := (hold _ (by omega)).trans h3.g
  have hbb : Below w.heap.size W3 w4 := ⟨hg.os, hg.tape, hg.output, hg.size, fun k hk => hold k (by omega)⟩
  have hset : (w4.setCell ⟨B, 1, none⟩ u').heap[B]? = some (.cells #[.string tag, u'] 51) := by
    have := heap_setCell_same w4 B 1 _ _ u' hgg
    simpa using this
  refine ⟨⟨by simp [World.cell?, hgg], by simp [World.frozen?, hgg]⟩, ?_, hset, hO.set (by omega) 1 u', (h3.bel.trans hbb).setCell (show w.heap.size ≤ B by omega) _, q1, q2⟩
  rw [Below.heap_setCell w4 ⟨B, 1, none⟩ u' R (show R ≠ B by omega)]
  exact (hold _ (by omega)).trans h3.r
set_option maxRecDepth 20000 in
set_option maxHeartbeats 4000000 in
theorem segmentBy_any (tag : ByteArray) (v : Value) (ws : List ByteArray) (w : World) (h : RowS w v ws) (hl : ws.length ≤ 10) (hz : ∀ t ∈ ws, t.size ≤ 1048576) :
    Calls Tryd.prog 58 #[.string tag, v] w fun e w' => ∃ u vals, e = .returned (.agg #[.string tag, u]) ∧ OwnV w.heap.size w' u vals (ws.map fun t => [t]) ∧ Below w.heap.size w w' := by
  obtain ⟨A, C, rfl⟩ := h.val
  have HR : Hid (RowS w (.slice A ws.length C) ws) := h
  clear h
  obtain ⟨j0, hj0i, hi0, hi1, hi2⟩ := info_parts infoElm
  go_enter Tryd.func58, Tryd.ntmps58
  go_wp2_with fail
  go_loopw [12] (fun i wr => ∃ (k : Nat) (u : Value) (vals : List Value), i = .int .i64 (k : Int) ∧ k ≤ ws.length ∧ GB w.heap.size (w.heap.size + 1) w wr tag u vals ((ws.take k).map fun t => [t])) (fun i _ => ws.length - (intOf i).toNat)
  case atStart =>
    have b0 : Below w.heap.size w ((w.alloc (.cells #[.string ⟨#[]⟩, .slice none 0 0] 51)).alloc (.cells #[.string tag, .slice none 0 0] 51)) := ((Below.refl _ _).alloc (Nat.le_refl _) _).alloc (by simp) _
    exact ⟨0, .slice none 0 0, [], rfl, by omega, ⟨(Below.heap_alloc _ _ _ (by simp)).trans (World.alloc_heap_new w _), heap_new2 w _ _, ⟨rfl, World.ownsRow_nil _ _ _ _, fun i u e hu => by simp at hu, fun i j u x _ hu => by simp at hu⟩, b0, Nat.le_refl _, Nat.lt_succ_self _⟩⟩
  case round =>
    obtain ⟨k, u, vals, rfl, hk, hG⟩ := hrel
    obtain ⟨Au, Nu, Cu, hu⟩ := row_slice hG.own.row
    subst hu
    obtain ⟨c0, c1⟩ := hG.cells
    have hlw := hG.lt
    by_cases hlt : k < ws.length
    · have hlt' : (k : Int) < (ws.length : Int) := by omega
      obtain ⟨b, o, cap', t, e, hs, hc, hsz⟩ := (HR.out.below hG.bel).at hlt
      simp only [Value.slice.injEq, true_and] at e
      obtain ⟨rfl, rfl⟩ := e
      have htz := hz t (List.mem_of_getElem? hs)
      have hel : ((ws.take k).map fun t => [t]).length = k := by rw [List.length_map, List.length_take]; omega
      have hNu : Nu = k := by have := row_n' hG.own.row; omega
      subst hNu
      have hmx : Nu + 1 ≤ maxLen := by unfold maxLen; omega
      have HG : Hid (GB w.heap.size (w.heap.size + 1) w wr tag (.slice Au Nu Cu) vals ((ws.take Nu).map fun t => [t]) ∧ ws[Nu]? = some t) := ⟨hG, hs⟩
      clear hG hs
      go_wp2_with fail
      go_region_law (first | (go_simp; go_at_call 50; refine (clone_any t _ (by omega)).mono ?_; rintro e w1 ⟨rfl, hb⟩; have hb1 : Below wr.heap.size wr w1 := (by first | exact hb | exact (Below.refl _ _).drew.trans hb); clear hb; have H1 := HG.out.1.below hb1; obtain ⟨d0, d1⟩ := H1.cells; have H1a := H1.below ((Below.refl _ w1).alloc (Nat.le_refl _) (.cells #[.string t] 9)); obtain ⟨d2, d3⟩ := H1a.cells; clear H1 H1a; try dsimp only) | (go_simp; go_at_call 82; refine (elementBy_any _ [t] _ (by first | exact row1 w1 t (by omega) | exact (row1 w1 t (by omega)).below (Below.refl _ _).drew) (by simp) (by simp)).mono ?_; rintro e w2 ⟨x2, rfl, hx2, hb⟩; obtain ⟨Ax, Nx, Cx, hxx⟩ := row_slice hx2; subst hxx; have hw2 : Below wr.heap.size wr w2 := (hb1.trans ((((Below.refl _ w1).alloc (Nat.le_refl _) (.cells #[.string t] 9)).trans ((by first | exact hb | exact (Below.refl _ _).drew.trans hb : Below (w1.alloc (.cells #[.string t] 9)).heap.size (w1.alloc (.cells #[.string t] 9)) w2).mono (by simp))).mono hb1.size)); have H2 : Hid (Below wr.heap.size wr w2 ∧ w2.ownsRow wr.heap.size 9 1 (.slice Ax Nx Cx) 1 [.string t]) := ⟨hw2, row_mono hx2 (Nat.le_trans hb1.size (by simp))⟩; have G2 := HG.out.1.below hw2; obtain ⟨f0, f1⟩ := G2.cells; have G2a := G2.below ((Below.refl _ w2).alloc (Nat.le_refl _) (.cells #[.slice Ax Nx Cx] 96)); obtain ⟨f2, f3⟩ := G2a.cells; have rowN : (w2.alloc (.cells #[.slice Ax Nx Cx] 96)).ownsRow (w.heap.size + 1 + 1) 96 1 (.slice Au Nu Cu) Nu vals := (by have := G2a.own.row; rwa [hel] at this); have l2 := G2.lt; clear hb hx2 hw2 G2 G2a; try dsimp only) | (refine step_append_lies _ (by rfl) _ _ _ (by rfl) (w.heap.size + 1 + 1) 96 j0 _ 1 24 Tryd.underlying49 hj0i hi0 hi1 hi2 rfl (by omega) (.slice Au Nu Cu) Nu vals (by rfl) (by first | exact rowN | exact rowN.drew) ⟨w2.heap.size, 0, none⟩ 1 1 [.slice Ax Nx Cx] (by rfl) (by rfl) (World.news_of_block (cs := #[.slice Ax Nx Cx]) (t := 96) (fr := (0, 0)) (by first | exact World.alloc_heap_new w2 _)) (by simp [Value.oneCell']) (by omega) hmx (by omega) (by simp; omega) (w2.heap.size + 1) (by simp) ?_; intro gg cap w4 hown4 hgrow hat4 hlt4; obtain ⟨⟨z0, z1⟩, hG4⟩ := HG.out.1.push (x := .slice Ax Nx Cx) (e := [t]) (W3 := w2.alloc (.cells #[.slice Ax Nx Cx] 96)) H2.out.1 (by simpa using H2.out.2) (by simp) ((Below.refl _ _).alloc (Nat.le_refl _) _) (by rw [hel]; exact hown4) (by first | exact hgrow | exact World.grownBy_undrew hgrow); have l4 : w.heap.size + 1 < w4.heap.size := cell_lt z0; have HG4 : Hid (GB w.heap.size (w.heap.size + 1) w (w4.setCell ⟨w.heap.size + 1, 1, none⟩ (.slice (some ⟨gg, 0, none⟩) (Nu + 1) cap)) tag (.slice (some ⟨gg, 0, none⟩) (Nu + 1) cap) (vals ++ [.slice Ax Nx Cx]) ((ws.take Nu).map (fun t => [t]) ++ [[t]])) := hG4; clear hown4 hgrow hat4 hG4; try dsimp only))
      all_goals
        go_wp2
        go_roundw
        case rel =>
          refine ⟨Nu + 1, .slice (some ⟨gg, 0, none⟩) (Nu + 1) cap, vals ++ [.slice Ax Nx Cx], by go_num, by omega, ?_⟩
          have e1 : (ws.take (Nu + 1)).map (fun t => [t]) = (ws.take Nu).map (fun t => [t]) ++ [[t]] := by
            rw [List.take_add_one, HG.out.2]
            simp
          rw [e1]
          exact HG4.out
        case measure => simp [intOf]; omega
    · obtain rfl : k = ws.length := by omega
      have hr := hG.r
      have r0 : wr.cell? ⟨w.heap.size, 0, none⟩ = some (.string ⟨#[]⟩) := by simp [World.cell?, hr]
      have r1 : wr.cell? ⟨w.heap.size, 1, none⟩ = some (.slice none 0 0) := by simp [World.cell?, hr]
      have rz : ∀ o, wr.frozen? ⟨w.heap.size, o, none⟩ = false := fun o => by simp [World.frozen?, hr]
      have hO := hG.own
      rw [List.take_length] at hO
      have HF : Hid (OwnV (w.heap.size + 1 + 1) wr (.slice Au Nu Cu) vals (ws.map fun t => [t]) ∧ Below w.heap.size w wr) := ⟨hO, hG.bel⟩
      clear hG hr hO
      go_wp2
      exact bodyPost_ret (v := .agg #[.string tag, .slice Au Nu Cu]) (by simp [results, Tryd.results58, go_sem, r0, r1]) rfl ⟨_, vals, rfl, ((HF.out.1.set (by omega) _ _).set (by omega) _ _).mono (by omega), (HF.out.2.setCell (Nat.le_refl _) _).setCell (Nat.le_refl _) _⟩
set_option maxRecDepth 20000 in
set_option maxHeartbeats 4000000 in
theorem copySeg_any (tag : ByteArray) (v : Value) (es : List (List ByteArray)) (w : World) (h : RowE w v es) (hl : es.length ≤ 10) (ht : tag.size ≤ 1048576) (hz : ∀ e ∈ es, 0 < e.length ∧ e.length ≤ 4 ∧ ∀ t ∈ e, t.size ≤ 40) :
    Calls Tryd.prog 101 #[.agg #[.string tag, v]] w fun e w' => ∃ u vals, e = .returned (.agg #[.string tag, u]) ∧ OwnV w.heap.size w' u vals es ∧ Below w.heap.size w w' := by
  obtain ⟨A, C, rfl⟩ := h.val
  obtain ⟨j0, hj0i, hi0, hi1, hi2⟩ := info_parts infoElm
  have bx : Below w.heap.size w (w.alloc (.cells #[.string tag, .slice A es.length C] 51)) := (Below.refl _ _).alloc (Nat.le_refl _) _
  have hx0 : (w.alloc (.cells #[.string tag, .slice A es.length C] 51)).cell? ⟨w.heap.size, 0, none⟩ = some (.string tag) := by simp [go_sem]
  have hx1 : (w.alloc (.cells #[.string tag, .slice A es.length C] 51)).cell? ⟨w.heap.size, 1, none⟩ = some (.slice A es.length C) := by simp [go_sem]
  have hxs : (w.alloc (.cells #[.string tag, .slice A es.length C] 51)).heap.size = w.heap.size + 1 := by simp
  have HR : Hid (RowE (w.alloc (.cells #[.string tag, .slice A es.length C] 51)) (.slice A es.length C) es ∧ Below w.heap.size w (w.alloc (.cells #[.string tag, .slice A es.length C] 51))) := ⟨h.below bx, bx⟩
  clear h bx
  go_enter Tryd.func101, Tryd.ntmps101
  go_wp2_with fail
  generalize (w.alloc (.cells #[.string tag, .slice A es.length C] 51)) = W0 at *
  refine (clone_any tag _ (by omega)).mono ?_
  rintro e w1 ⟨rfl, hb1⟩
  have z1 := hb1.size
  have bR : Below W0.heap.size W0 (W0.alloc (.cells #[.string ⟨#[]⟩, .slice none 0 0] 51)) := (Below.refl _ _).alloc (Nat.le_refl _) _
  have hw1 : Below W0.heap.size W0 w1 := bR.trans (hb1.mono (by simp))
  have bG : Below w1.heap.size w1 (w1.alloc (.cells #[.string tag, .slice none 0 0] 51)) := (Below.refl _ _).alloc (Nat.le_refl _) _
  have hr1 : w1.heap[W0.heap.size]? = some (.cells #[.string ⟨#[]⟩, .slice none 0 0] 51) := (hb1.block W0.heap.size (by simp)).trans (World.alloc_heap_new W0 _)
  have hGB : GB W0.heap.size w1.heap.size W0 (w1.alloc (.cells #[.string tag, .slice none 0 0] 51)) tag (.slice none 0 0) [] [] := ⟨(Below.heap_alloc _ _ _ (Array.getElem?_eq_some_iff.1 hr1).1).trans hr1, World.alloc_heap_new w1 _, ⟨rfl, World.ownsRow_nil _ _ _ _, fun i u e hu => by simp at hu, fun i j u x _ hu => by simp at hu⟩, hw1.trans (bG.mono hw1.size), Nat.le_refl _, by have := z1; simp at this; omega⟩
  have HGB : Hid (GB W0.heap.size w1.heap.size W0 (w1.alloc (.cells #[.string tag, .slice none 0 0] 51)) tag (.slice none 0 0) [] []) := hGB
  have x1a := ((hw1.trans (bG.mono hw1.size)).cell (cell_lt hx1)).trans hx1
  clear hb1 bR hw1 bG hr1 hGB
  rw [hxs] at *
  go_wp2_with fail
  go_loopw [16] (fun i wr => ∃ (k : Nat) (u : Value) (vals : List Value), i = .int .i64 (k : Int) ∧ k ≤ es.length ∧ GB (w.heap.size + 1) w1.heap.size W0 wr tag u vals (es.take k)) (fun i _ => es.length - (intOf i).toNat)
  case atStart => exact ⟨0, .slice none 0 0, [], rfl, by omega, HGB.out⟩
  case round =>
    obtain ⟨k, u, vals, rfl, hk, hG⟩ := hrel
    obtain ⟨Au, Nu, Cu, hu⟩ := row_slice hG.own.row
    subst hu
    obtain ⟨c0, c1⟩ := hG.cells
    have hlw := hG.lt
    by_cases hlt : k < es.length
    · have hlt' : (k : Int) < (es.length : Int) := by omega
      obtain ⟨b, o, cap', ss, ue, e, hs, hc, hE⟩ := (HR.out.1.below (hG.bel.mono (by omega))).at hlt
      simp only [Value.slice.injEq, true_and] at e
      obtain ⟨rfl, rfl⟩ := e
      obtain ⟨hz0, hz1, hz2⟩ := hz ss (List.mem_of_getElem? hs)
      obtain ⟨ne, ce, rfl⟩ := hE.val
      have hel : (es.take k).length = k := by rw [List.length_take]; omega
      have hNu : Nu = k := by have := row_n' hG.own.row; omega
      subst hNu
      have hmx : Nu + 1 ≤ maxLen := by unfold maxLen; omega
      have bE : Below wr.heap.size wr (wr.alloc (.cells #[.slice ne ss.length ce] 96)) := (Below.refl _ _).alloc (Nat.le_refl _) _
      have HG : Hid (GB (w.heap.size + 1) w1.heap.size W0 wr tag (.slice Au Nu Cu) vals (es.take Nu) ∧ es[Nu]? = some ss ∧ RowS (wr.alloc (.cells #[.slice ne ss.length ce] 96)) (.slice ne ss.length ce) ss ∧ Below wr.heap.size wr (wr.alloc (.cells #[.slice ne ss.length ce] 96))) := ⟨hG, hs, hE.below bE, bE⟩
      have ec : (wr.alloc (.cells #[.slice ne ss.length ce] 96)).cell? ⟨wr.heap.size, 0, none⟩ = some (.slice ne ss.length ce) := by simp [go_sem]
      clear hG hs hE bE
      go_wp2_with fail
      generalize hWE : (wr.alloc (.cells #[.slice ne ss.length ce] 96)) = WE at *
      clear hWE
      generalize hwo : wr = wo at *
      clear hwo
      obtain ⟨i0, hs0i, hs0, hs1, hs2⟩ := info_parts infoStr
      go_loopw [6, 23] (fun pv i wr => ∃ (j : Nat), i = .int .i64 (j : Int) ∧ j ≤ ss.length ∧ wr.ownsRow WE.heap.size 9 1 pv j ((ss.take j).map Value.string) ∧ Below WE.heap.size WE wr) (fun _ i _ => ss.length - (intOf i).toNat)
      case atStart => exact ⟨0, rfl, by omega, World.ownsRow_nil _ _ _ _, Below.refl _ _⟩
      case round =>
        obtain ⟨j, rfl, hj, hrow, hb⟩ := hrel
        obtain ⟨Ap, Np, Cp, hpv⟩ := row_slice hrow
        subst hpv
        have hNp := row_n' hrow
        subst hNp
        by_cases hlj : Np < ss.length
        · have hlj' : (Np : Int) < (ss.length : Int) := by omega
          obtain ⟨bs, os, caps, t, e3, hst, hct, _⟩ := (HG.out.2.2.1.below hb).at hlj
          simp only [Value.slice.injEq, true_and] at e3
          obtain ⟨rfl, rfl⟩ := e3
          have htz := hz2 t (List.mem_of_getElem? hst)
          have HB : Hid (wr.ownsRow WE.heap.size 9 1 (.slice Ap Np Cp) Np ((ss.take Np).map Value.string) ∧ Below WE.heap.size WE wr ∧ ss[Np]? = some t) := ⟨hrow, hb, hst⟩
          have zw := hb.size
          clear hrow hb hst
          go_wp2_with fail
          refine (clone_any t _ (by omega)).mono ?_
          rintro e w2 ⟨rfl, hb2⟩
          have z2 := hb2.size
          have H2 : Hid (w2.ownsRow WE.heap.size 9 1 (.slice Ap Np Cp) Np ((ss.take Np).map Value.string) ∧ Below WE.heap.size WE w2) := ⟨row_keep HB.out.1 hb2, HB.out.2.1.trans (hb2.mono HB.out.2.1.size)⟩
          clear hb2
          have hmp : Np + 1 ≤ maxLen := by unfold maxLen; omega
          have tok1 : True := trivial
          go_wp2_with (at_builtin; have _t := tok1; refine wpList_append_own _ rfl _ _ 61 rfl WE.heap.size 9 i0 (.string ⟨#[]⟩) 1 16 Tryd.underlying61 hs0i hs0 hs1 hs2 rfl (by decide) _ _ _ rfl (H2.out.1.alloc _) ⟨_, 0, none⟩ 1 1 [.string t] rfl rfl (World.news_of_block (World.alloc_heap_new w2 _)) (by simp [Value.oneCell']) hmp (by omega) (by simp; omega) ?_; intro u' w4 hown' hgrow _; have HW4 : Hid (w4.ownsRow WE.heap.size 9 1 u' (Np + 1) ((ss.take (Np + 1)).map Value.string) ∧ Below WE.heap.size WE w4) := ⟨(by rw [List.take_add_one, HB.out.2.2]; simpa using hown'), ⟨hgrow.os.trans H2.out.2.os, hgrow.tape.trans H2.out.2.tape, hgrow.output.trans H2.out.2.output, Nat.le_trans H2.out.2.size (Nat.le_trans (by simp) hgrow.size), fun q hq => (hgrow.block q (by simp; omega) (row_lt H2.out.1 hq)).trans ((Below.heap_alloc _ _ _ (by omega)).trans (H2.out.2.block q hq))⟩⟩; clear tok1 hown' hgrow)
          go_roundw
          case rel => exact ⟨Np + 1, by go_num, by omega, HW4.out⟩
          case measure => simp [intOf]; omega
        · obtain rfl : Np = ss.length := by omega
          rw [List.take_length] at hrow
          have z3 := HG.out.2.2.2.size
          have zE := hb.size
          have hwE : Below wo.heap.size wo wr := HG.out.2.2.2.trans (hb.mono z3)
          have G3 := HG.out.1.below hwE
          obtain ⟨f0, f1⟩ := G3.cells
          have rowN : wr.ownsRow (w1.heap.size + 1) 96 1 (.slice Au Nu Cu) Nu vals := by have := G3.own.row; rwa [hel] at this
          have l3 := G3.lt
          have H3 : Hid (wr.ownsRow wo.heap.size 9 1 (.slice Ap ss.length Cp) ss.length (ss.map Value.string) ∧ Below wo.heap.size wo wr) := ⟨row_mono hrow z3, hwE⟩
          clear hrow hb hwE G3
          have tok1 : True := trivial
          go_wp2_with (at_builtin; have _t := tok1; refine wpList_append_own _ rfl _ _ 49 rfl (w1.heap.size + 1) 96 j0 (.agg #[.slice none 0 0]) 1 24 Tryd.underlying49 hj0i hi0 hi1 hi2 rfl (by decide) _ _ _ rfl (rowN.alloc _) ⟨_, 0, none⟩ 1 1 [.slice Ap ss.length Cp] rfl rfl (World.news_of_block (World.alloc_heap_new wr _)) (by simp [Value.oneCell']) hmx (by omega) (by simp; omega) ?_; intro u' w4 hown' hgrow _; obtain ⟨⟨z0, zf⟩, hG4⟩ := (HG.out.1.push (x := .slice Ap ss.length Cp) (e := ss) H3.out.2 H3.out.1 hz0 ((Below.refl _ _).alloc (Nat.le_refl _) _) (by rw [hel]; exact hown') hgrow); obtain ⟨A4, N4, C4, hu4⟩ := row_slice hown'; subst hu4; have HG4 : Hid (GB (w.heap.size + 1) w1.heap.size W0 (w4.setCell ⟨w1.heap.size, 1, none⟩ (.slice A4 N4 C4)) tag (.slice A4 N4 C4) (vals ++ [.slice Ap ss.length Cp]) (es.take Nu ++ [ss])) := hG4; have l4 := cell_lt z0; clear tok1 hown' hgrow hG4)
          go_roundw
          case rel =>
            refine ⟨Nu + 1, .slice A4 N4 C4, vals ++ [.slice Ap ss.length Cp], by go_num, by omega, ?_⟩
            have e1 : es.take (Nu + 1) = es.take Nu ++ [ss] := by
              rw [List.take_add_one, HG.out.2.1]
              rfl
            rw [e1]
            exact HG4.out
          case measure => simp [intOf]; omega
    · obtain rfl : k = es.length := by omega
      have hr := hG.r
      have r0 : wr.cell? ⟨w.heap.size + 1, 0, none⟩ = some (.string ⟨#[]⟩) := by simp [World.cell?, hr]
      have r1 : wr.cell? ⟨w.heap.size + 1, 1, none⟩ = some (.slice none 0 0) := by simp [World.cell?, hr]
      have rz : ∀ o, wr.frozen? ⟨w.heap.size + 1, o, none⟩ = false := fun o => by simp [World.frozen?, hr]
      have hO := hG.own
      rw [List.take_length] at hO
      have q2 := hG.rb
      have HF : Hid (OwnV (w1.heap.size + 1) wr (.slice Au Nu Cu) vals es ∧ Below w.heap.size w wr) := ⟨hO, HR.out.2.trans (hG.bel.mono HR.out.2.size)⟩
      clear hG hr hO
      go_wp2
      exact bodyPost_ret (v := .agg #[.string tag, .slice Au Nu Cu]) (by simp [results, Tryd.results101, go_sem, r0, r1]) rfl ⟨_, vals, rfl, ((HF.out.1.set (by omega) _ _).set (by omega) _ _).mono (by omega), (HF.out.2.setCell (show w.heap.size ≤ w.heap.size + 1 by omega) _).setCell (show w.heap.size ≤ w.heap.size + 1 by omega) _⟩
end Go.Proofs.YtmnfijgmfedpmaaDoor
