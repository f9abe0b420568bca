/- Texts of ours put together: IxU. -/
import Derived.Test.YtjnikogaleofaaaDoorG43
import Derived.Test.YtjnikogaleofaaaDoorG32
namespace Go.Proofs.YtjnikogaleofaaaDoor
open Go.ChangeShapes Go.WideShapes Go.ChangeAt Go.RowKit
set_option maxRecDepth 20000 in
set_option maxHeartbeats 4000000 in
theorem l03Copy_any (tag : ByteArray) (v : Value) (es : List (List ByteArray)) (w : World) (h : RowE w v es) (hl : es.length ≤ 10) (hz : ∀ e ∈ es, 0 < e.length ∧ e.length ≤ 4 ∧ ∀ t ∈ e, t.size ≤ 40) :
    Calls Tryd.prog 19 #[.agg #[.string tag, v]] w fun e w' => ∃ u vals, e = .returned (.agg #[.string tag, u]) ∧ OwnV w.heap.size w' u vals es ∧ Below w.heap.size w w' := by
  obtain ⟨A, C, rfl⟩ := h.val
  obtain ⟨j0, hj0i, hi0, hi1, hi2⟩ := info_parts infoElm
  obtain ⟨i0, hs0i, hs0, hs1, hs2⟩ := info_parts infoStr
  have bx : Below w.heap.size w (w.alloc (.cells #[.string tag, .slice A es.length C] 33)) := (Below.refl _ _).alloc (Nat.le_refl _) _
  have hx1 : (w.alloc (.cells #[.string tag, .slice A es.length C] 33)).cell? ⟨w.heap.size, 1, none⟩ = some (.slice A es.length C) := by simp [go_sem]
  have HR : Hid (RowE (w.alloc (.cells #[.string tag, .slice A es.length C] 33)) (.slice A es.length C) es ∧ Below w.heap.size w (w.alloc (.cells #[.string tag, .slice A es.length C] 33))) := ⟨h.below bx, bx⟩
  have hGB : GB (w.heap.size + 1) (w.heap.size + 1 + 1) (w.alloc (.cells #[.string tag, .slice A es.length C] 33)) (((w.alloc (.cells #[.string tag, .slice A es.length C] 33)).alloc (.cells #[.string ⟨#[]⟩, .slice none 0 0] 33)).alloc (.cells #[.string tag, .slice none 0 0] 33)) tag (.slice none 0 0) [] [] := by
    refine ⟨?_, ?_, ⟨rfl, World.ownsRow_nil _ _ _ _, fun i u e hu => by simp at hu, fun i j u x _ hu => by simp at hu⟩, ((Below.refl _ _).alloc (Nat.le_refl _) _).alloc (by simp) _, by simp, by omega⟩
    · rw [Below.heap_alloc _ _ _ (by simp)]
      exact heap_new2 w _ _
    · have := heap_new2 (w.alloc (.cells #[.string tag, .slice A es.length C] 33)) (.cells #[.string ⟨#[]⟩, .slice none 0 0] 33) (.cells #[.string tag, .slice none 0 0] 33)
      simpa using this
  have HGB : Hid (GB (w.heap.size + 1) (w.heap.size + 1 + 1) (w.alloc (.cells #[.string tag, .slice A es.length C] 33)) (((w.alloc (.cells #[.string tag, .slice A es.length C] 33)).alloc (.cells #[.string ⟨#[]⟩, .slice none 0 0] 33)).alloc (.cells #[.string tag, .slice none 0 0] 33)) tag (.slice none 0 0) [] []) := hGB
  clear h bx hGB
  go_enter Tryd.func19, Tryd.ntmps19
  go_wp2_with fail
  generalize (((w.alloc (.cells #[.string tag, .slice A es.length C] 33)).alloc (.cells #[.string ⟨#[]⟩, .slice none 0 0] 33)).alloc (.cells #[.string tag, .slice none 0 0] 33)) = W1 at *
  generalize (w.alloc (.cells #[.string tag, .slice A es.length C] 33)) = W0 at *
  go_loopw [4] (fun i wr => ∃ (k : Nat) (u : Value) (vals : List Value), i = .int .i64 (k : Int) ∧ k ≤ es.length ∧ GB (w.heap.size + 1) (w.heap.size + 1 + 1) W0 wr tag u vals (es.take k)) (fun i _ => es.length - (intOf i).toNat)
  case atStart => exact ⟨0, .slice none 0 0, [], rfl, by omega, HGB.out⟩
  case round =>
    obtain ⟨k, u, vals, rfl, hk, hG⟩ := hrel
    obtain ⟨Au, Nu, Cu, hu⟩ := row_slice hG.own.row
    subst hu
    obtain ⟨c0, c1⟩ := hG.cells
    have hlw := hG.lt
    have g1 := (hG.bel.cell (cell_lt hx1)).trans hx1
    by_cases hlt : k < es.length
    · have hlt' : (k : Int) < (es.length : Int) := by omega
      obtain ⟨b, o, cap', ss, ue, e, hs, hc, hE⟩ := (HR.out.1.below hG.bel).at hlt
      simp only [Value.slice.injEq, true_and] at e
      obtain ⟨rfl, rfl⟩ := e
      obtain ⟨hz0, hz1, hz2⟩ := hz ss (List.mem_of_getElem? hs)
      obtain ⟨bs, os, cs, s0, ev, hs0', _, _⟩ := hE.at (k := 0) hz0
      subst ev
      have hel : (es.take k).length = k := by rw [List.length_take]; omega
      have hNu : Nu = k := by have := row_n' hG.own.row; omega
      subst hNu
      have hmx : Nu + 1 ≤ maxLen := by unfold maxLen; omega
      have hms : 0 + ss.length ≤ maxLen := by unfold maxLen; omega
      have bA : Below wr.heap.size wr (wr.alloc (.cells #[] 9)) := (Below.refl _ _).alloc (Nat.le_refl _) _
      have GA := hG.below bA
      obtain ⟨d0, d1⟩ := GA.cells
      have gA1 := (bA.cell (cell_lt g1)).trans g1
      have hcA := (bA.cell (cell_lt hc)).trans hc
      have HG : Hid (GB (w.heap.size + 1) (w.heap.size + 1 + 1) W0 wr tag (.slice Au Nu Cu) vals (es.take Nu) ∧ es[Nu]? = some ss ∧ RowS (wr.alloc (.cells #[] 9)) (.slice (some ⟨bs, os, none⟩) ss.length cs) ss ∧ Below wr.heap.size wr (wr.alloc (.cells #[] 9)) ∧ (wr.alloc (.cells #[] 9)).ownsRow wr.heap.size 9 1 (.slice (some ⟨wr.heap.size, 0, none⟩) 0 0) 0 []) := ⟨hG, hs, hE.below bA, bA, ⟨rfl, .inr ⟨wr.heap.size, 0, #[], rfl, Nat.le_refl _, World.alloc_heap_new wr _, Nat.le_refl _, Nat.zero_le _, rfl, rfl⟩⟩⟩
      clear hG hs hE bA GA
      go_wp2_with fail
      go_region_law (first | (have _t1 := @tokA; refine step_append_lies _ (by rfl) _ _ _ (by rfl) (w.heap.size + 1 + 1 + 1) 36 j0 _ 1 24 Tryd.underlying31 hj0i hi0 hi1 hi2 rfl (by omega) (.slice Au Nu Cu) Nu vals (by rfl) rowN ⟨w2.heap.size, 0, none⟩ 1 1 [.slice (some ⟨gs, 0, none⟩) ss.length caps] (by rfl) (by rfl) (World.news_of_block (cs := #[.slice (some ⟨gs, 0, none⟩) ss.length caps]) (t := 36) (fr := (0, 0)) (World.alloc_heap_new w2 _)) (by simp [Value.oneCell']) (by omega) hmx (by omega) (by simp; omega) (w2.heap.size + 1) (by simp) ?_; intro gg cap w4 hown4 hgrow hat4 hlt4; obtain ⟨⟨z0, z1⟩, hG4⟩ := HG.out.1.push (x := .slice (some ⟨gs, 0, none⟩) ss.length caps) (e := ss) (W2 := w2) (W3 := w2.alloc (.cells #[.slice (some ⟨gs, 0, none⟩) ss.length caps] 36)) H2.out.1 H2.out.2 hz0 ((Below.refl _ _).alloc (Nat.le_refl _) _) (by rw [hel]; exact hown4) hgrow; have l4 : w.heap.size + 1 + 1 < w4.heap.size := cell_lt z0; have HG4 : Hid (GB (w.heap.size + 1) (w.heap.size + 1 + 1) W0 (w4.setCell ⟨w.heap.size + 1 + 1, 1, none⟩ (.slice (some ⟨gg, 0, none⟩) (Nu + 1) cap)) tag (.slice (some ⟨gg, 0, none⟩) (Nu + 1) cap) (vals ++ [.slice (some ⟨gs, 0, none⟩) ss.length caps]) (es.take Nu ++ [ss])) := hG4; clear hown4 hgrow hat4 hG4; try dsimp only) | (refine step_append_lies _ (by rfl) _ _ _ (by rfl) wr.heap.size 9 i0 _ 1 16 Tryd.underlying34 hs0i hs0 hs1 hs2 rfl (by omega) (.slice (some ⟨wr.heap.size, 0, none⟩) 0 0) 0 [] (by rfl) (by first | exact HG.out.2.2.2.2 | exact HG.out.2.2.2.2.drew) ⟨bs, os, none⟩ ss.length cs (ss.map Value.string) (by rfl) (by simp) (by first | exact newsS HG.out.2.2.1 | exact newsS (HG.out.2.2.1.below (Below.refl _ _).drew)) (by intro u hu; rw [List.mem_map] at hu; obtain ⟨s, _, rfl⟩ := hu; simp [Value.oneCell']) (by omega) hms (by omega) (by simp) (wr.heap.size + 1) (by simp) ?_; intro gs caps w2 hown2 hgrow2 hat2 hlt2; simp only [Nat.zero_add, List.nil_append] at hown2; have tokA : True := trivial; have hbw : Below wr.heap.size wr w2 := (HG.out.2.2.2.1.trans ⟨hgrow2.os, hgrow2.tape, hgrow2.output, Nat.le_trans (by simp) hgrow2.size, fun q hq => hgrow2.block q (by simp; omega) (by simp [Value.ownBlock]; omega)⟩); have H2 : Hid (Below wr.heap.size wr w2 ∧ w2.ownsRow wr.heap.size 9 1 (.slice (some ⟨gs, 0, none⟩) ss.length caps) ss.length (ss.map Value.string)) := ⟨hbw, hown2⟩; have G2 := HG.out.1.below hbw; obtain ⟨f0, f1⟩ := G2.cells; have G2a := G2.below ((Below.refl _ w2).alloc (Nat.le_refl _) (.cells #[.slice (some ⟨gs, 0, none⟩) ss.length caps] 36)); obtain ⟨f2, f3⟩ := G2a.cells; have rowN : (w2.alloc (.cells #[.slice (some ⟨gs, 0, none⟩) ss.length caps] 36)).ownsRow (w.heap.size + 1 + 1 + 1) 36 1 (.slice Au Nu Cu) Nu vals := (by have := G2a.own.row; rwa [hel] at this); have l2 := G2.lt; clear hbw hown2 hgrow2 hat2 G2 G2a; try dsimp only))
      all_goals
        go_wp2
        go_roundw
        case rel =>
          refine ⟨Nu + 1, .slice (some ⟨gg, 0, none⟩) (Nu + 1) cap, vals ++ [.slice (some ⟨gs, 0, none⟩) ss.length caps], by go_num, by omega, ?_⟩
          have e1 : es.take (Nu + 1) = es.take Nu ++ [ss] := by
            rw [List.take_add_one, HG.out.2.1]
            rfl
          rw [e1]
          exact HG4.out
        case measure => simp [intOf]; omega
    · obtain rfl : k = es.length := by omega
      have hr := hG.r
      have r0 : wr.cell? ⟨w.heap.size + 1, 0, none⟩ = some (.string ⟨#[]⟩) := by simp [World.cell?, hr]
      have r1 : wr.cell? ⟨w.heap.size + 1, 1, none⟩ = some (.slice none 0 0) := by simp [World.cell?, hr]
      have rz : ∀ o, wr.frozen? ⟨w.heap.size + 1, o, none⟩ = false := fun o => by simp [World.frozen?, hr]
      have hO := hG.own
      rw [List.take_length] at hO
      have HF : Hid (OwnV (w.heap.size + 1 + 1 + 1) wr (.slice Au Nu Cu) vals es ∧ Below w.heap.size w wr) := ⟨hO, HR.out.2.trans (hG.bel.mono HR.out.2.size)⟩
      clear hG hr hO
      go_wp2
      exact bodyPost_ret (v := .agg #[.string tag, .slice Au Nu Cu]) (by simp [results, Tryd.results19, go_sem, r0, r1]) rfl ⟨_, vals, rfl, ((HF.out.1.set (by omega) _ _).set (by omega) _ _).mono (by omega), (HF.out.2.setCell (show w.heap.size ≤ w.heap.size + 1 by omega) _).setCell (show w.heap.size ≤ w.heap.size + 1 by omega) _⟩
end Go.Proofs.YtjnikogaleofaaaDoor
