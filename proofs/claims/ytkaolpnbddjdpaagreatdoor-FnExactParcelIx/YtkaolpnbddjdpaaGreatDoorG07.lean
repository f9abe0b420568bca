/- Texts of ours put together: SegBy. -/
import Derived.Test.YtkaolpnbddjdpaaGreatDoorG06
import Derived.Deep.RegionHeld3
import Derived.Deep.RegionLaw
import Derived.Deep.AppendLies
namespace Go.Proofs.YtkaolpnbddjdpaaGreatDoor
open Go.ChangeShapes Go.WideShapes Go.ChangeAt Go.RowKit
set_option maxRecDepth 20000 in
set_option maxHeartbeats 4000000 in
theorem segmentBy_any (tag : ByteArray) (v : Value) (ws : List ByteArray) (w : World) (h : RowS w v ws) (hl : ws.length ≤ 10) (hz : ∀ t ∈ ws, t.size ≤ 1048576) :
    Calls Tryz.prog 108 #[.string tag, v] w fun e w' => ∃ u vals, e = .returned (.agg #[.string tag, u]) ∧ OwnV w.heap.size w' u vals (ws.map fun t => [t]) ∧ Below w.heap.size w w' := by
  obtain ⟨A, C, rfl⟩ := h.val
  have HR : Hid (RowS w (.slice A ws.length C) ws) := h
  clear h
  obtain ⟨j0, hj0i, hi0, hi1, hi2⟩ := info_parts infoElm
  go_enter Tryz.func108, Tryz.ntmps108
  go_wp2_with fail
  go_loopw [12] (fun i wr => ∃ (k : Nat) (u : Value) (vals : List Value), i = .int .i64 (k : Int) ∧ k ≤ ws.length ∧ GB w.heap.size (w.heap.size + 1) w wr tag u vals ((ws.take k).map fun t => [t])) (fun i _ => ws.length - (intOf i).toNat)
  case atStart =>
    have b0 : Below w.heap.size w ((w.alloc (.cells #[.string ⟨#[]⟩, .slice none 0 0] 90)).alloc (.cells #[.string tag, .slice none 0 0] 90)) := ((Below.refl _ _).alloc (Nat.le_refl _) _).alloc (by simp) _
    exact ⟨0, .slice none 0 0, [], rfl, by omega, ⟨(Below.heap_alloc _ _ _ (by simp)).trans (World.alloc_heap_new w _), heap_new2 w _ _, ⟨rfl, World.ownsRow_nil _ _ _ _, fun i u e hu => by simp at hu, fun i j u x _ hu => by simp at hu⟩, b0, Nat.le_refl _, Nat.lt_succ_self _⟩⟩
  case round =>
    obtain ⟨k, u, vals, rfl, hk, hG⟩ := hrel
    obtain ⟨Au, Nu, Cu, hu⟩ := row_slice hG.own.row
    subst hu
    obtain ⟨c0, c1⟩ := hG.cells
    have hlw := hG.lt
    by_cases hlt : k < ws.length
    · have hlt' : (k : Int) < (ws.length : Int) := by omega
      obtain ⟨b, o, cap', t, e, hs, hc, hsz⟩ := (HR.out.below hG.bel).at hlt
      simp only [Value.slice.injEq, true_and] at e
      obtain ⟨rfl, rfl⟩ := e
      have htz := hz t (List.mem_of_getElem? hs)
      have hel : ((ws.take k).map fun t => [t]).length = k := by rw [List.length_map, List.length_take]; omega
      have hNu : Nu = k := by have := row_n' hG.own.row; omega
      subst hNu
      have hmx : Nu + 1 ≤ maxLen := by unfold maxLen; omega
      have HG : Hid (GB w.heap.size (w.heap.size + 1) w wr tag (.slice Au Nu Cu) vals ((ws.take Nu).map fun t => [t]) ∧ ws[Nu]? = some t) := ⟨hG, hs⟩
      clear hG hs
      go_wp2_with fail
      go_region_law (first | (go_simp; go_at_call 84; refine (clone_any t _ (by omega)).mono ?_; rintro e w1 ⟨rfl, hb⟩; have hb1 : Below wr.heap.size wr w1 := (by first | exact hb | exact (Below.refl _ _).drew.trans hb); clear hb; have H1 := HG.out.1.below hb1; obtain ⟨d0, d1⟩ := H1.cells; have H1a := H1.below ((Below.refl _ w1).alloc (Nat.le_refl _) (.cells #[.string t] 9)); obtain ⟨d2, d3⟩ := H1a.cells; clear H1 H1a; try dsimp only) | (go_simp; go_at_call 144; refine (elementBy_any _ [t] _ (by first | exact row1 w1 t (by omega) | exact (row1 w1 t (by omega)).below (Below.refl _ _).drew) (by simp) (by simp)).mono ?_; rintro e w2 ⟨x2, rfl, hx2, hb⟩; obtain ⟨Ax, Nx, Cx, hxx⟩ := row_slice hx2; subst hxx; have hw2 : Below wr.heap.size wr w2 := (hb1.trans ((((Below.refl _ w1).alloc (Nat.le_refl _) (.cells #[.string t] 9)).trans ((by first | exact hb | exact (Below.refl _ _).drew.trans hb : Below (w1.alloc (.cells #[.string t] 9)).heap.size (w1.alloc (.cells #[.string t] 9)) w2).mono (by simp))).mono hb1.size)); have H2 : Hid (Below wr.heap.size wr w2 ∧ w2.ownsRow wr.heap.size 9 1 (.slice Ax Nx Cx) 1 [.string t]) := ⟨hw2, row_mono hx2 (Nat.le_trans hb1.size (by simp))⟩; have G2 := HG.out.1.below hw2; obtain ⟨f0, f1⟩ := G2.cells; have G2a := G2.below ((Below.refl _ w2).alloc (Nat.le_refl _) (.cells #[.slice Ax Nx Cx] 141)); obtain ⟨f2, f3⟩ := G2a.cells; have rowN : (w2.alloc (.cells #[.slice Ax Nx Cx] 141)).ownsRow (w.heap.size + 1 + 1) 141 1 (.slice Au Nu Cu) Nu vals := (by have := G2a.own.row; rwa [hel] at this); have l2 := G2.lt; clear hb hx2 hw2 G2 G2a; try dsimp only) | (refine step_append_lies _ (by rfl) _ _ _ (by rfl) (w.heap.size + 1 + 1) 141 j0 _ 1 24 Tryz.underlying88 hj0i hi0 hi1 hi2 rfl (by omega) (.slice Au Nu Cu) Nu vals (by rfl) (by first | exact rowN | exact rowN.drew) ⟨w2.heap.size, 0, none⟩ 1 1 [.slice Ax Nx Cx] (by rfl) (by rfl) (World.news_of_block (cs := #[.slice Ax Nx Cx]) (t := 141) (fr := (0, 0)) (by first | exact World.alloc_heap_new w2 _)) (by simp [Value.oneCell']) (by omega) hmx (by omega) (by simp; omega) (w2.heap.size + 1) (by simp) ?_; intro gg cap w4 hown4 hgrow hat4 hlt4; obtain ⟨⟨z0, z1⟩, hG4⟩ := HG.out.1.push (x := .slice Ax Nx Cx) (e := [t]) (W3 := w2.alloc (.cells #[.slice Ax Nx Cx] 141)) H2.out.1 (by simpa using H2.out.2) (by simp) ((Below.refl _ _).alloc (Nat.le_refl _) _) (by rw [hel]; exact hown4) (by first | exact hgrow | exact World.grownBy_undrew hgrow); have l4 : w.heap.size + 1 < w4.heap.size := cell_lt z0; have HG4 : Hid (GB w.heap.size (w.heap.size + 1) w (w4.setCell ⟨w.heap.size + 1, 1, none⟩ (.slice (some ⟨gg, 0, none⟩) (Nu + 1) cap)) tag (.slice (some ⟨gg, 0, none⟩) (Nu + 1) cap) (vals ++ [.slice Ax Nx Cx]) ((ws.take Nu).map (fun t => [t]) ++ [[t]])) := hG4; clear hown4 hgrow hat4 hG4; try dsimp only))
      all_goals
        go_wp2
        go_roundw
        case rel =>
          refine ⟨Nu + 1, .slice (some ⟨gg, 0, none⟩) (Nu + 1) cap, vals ++ [.slice Ax Nx Cx], by go_num, by omega, ?_⟩
          have e1 : (ws.take (Nu + 1)).map (fun t => [t]) = (ws.take Nu).map (fun t => [t]) ++ [[t]] := by
            rw [List.take_add_one, HG.out.2]
            simp
          rw [e1]
          exact HG4.out
        case measure => simp [intOf]; omega
    · obtain rfl : k = ws.length := by omega
      have hr := hG.r
      have r0 : wr.cell? ⟨w.heap.size, 0, none⟩ = some (.string ⟨#[]⟩) := by simp [World.cell?, hr]
      have r1 : wr.cell? ⟨w.heap.size, 1, none⟩ = some (.slice none 0 0) := by simp [World.cell?, hr]
      have rz : ∀ o, wr.frozen? ⟨w.heap.size, o, none⟩ = false := fun o => by simp [World.frozen?, hr]
      have hO := hG.own
      rw [List.take_length] at hO
      have HF : Hid (OwnV (w.heap.size + 1 + 1) wr (.slice Au Nu Cu) vals (ws.map fun t => [t]) ∧ Below w.heap.size w wr) := ⟨hO, hG.bel⟩
      clear hG hr hO
      go_wp2
      exact bodyPost_ret (v := .agg #[.string tag, .slice Au Nu Cu]) (by simp [results, Tryz.results108, go_sem, r0, r1]) rfl ⟨_, vals, rfl, ((HF.out.1.set (by omega) _ _).set (by omega) _ _).mono (by omega), (HF.out.2.setCell (Nat.le_refl _) _).setCell (Nat.le_refl _) _⟩
end Go.Proofs.YtkaolpnbddjdpaaGreatDoor
