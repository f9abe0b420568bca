/- Contract of impl.segmentBy: a segment in memory of its own. -/
import Derived.Shelf.Slices.Clone
import Derived.Test.YtbefefmfpenkkaaGreatDoorRet
import Derived.RangeFuncBox
import Derived.Test.YtbefefmfpenkkaaGreatDoorOwnB
import Derived.Test.YtbefefmfpenkkaaGreatDoorIxTa
import Derived.Test.YtbefefmfpenkkaaGreatDoorShClone
import Derived.Deep.RegionHeld3
import Derived.Deep.RegionLaw
import Derived.Deep.AppendLies
namespace Go.Proofs.YtbefefmfpenkkaaGreatDoor
open Go.Shelf Go.RowKit Go.Lib
def renCl : Go.Shelf.Ren := ⟨fun | 16 => 87 | n => n, fun | 24 => 22 | 9 => 9 | 4 => 4 | n => n, fun | n => n⟩
theorem laysCl : Go.Proofs.Lays2.n16 Tryz.prog renCl := {
  mixed := by kernel_rfl
  f16 := Tryz.func87.trans (congrArg some (by kernel_rfl))
  t4 := Tryz.underlying4
  a4 := Tryz.isAgg4
  z4 := Tryz.sizeOf4
  v4 := Tryz.zeroValue4
  t9 := Tryz.underlying9
  a9 := Tryz.isAgg9
  z9 := Tryz.sizeOf9
  v9 := Tryz.zeroValue9
  t24 := Tryz.underlying22
  a24 := Tryz.isAgg22
  z24 := Tryz.sizeOf22
  v24 := Tryz.zeroValue22
  i9 := by kernel_rfl }
theorem cloneS_any (b off n c : Nat) (zs : List ByteArray) (w : World) (hz : n ≤ zs.length) (hbig : n * 16 ≤ 140737488355328) (hc : ∀ j, j < zs.length → w.cell? ⟨b, off + j, none⟩ = some (.string (zs.getD j ByteArray.empty))) :
    Calls Tryz.prog 87 #[.slice (some ⟨b, off, none⟩) n c] w fun e w' => ∃ v', e = .returned v' ∧ w'.ownsRow w.heap.size 9 1 v' n ((zs.take n).map (Value.string)) ∧ v' ≠ .slice none 0 0 ∧ Below w.heap.size w w' := Any.slices_Clone_string laysCl b off n c zs w hz hbig hc
end Go.Proofs.YtbefefmfpenkkaaGreatDoor
namespace Go.Proofs.YtbefefmfpenkkaaGreatDoor
open Go.ChangeShapes Go.WideShapes Go.ChangeAt Go.RowKit
set_option maxHeartbeats 1000000 in
theorem elementBy_any (v : Value) (ss : List ByteArray) (w : World) (h : RowS w v ss) (hp : 0 < ss.length) (hl : ss.length ≤ 1048576) :
    Calls Tryz.prog 79 #[v] w fun e w' => ∃ v', e = .returned (.agg #[v']) ∧ w'.ownsRow w.heap.size 9 1 v' ss.length (ss.map Value.string) ∧ Below w.heap.size w w' := by
  have hb0 : Below w.heap.size w (w.alloc (.cells #[.slice none 0 0] 67)) := (Below.refl _ _).alloc (Nat.le_refl _) _
  obtain ⟨a, cap, rfl, hc⟩ := (h.below hb0).shape
  obtain ⟨b, o, rfl, hcell⟩ := hc (by intro e; rw [e] at hp; simp at hp)
  have HC : Hid (∀ j, j < ss.length → (w.alloc (.cells #[.slice none 0 0] 67)).cell? ⟨b, o + j, none⟩ = some (.string (ss.getD j ByteArray.empty))) := fun j hj => by
    rw [hcell j ss[j] (List.getElem?_eq_getElem hj)]
    simp [List.getD, List.getElem?_eq_getElem hj]
  clear hcell hc h
  go_enter Tryz.func79, Tryz.ntmps79
  go_wp2_with fail
  refine (cloneS_any b o ss.length cap ss _ (Nat.le_refl _) (by omega) HC.out).mono ?_
  rintro e w1 ⟨v', rfl, hrow, _, hb1⟩
  rw [List.take_length] at hrow
  have hs1 : w.heap.size + 1 ≤ w1.heap.size := by have := hb1.size; simpa using this
  have rx : w1.heap[w.heap.size]? = some (.cells #[.slice none 0 0] 67) := (hb1.block w.heap.size (by simp)).trans (World.alloc_heap_new w _)
  have c1 : w1.cell? ⟨w.heap.size, 0, none⟩ = some (.slice none 0 0) := by simp [World.cell?, rx]
  have z1 : w1.frozen? ⟨w.heap.size, 0, none⟩ = false := by simp [World.frozen?, rx]
  obtain ⟨A', L', C', hv'⟩ : ∃ A' L' C', v' = .slice A' L' C' := by
    rcases hrow.2 with ⟨rfl, _⟩ | ⟨g, cap, cur, rfl, _⟩
    · exact ⟨_, _, _, rfl⟩
    · exact ⟨_, _, _, rfl⟩
  subst hv'
  have HR : Hid (w1.ownsRow (w.alloc (.cells #[.slice none 0 0] 67)).heap.size 9 1 (.slice A' L' C') ss.length (ss.map Value.string) ∧ Below w.heap.size w w1) := ⟨hrow, hb0.trans (hb1.mono (by simp))⟩
  clear hrow hb0 hb1 rx HC
  go_wp2
  refine bodyPost_ret (v := .agg #[.slice A' L' C']) (by simp [results, Tryz.results79, go_sem, c1]) rfl ⟨_, rfl, ?_, HR.out.2.setCell (Nat.le_refl _) _⟩
  have h2 := row_mono HR.out.1 (show w.heap.size ≤ _ by simp)
  exact h2.kept (grownBy_setCell' w1 w.heap.size _) (.inr (row_lt HR.out.1 (show w.heap.size < (w.alloc (.cells #[.slice none 0 0] 67)).heap.size by simp)).symm)
end Go.Proofs.YtbefefmfpenkkaaGreatDoor
namespace Go.Proofs.YtbefefmfpenkkaaGreatDoor
open Go.ChangeShapes Go.WideShapes Go.ChangeAt Go.RowKit
set_option maxRecDepth 20000 in
set_option maxHeartbeats 4000000 in
theorem segmentBy_any (tag : ByteArray) (v : Value) (ws : List ByteArray) (w : World) (h : RowS w v ws) (hl : ws.length ≤ 10) (hz : ∀ t ∈ ws, t.size ≤ 1048576) :
    Calls Tryz.prog 60 #[.string tag, v] w fun e w' => ∃ u vals, e = .returned (.agg #[.string tag, u]) ∧ OwnV w.heap.size w' u vals (ws.map fun t => [t]) ∧ Below w.heap.size w w' := by
  obtain ⟨A, C, rfl⟩ := h.val
  have HR : Hid (RowS w (.slice A ws.length C) ws) := h
  clear h
  obtain ⟨j0, hj0i, hi0, hi1, hi2⟩ := info_parts infoElm
  go_enter Tryz.func60, Tryz.ntmps60
  go_wp2_with fail
  go_loopw [12] (fun i wr => ∃ (k : Nat) (u : Value) (vals : List Value), i = .int .i64 (k : Int) ∧ k ≤ ws.length ∧ GB w.heap.size (w.heap.size + 1) w wr tag u vals ((ws.take k).map fun t => [t])) (fun i _ => ws.length - (intOf i).toNat)
  case atStart =>
    have b0 : Below w.heap.size w ((w.alloc (.cells #[.string ⟨#[]⟩, .slice none 0 0] 45)).alloc (.cells #[.string tag, .slice none 0 0] 45)) := ((Below.refl _ _).alloc (Nat.le_refl _) _).alloc (by simp) _
    exact ⟨0, .slice none 0 0, [], rfl, by omega, ⟨(Below.heap_alloc _ _ _ (by simp)).trans (World.alloc_heap_new w _), heap_new2 w _ _, ⟨rfl, World.ownsRow_nil _ _ _ _, fun i u e hu => by simp at hu, fun i j u x _ hu => by simp at hu⟩, b0, Nat.le_refl _, Nat.lt_succ_self _⟩⟩
  case round =>
    obtain ⟨k, u, vals, rfl, hk, hG⟩ := hrel
    obtain ⟨Au, Nu, Cu, hu⟩ := row_slice hG.own.row
    subst hu
    obtain ⟨c0, c1⟩ := hG.cells
    have hlw := hG.lt
    by_cases hlt : k < ws.length
    · have hlt' : (k : Int) < (ws.length : Int) := by omega
      obtain ⟨b, o, cap', t, e, hs, hc, hsz⟩ := (HR.out.below hG.bel).at hlt
      simp only [Value.slice.injEq, true_and] at e
      obtain ⟨rfl, rfl⟩ := e
      have htz := hz t (List.mem_of_getElem? hs)
      have hel : ((ws.take k).map fun t => [t]).length = k := by rw [List.length_map, List.length_take]; omega
      have hNu : Nu = k := by have := row_n' hG.own.row; omega
      subst hNu
      have hmx : Nu + 1 ≤ maxLen := by unfold maxLen; omega
      have HG : Hid (GB w.heap.size (w.heap.size + 1) w wr tag (.slice Au Nu Cu) vals ((ws.take Nu).map fun t => [t]) ∧ ws[Nu]? = some t) := ⟨hG, hs⟩
      clear hG hs
      go_wp2_with fail
      go_region_law (first | (go_simp; go_at_call 80; refine (clone_any t _ (by omega)).mono ?_; rintro e w1 ⟨rfl, hb⟩; have hb1 : Below wr.heap.size wr w1 := (by first | exact hb | exact (Below.refl _ _).drew.trans hb); clear hb; have H1 := HG.out.1.below hb1; obtain ⟨d0, d1⟩ := H1.cells; have H1a := H1.below ((Below.refl _ w1).alloc (Nat.le_refl _) (.cells #[.string t] 9)); obtain ⟨d2, d3⟩ := H1a.cells; clear H1 H1a; try dsimp only) | (go_simp; go_at_call 79; refine (elementBy_any _ [t] _ (by first | exact row1 w1 t (by omega) | exact (row1 w1 t (by omega)).below (Below.refl _ _).drew) (by simp) (by simp)).mono ?_; rintro e w2 ⟨x2, rfl, hx2, hb⟩; obtain ⟨Ax, Nx, Cx, hxx⟩ := row_slice hx2; subst hxx; have hw2 : Below wr.heap.size wr w2 := (hb1.trans ((((Below.refl _ w1).alloc (Nat.le_refl _) (.cells #[.string t] 9)).trans ((by first | exact hb | exact (Below.refl _ _).drew.trans hb : Below (w1.alloc (.cells #[.string t] 9)).heap.size (w1.alloc (.cells #[.string t] 9)) w2).mono (by simp))).mono hb1.size)); have H2 : Hid (Below wr.heap.size wr w2 ∧ w2.ownsRow wr.heap.size 9 1 (.slice Ax Nx Cx) 1 [.string t]) := ⟨hw2, row_mono hx2 (Nat.le_trans hb1.size (by simp))⟩; have G2 := HG.out.1.below hw2; obtain ⟨f0, f1⟩ := G2.cells; have G2a := G2.below ((Below.refl _ w2).alloc (Nat.le_refl _) (.cells #[.slice Ax Nx Cx] 67)); obtain ⟨f2, f3⟩ := G2a.cells; have rowN : (w2.alloc (.cells #[.slice Ax Nx Cx] 67)).ownsRow (w.heap.size + 1 + 1) 67 1 (.slice Au Nu Cu) Nu vals := (by have := G2a.own.row; rwa [hel] at this); have l2 := G2.lt; clear hb hx2 hw2 G2 G2a; try dsimp only) | (refine step_append_lies _ (by rfl) _ _ _ (by rfl) (w.heap.size + 1 + 1) 67 j0 _ 1 24 Tryz.underlying43 hj0i hi0 hi1 hi2 rfl (by omega) (.slice Au Nu Cu) Nu vals (by rfl) (by first | exact rowN | exact rowN.drew) ⟨w2.heap.size, 0, none⟩ 1 1 [.slice Ax Nx Cx] (by rfl) (by rfl) (World.news_of_block (cs := #[.slice Ax Nx Cx]) (t := 67) (fr := (0, 0)) (by first | exact World.alloc_heap_new w2 _)) (by simp [Value.oneCell']) (by omega) hmx (by omega) (by simp; omega) (w2.heap.size + 1) (by simp) ?_; intro gg cap w4 hown4 hgrow hat4 hlt4; obtain ⟨⟨z0, z1⟩, hG4⟩ := HG.out.1.push (x := .slice Ax Nx Cx) (e := [t]) (W3 := w2.alloc (.cells #[.slice Ax Nx Cx] 67)) H2.out.1 (by simpa using H2.out.2) (by simp) ((Below.refl _ _).alloc (Nat.le_refl _) _) (by rw [hel]; exact hown4) (by first | exact hgrow | exact World.grownBy_undrew hgrow); have l4 : w.heap.size + 1 < w4.heap.size := cell_lt z0; have HG4 : Hid (GB w.heap.size (w.heap.size + 1) w (w4.setCell ⟨w.heap.size + 1, 1, none⟩ (.slice (some ⟨gg, 0, none⟩) (Nu + 1) cap)) tag (.slice (some ⟨gg, 0, none⟩) (Nu + 1) cap) (vals ++ [.slice Ax Nx Cx]) ((ws.take Nu).map (fun t => [t]) ++ [[t]])) := hG4; clear hown4 hgrow hat4 hG4; try dsimp only))
      all_goals
        go_wp2
        go_roundw
        case rel =>
          refine ⟨Nu + 1, .slice (some ⟨gg, 0, none⟩) (Nu + 1) cap, vals ++ [.slice Ax Nx Cx], by go_num, by omega, ?_⟩
          have e1 : (ws.take (Nu + 1)).map (fun t => [t]) = (ws.take Nu).map (fun t => [t]) ++ [[t]] := by
            rw [List.take_add_one, HG.out.2]
            simp
          rw [e1]
          exact HG4.out
        case measure => simp [intOf]; omega
    · obtain rfl : k = ws.length := by omega
      have hr := hG.r
      have r0 : wr.cell? ⟨w.heap.size, 0, none⟩ = some (.string ⟨#[]⟩) := by simp [World.cell?, hr]
      have r1 : wr.cell? ⟨w.heap.size, 1, none⟩ = some (.slice none 0 0) := by simp [World.cell?, hr]
      have rz : ∀ o, wr.frozen? ⟨w.heap.size, o, none⟩ = false := fun o => by simp [World.frozen?, hr]
      have hO := hG.own
      rw [List.take_length] at hO
      have HF : Hid (OwnV (w.heap.size + 1 + 1) wr (.slice Au Nu Cu) vals (ws.map fun t => [t]) ∧ Below w.heap.size w wr) := ⟨hO, hG.bel⟩
      clear hG hr hO
      go_wp2
      exact bodyPost_ret (v := .agg #[.string tag, .slice Au Nu Cu]) (by simp [results, Tryz.results60, go_sem, r0, r1]) rfl ⟨_, vals, rfl, ((HF.out.1.set (by omega) _ _).set (by omega) _ _).mono (by omega), (HF.out.2.setCell (Nat.le_refl _) _).setCell (Nat.le_refl _) _⟩
end Go.Proofs.YtbefefmfpenkkaaGreatDoor
