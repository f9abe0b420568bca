/- Contract of the model's l03Seg. -/
import Derived.Test.YtphgheojfnlgjaaDoorIxTa
namespace Go.Proofs.YtphgheojfnlgjaaDoor
open Go.ChangeShapes Go.WideShapes Go.ChangeAt Go.RowKit
theorem undrewG {W W' : World} {r : Option Nat} (h : W.drew.grownBy W' r) : W.grownBy W' r := ⟨h.os, h.tape, h.output, h.size, h.block⟩
theorem newsS {W : World} {b o n c : Nat} {ss : List ByteArray} (h : RowS W (.slice (some ⟨b, o, none⟩) n c) ss) : ∀ j u, (ss.map Value.string)[j]? = some u → W.cell? ((⟨b, o, none⟩ : Addr).add j) = some u := by
  intro j u hu
  rw [List.getElem?_map] at hu
  obtain ⟨s, hs, rfl⟩ := Option.map_eq_some_iff.1 hu
  have hj := (List.getElem?_eq_some_iff.1 hs).1
  obtain ⟨b', o', c', s', e, hs', hc, _⟩ := h.at hj
  simp only [Value.slice.injEq, Option.some.injEq, Addr.mk.injEq] at e
  obtain ⟨⟨rfl, rfl, _⟩, _⟩ := e
  rw [hs] at hs'
  cases hs'
  have e1 : (⟨b, o, none⟩ : Addr).add j = ⟨b, o + j, none⟩ := by unfold Addr.add; split <;> simp_all
  rw [e1]
  exact hc
set_option maxRecDepth 20000 in
set_option maxHeartbeats 4000000 in
theorem l03Seg_any (tag : ByteArray) (v : Value) (ws : List ByteArray) (w : World) (h : RowS w v ws) (hl : ws.length ≤ 10) :
    Calls Tryd.prog 24 #[.string tag, v] w fun e w' => ∃ u vals, e = .returned (.agg #[.string tag, u]) ∧ OwnV w.heap.size w' u vals (ws.map fun t => [t]) ∧ Below w.heap.size w w' := by
  obtain ⟨A, C, rfl⟩ := h.val
  have HR : Hid (RowS w (.slice A ws.length C) ws) := h
  clear h
  obtain ⟨j0, hj0i, hi0, hi1, hi2⟩ := info_parts infoElm
  go_enter Tryd.func24, Tryd.ntmps24
  go_wp2_with fail
  go_loopw [6] (fun i wr => ∃ (k : Nat) (u : Value) (vals : List Value), i = .int .i64 (k : Int) ∧ k ≤ ws.length ∧ GB w.heap.size (w.heap.size + 1) w wr tag u vals ((ws.take k).map fun t => [t])) (fun i _ => ws.length - (intOf i).toNat)
  case atStart =>
    have b0 : Below w.heap.size w ((w.alloc (.cells #[.string ⟨#[]⟩, .slice none 0 0] 36)).alloc (.cells #[.string tag, .slice none 0 0] 36)) := ((Below.refl _ _).alloc (Nat.le_refl _) _).alloc (by simp) _
    exact ⟨0, .slice none 0 0, [], rfl, by omega, ⟨(Below.heap_alloc _ _ _ (by simp)).trans (World.alloc_heap_new w _), heap_new2 w _ _, ⟨rfl, World.ownsRow_nil _ _ _ _, fun i u e hu => by simp at hu, fun i j u x _ hu => by simp at hu⟩, b0, Nat.le_refl _, Nat.lt_succ_self _⟩⟩
  case round =>
    obtain ⟨k, u, vals, rfl, hk, hG⟩ := hrel
    obtain ⟨Au, Nu, Cu, hu⟩ := row_slice hG.own.row
    subst hu
    obtain ⟨c0, c1⟩ := hG.cells
    have hlw := hG.lt
    by_cases hlt : k < ws.length
    · have hlt' : (k : Int) < (ws.length : Int) := by omega
      obtain ⟨b, o, cap', t, e, hs, hc, hsz⟩ := (HR.out.below hG.bel).at hlt
      simp only [Value.slice.injEq, true_and] at e
      obtain ⟨rfl, rfl⟩ := e
      have hel : ((ws.take k).map fun t => [t]).length = k := by rw [List.length_map, List.length_take]; omega
      have hNu : Nu = k := by have := row_n' hG.own.row; omega
      subst hNu
      have hmx : Nu + 1 ≤ maxLen := by unfold maxLen; omega
      have bA : Below wr.heap.size wr (wr.alloc (.cells #[.string t] 9)) := (Below.refl _ _).alloc (Nat.le_refl _) _
      have bB : Below (wr.alloc (.cells #[.string t] 9)).heap.size (wr.alloc (.cells #[.string t] 9)) ((wr.alloc (.cells #[.string t] 9)).alloc (.cells #[.slice (some ⟨wr.heap.size, 0, none⟩) 1 1] 55)) := (Below.refl _ _).alloc (Nat.le_refl _) _
      have GA := hG.below bA
      have GBB := GA.below bB
      obtain ⟨d0, d1⟩ := GA.cells
      obtain ⟨f0, f1⟩ := GBB.cells
      have rowN : ((wr.alloc (.cells #[.string t] 9)).alloc (.cells #[.slice (some ⟨wr.heap.size, 0, none⟩) 1 1] 55)).ownsRow (w.heap.size + 1 + 1) 55 1 (.slice Au Nu Cu) Nu vals := by have := GBB.own.row; rwa [hel] at this
      have HG : Hid (GB w.heap.size (w.heap.size + 1) w wr tag (.slice Au Nu Cu) vals ((ws.take Nu).map fun t => [t]) ∧ ws[Nu]? = some t ∧ (wr.alloc (.cells #[.string t] 9)).ownsRow wr.heap.size 9 1 (.slice (some ⟨wr.heap.size, 0, none⟩) 1 1) 1 [.string t]) := ⟨hG, hs, ⟨rfl, .inr ⟨wr.heap.size, 1, #[.string t], rfl, Nat.le_refl _, World.alloc_heap_new wr _, Nat.le_refl _, by unfold maxLen; omega, rfl, rfl⟩⟩⟩
      clear hG hs GA GBB
      go_wp2_with fail
      go_region_law (first | (refine step_append_lies _ (by rfl) _ _ _ (by rfl) (w.heap.size + 1 + 1) 55 j0 _ 1 24 Tryd.underlying34 hj0i hi0 hi1 hi2 rfl (by omega) (.slice Au Nu Cu) Nu vals (by rfl) (by first | exact rowN | exact rowN.drew) ⟨wr.heap.size + 1, 0, none⟩ 1 1 [.slice (some ⟨wr.heap.size, 0, none⟩) 1 1] (by rfl) (by rfl) (World.news_of_block (cs := #[.slice (some ⟨wr.heap.size, 0, none⟩) 1 1]) (t := 55) (fr := (0, 0)) (heap_new2 wr (.cells #[.string t] 9) (.cells #[.slice (some ⟨wr.heap.size, 0, none⟩) 1 1] 55))) (by simp [Value.oneCell']) (by omega) hmx (by omega) (by simp; omega) (wr.heap.size + 1 + 1) (by simp) ?_; intro gg cap w4 hown4 hgrow hat4 hlt4; obtain ⟨⟨z0, z1⟩, hG4⟩ := HG.out.1.push (x := .slice (some ⟨wr.heap.size, 0, none⟩) 1 1) (e := [t]) (W2 := wr.alloc (.cells #[.string t] 9)) (W3 := (wr.alloc (.cells #[.string t] 9)).alloc (.cells #[.slice (some ⟨wr.heap.size, 0, none⟩) 1 1] 55)) ((Below.refl _ _).alloc (Nat.le_refl _) _) (by simpa using HG.out.2.2) (by simp) ((Below.refl _ _).alloc (Nat.le_refl _) _) (by rw [hel]; exact hown4) (by first | exact hgrow | exact undrewG hgrow); have l4 : w.heap.size + 1 < w4.heap.size := cell_lt z0; have HG4 : Hid (GB w.heap.size (w.heap.size + 1) w (w4.setCell ⟨w.heap.size + 1, 1, none⟩ (.slice (some ⟨gg, 0, none⟩) (Nu + 1) cap)) tag (.slice (some ⟨gg, 0, none⟩) (Nu + 1) cap) (vals ++ [.slice (some ⟨wr.heap.size, 0, none⟩) 1 1]) ((ws.take Nu).map (fun t => [t]) ++ [[t]])) := hG4; clear hown4 hgrow hat4 hG4; try dsimp only))
      all_goals
        go_wp2
        go_roundw
        case rel =>
          refine ⟨Nu + 1, .slice (some ⟨gg, 0, none⟩) (Nu + 1) cap, vals ++ [.slice (some ⟨wr.heap.size, 0, none⟩) 1 1], by go_num, by omega, ?_⟩
          have e1 : (ws.take (Nu + 1)).map (fun t => [t]) = (ws.take Nu).map (fun t => [t]) ++ [[t]] := by
            rw [List.take_add_one, HG.out.2.1]
            simp
          rw [e1]
          exact HG4.out
        case measure => simp [intOf]; omega
    · obtain rfl : k = ws.length := by omega
      have hr := hG.r
      have r0 : wr.cell? ⟨w.heap.size, 0, none⟩ = some (.string ⟨#[]⟩) := by simp [World.cell?, hr]
      have r1 : wr.cell? ⟨w.heap.size, 1, none⟩ = some (.slice none 0 0) := by simp [World.cell?, hr]
      have rz : ∀ o, wr.frozen? ⟨w.heap.size, o, none⟩ = false := fun o => by simp [World.frozen?, hr]
      have hO := hG.own
      rw [List.take_length] at hO
      have HF : Hid (OwnV (w.heap.size + 1 + 1) wr (.slice Au Nu Cu) vals (ws.map fun t => [t]) ∧ Below w.heap.size w wr) := ⟨hO, hG.bel⟩
      clear hG hr hO
      go_wp2
      exact bodyPost_ret (v := .agg #[.string tag, .slice Au Nu Cu]) (by simp [results, Tryd.results24, go_sem, r0, r1]) rfl ⟨_, vals, rfl, ((HF.out.1.set (by omega) _ _).set (by omega) _ _).mono (by omega), (HF.out.2.setCell (Nat.le_refl _) _).setCell (Nat.le_refl _) _⟩
end Go.Proofs.YtphgheojfnlgjaaDoor
