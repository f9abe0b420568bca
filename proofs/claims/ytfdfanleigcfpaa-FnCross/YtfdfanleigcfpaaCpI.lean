/- Contract of copyOfCrosses: a list in memory of its own. -/
import Derived.Test.YtfdfanleigcfpaaAppCs
import Derived.Test.YtfdfanleigcfpaaShClone
import Derived.Deep.RegionLaw
import Derived.Deep.RegionHeld3
import Derived.Deep.AppendLies
namespace Go.Proofs.Ytfdfanleigcfpaa
open Go.ChangeShapes Go.WideShapes Go.ChangeAt Go.RowKit
theorem cell_blk2 {W : World} {B i : Nat} {c : Array Value} {t : TypeId} {x : Value} (h : W.heap[B]? = some (.cells c t)) (hx : c[i]? = some x) : W.cell? ⟨B, i, none⟩ = some x := by
  unfold World.cell?
  rw [h]
  exact hx
theorem undrewC {a b : World} (h : Below a.drew.heap.size a.drew b) : Below a.heap.size a b := (Below.refl _ _).drew.trans h
set_option maxRecDepth 20000 in
set_option maxHeartbeats 8000000 in
theorem copyCs_any (v : Value) (rs : List Crs) (w : World) (h : RowCs w v rs) (hl : rs.length ≤ 1048576) (hz : ∀ c ∈ rs, c.partner.size ≤ 1048576 ∧ c.theirs.size ≤ 1048576 ∧ c.own.size ≤ 1048576) :
    Calls Try.prog 23 #[v] w fun e w' => ∃ u b, e = .returned u ∧ w.heap.size ≤ b ∧ LCs b w' u rs ∧ Below w.heap.size w w' := by
  obtain ⟨A, C, rfl⟩ := h.val
  have HR : Hid (RowCs w (.slice A rs.length C) rs ∧ ∀ c ∈ rs, c.partner.size ≤ 1048576 ∧ c.theirs.size ≤ 1048576 ∧ c.own.size ≤ 1048576) := ⟨h, hz⟩
  clear h hz
  obtain ⟨j0, hj0i, hi0, hi1, hi2⟩ := info_parts infoCsA
  go_enter Try.func23, Try.ntmps23
  go_wp2_with fail
  go_loopw [3, 8] (fun lv i wr => ∃ k : Nat, i = .int .i64 (k : Int) ∧ k ≤ rs.length ∧ (∃ A C, lv = .slice A k C) ∧ wr.ownsRow w.heap.size 25 3 lv k (clCss (rs.take k)) ∧ Below w.heap.size w wr) (fun _ i _ => rs.length - (intOf i).toNat)
  case atStart => exact ⟨0, rfl, by omega, ⟨none, 0, rfl⟩, by simpa [clCss] using World.ownsRow_nil w w.heap.size 25 3, Below.refl _ _⟩
  case round =>
    obtain ⟨k, rfl, hk, ⟨A1, C1, rfl⟩, hR, hb⟩ := hrel
    by_cases hlt : k < rs.length
    · have hlt' : (k : Int) < (rs.length : Int) := by omega
      obtain ⟨b, o, cap', c, e, hs, ⟨q0, q1, q2⟩, _⟩ := (HR.out.1.below hb).at hlt
      simp only [Value.slice.injEq, true_and] at e
      obtain ⟨rfl, rfl⟩ := e
      have hz := HR.out.2 c (List.mem_of_getElem? hs)
      obtain ⟨z0, z1, z2⟩ := hz
      have hmx : k + 1 ≤ maxLen := by unfold maxLen; omega
      obtain ⟨W1, hW1⟩ : ∃ W1, wr.alloc (.cells #[.string c.partner, .string c.theirs, .string c.own] 25) = W1 := ⟨_, rfl⟩
      have ha : Below wr.heap.size wr W1 := by rw [← hW1]; exact (Below.refl _ _).alloc (Nat.le_refl _) _
      have hbx : W1.heap[wr.heap.size]? = some (.cells #[.string c.partner, .string c.theirs, .string c.own] 25) := by rw [← hW1]; exact World.alloc_heap_new _ _
      obtain ⟨B, hB⟩ : ∃ B, B = wr.heap.size := ⟨_, rfl⟩
      rw [← hB] at hbx
      have hR1 : W1.ownsRow w.heap.size 25 3 (.slice A1 k C1) k (clCss (rs.take k)) := by rw [← hW1]; exact hR.alloc _
      have HG : Hid (Below w.heap.size w W1 ∧ W1.heap[B]? = some (.cells #[.string c.partner, .string c.theirs, .string c.own] 25) ∧ W1.ownsRow w.heap.size 25 3 (.slice A1 k C1) k (clCss (rs.take k)) ∧ rs[k]? = some c) := ⟨hb.trans (ha.mono hb.size), hbx, hR1, hs⟩
      have HC : Hid (∀ W, Below W1.heap.size W1 W → W.cell? ⟨B, 0, none⟩ = some (.string c.partner) ∧ W.cell? ⟨B, 1, none⟩ = some (.string c.theirs) ∧ W.cell? ⟨B, 2, none⟩ = some (.string c.own)) := fun W hW => by
        have e := (hW.block B (Array.getElem?_eq_some_iff.1 hbx).1).trans hbx
        exact ⟨cell_blk2 e rfl, cell_blk2 e rfl, cell_blk2 e rfl⟩
      have HW : Hid (∀ W, Below W1.heap.size W1 W → W.ownsRow w.heap.size 25 3 (.slice A1 k C1) k (clCss (rs.take k)) ∧ w.heap.size ≤ W.heap.size) := fun W hW => by
        refine ⟨hR1.kept (row := none) ⟨hW.os, hW.tape, hW.output, hW.size, fun j hj _ => hW.block j hj⟩ ?_, by have := HG.out.1.size; have := hW.size; omega⟩
        rcases hR1.2 with ⟨e, _⟩ | ⟨g, cap, cur, e, _⟩
        · exact .inl (by rw [e]; rfl)
        · exact .inr (by rw [e]; simp [Value.ownBlock])
      have HB : Hid (some B ≠ (Value.slice A1 k C1).ownBlock) := fun e => by
        have := (hR.lt B e.symm).2
        omega
      obtain ⟨c0, c1, c2⟩ := HC.out W1 (Below.refl _ _)
      go_upto_region 5 with fail
      try rw [hW1]
      try rw [← hB]
      clear hW1 ha hbx hR1 hR hb hs q0 q1 q2 hB
      go_region_held3 (fun W => W.cell? ⟨B, 0, none⟩ = some (.string c.partner) ∧ W.cell? ⟨B, 1, none⟩ = some (.string c.theirs) ∧ W.cell? ⟨B, 2, none⟩ = some (.string c.own)) (go_keep) (first | (go_at_call_of 24 (Value.string c.partner); refine (clone_any _ _ (by omega)).mono ?_; rintro e wa ⟨rfl, hba⟩; have ba : Below W1.heap.size W1 wa := (by first | exact hba | exact undrewC hba); obtain ⟨a0, a1, a2⟩ := HC.out wa ba; clear hba; try dsimp only) | (go_at_call_of 24 (Value.string c.theirs); refine (clone_any _ _ (by omega)).mono ?_; rintro e wb ⟨rfl, hbb⟩; have bb : Below W1.heap.size W1 wb := ba.trans ((by first | exact hbb | exact undrewC hbb : Below wa.heap.size wa wb).mono ba.size); obtain ⟨b0, b1, b2⟩ := HC.out wb bb; clear hbb; try dsimp only) | (go_at_call_of 24 (Value.string c.own); refine (clone_any _ _ (by omega)).mono ?_; rintro e wc ⟨rfl, hbc⟩; have bc : Below W1.heap.size W1 wc := bb.trans ((by first | exact hbc | exact undrewC hbc : Below wb.heap.size wb wc).mono bb.size); have bd : Below W1.heap.size W1 (wc.alloc (.cells #[.string c.partner, .string c.theirs, .string c.own] 25)) := bc.alloc bc.size _; have HD : Hid (Below W1.heap.size W1 (wc.alloc (.cells #[.string c.partner, .string c.theirs, .string c.own] 25))) := bd; have rowN := (HW.out _ bd).1; obtain ⟨d0, d1, d2⟩ := HC.out wc bc; obtain ⟨f0, f1, f2⟩ := HC.out _ bd; have szN := (HW.out _ bc).2; clear hbc bd; try dsimp only) | (refine step_append_lies _ (by rfl) _ _ _ (by rfl) w.heap.size 25 j0 _ 3 48 Try.underlying23 hj0i hi0 hi1 hi2 rfl (by omega) (.slice A1 k C1) k (clCss (rs.take k)) (by rfl) (by first | exact rowN | exact rowN.drew) ⟨wc.heap.size, 0, none⟩ 1 1 (clCs c) (by rfl) (by rfl) (World.news_of_block (cs := #[.string c.partner, .string c.theirs, .string c.own]) (t := 25) (fr := (0, 0)) (by first | exact World.alloc_heap_new wc _)) (by simp [Value.oneCell', clCs]) (by omega) hmx (by omega) (by simp; omega) (wc.heap.size + 1) (by simp) ?_; intro gg cap w4 hown4 hgrow hat4 hlt4; have u0 := hgrow.cell (HC.out _ HD.out).1 HB.out; have u1 := hgrow.cell (HC.out _ HD.out).2.1 HB.out; have u2 := hgrow.cell (HC.out _ HD.out).2.2 HB.out; try dsimp only))
      rename_i hHeld
      clear hHeld
      have e3 : rs.take (k + 1) = rs.take k ++ [c] := by
        rw [List.take_add_one, HG.out.2.2.2]
        rfl
      have H4 : Hid (w4.ownsRow w.heap.size 25 3 (.slice (some ⟨gg, 0, none⟩) (k + 1) cap) (k + 1) (clCss (rs.take (k + 1))) ∧ Below w.heap.size w w4) := by
        have hbd := HG.out.1.trans (HD.out.mono HG.out.1.size)
        have hg4 : (wc.alloc (.cells #[.string c.partner, .string c.theirs, .string c.own] 25)).grownBy w4 (Value.slice A1 k C1).ownBlock := hgrow
        refine ⟨by rw [e3, clCss_app]; exact hown4, hbd.trans ⟨hg4.os, hg4.tape, hg4.output, hg4.size, fun q hq => hg4.block q (by have := hbd.size; omega) (fun e => ?_)⟩⟩
        have := ((HW.out _ HD.out).1.lt q e.symm).1
        omega
      clear hown4 hgrow hat4 hlt4 u0 u1 u2 rowN szN d0 d1 d2 f0 f1 f2
      go_wp2
      go_roundw
      case rel => exact ⟨k + 1, by go_num, by omega, ⟨_, _, rfl⟩, H4.out.1, H4.out.2⟩
      case measure => simp [intOf]; omega
    · obtain rfl : k = rs.length := by omega
      have HF : Hid (wr.ownsRow w.heap.size 25 3 (.slice A1 rs.length C1) rs.length (clCss rs) ∧ Below w.heap.size w wr) := by
        rw [List.take_length] at hR
        exact ⟨hR, hb⟩
      clear hR hb
      go_wp2
      go_ret
      obtain ⟨b, hb1, hL⟩ := LCs.of_owns HF.out.1 (by omega) (fun i g hi => by have := HR.out.2 g (List.mem_of_getElem? hi); omega)
      exact ⟨_, b, rfl, hb1, hL, HF.out.2⟩
end Go.Proofs.Ytfdfanleigcfpaa
