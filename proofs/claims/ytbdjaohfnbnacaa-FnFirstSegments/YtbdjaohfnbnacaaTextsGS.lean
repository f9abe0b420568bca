/- Contract of the model's SegmentsText: at every four numbers and every list of segments that reads, as textsG tells; nothing that was there is written. -/
import Derived.Test.YtbdjaohfnbnacaaTextsG
import Derived.Test.YtbdjaohfnbnacaaTextGS
namespace Go.Proofs.Ytbdjaohfnbnacaa
open Go.ChangeShapes Go.WideShapes Go.ChangeAt Go.RowKit
theorem catU_size (a b c d : Int) (gs : List Seg) : ∀ k, (catU a b c d gs k).length ≤ 4000 * k := by
  intro k
  induction k with
  | zero => simp [catU]
  | succ k ih =>
    have h := textG_size a b c d (gs[k]?.getD (⟨#[]⟩, [])).1 (gs[k]?.getD (⟨#[]⟩, [])).2
    have e : (textG a b c d (gs[k]?.getD (⟨#[]⟩, [])).1 (gs[k]?.getD (⟨#[]⟩, [])).2).data.toList.length = (textG a b c d (gs[k]?.getD (⟨#[]⟩, [])).1 (gs[k]?.getD (⟨#[]⟩, [])).2).size := by simp
    simp only [catU, List.length_append]
    omega
/-- The model's text of a segment, with six cells that it keeps. -/
theorem txt6 (a b c d : Int) (g : Seg) (u : Value) (W : World) (hr : RowE W u g.2) (hE : BdE 1048576 g.2) {p0 p1 p2 p3 p4 p5 : Addr} {v0 v1 v2 v3 v4 v5 : Value} (h0 : W.cell? p0 = some v0) (h1 : W.cell? p1 = some v1) (h2 : W.cell? p2 = some v2) (h3 : W.cell? p3 = some v3) (h4 : W.cell? p4 = some v4) (h5 : W.cell? p5 = some v5) :
    Calls Try.prog 16 #[.agg #[.int .i64 a, .int .i64 b, .int .i64 c, .int .i64 d], .agg #[.string g.1, u]] W fun e w' => ∃ E : ByteArray, e = .returned (.string E) ∧ E = textG a b c d g.1 g.2 ∧ E.size ≤ 4000 ∧ Below W.heap.size W w' ∧ w'.cell? p0 = some v0 ∧ w'.cell? p1 = some v1 ∧ w'.cell? p2 = some v2 ∧ w'.cell? p3 = some v3 ∧ w'.cell? p4 = some v4 ∧ w'.cell? p5 = some v5 := by
  refine (text_seg_spec a b c d g.1 u g.2 W hr hE).mono ?_
  rintro e w' ⟨rfl, hb⟩
  have k : ∀ {p : Addr} {v : Value}, W.cell? p = some v → w'.cell? p = some v := fun h => (hb.cell (World.block_lt_of_cell? W _ h)).trans h
  exact ⟨_, rfl, rfl, textG_size a b c d g.1 g.2, hb, k h0, k h1, k h2, k h3, k h4, k h5⟩
set_option maxHeartbeats 2000000 in
theorem texts_spec (a b c d : Int) (v : Value) (gs : List Seg) (w : World) (h : RowG w v gs) (hG : BdG 1048576 gs) :
    Calls Try.prog 6 #[.agg #[.int .i64 a, .int .i64 b, .int .i64 c, .int .i64 d], v] w fun e w' => e = .returned (.string (textsG a b c d gs)) ∧ Below w.heap.size w w' := by
  obtain ⟨A, cap, rfl⟩ := h.val
  have hl := hG.1
  go_enter Try.func6, Try.ntmps6
  go_wp2_with fail
  refine (right_spec a b c d _).mono ?_
  rintro e w1 ⟨rfl, hb1⟩
  have sx1 : w1.heap[w.heap.size]? = some (.cells #[.int .i64 a, .int .i64 b, .int .i64 c, .int .i64 d] 24) := (hb1.block w.heap.size (by simp)).trans (World.alloc_heap_new w _)
  have hs1 : w.heap.size + 1 ≤ w1.heap.size := by have := hb1.size; simpa using this
  have hb1' : Below w.heap.size w w1 := ((Below.refl _ _).alloc (Nat.le_refl _) _).trans (hb1.mono (by simp))
  have H1 : Hid (Below w.heap.size w w1 ∧ w1.heap[w.heap.size]? = some (.cells #[.int .i64 a, .int .i64 b, .int .i64 c, .int .i64 d] 24) ∧ RowG w1 (.slice A gs.length cap) gs ∧ BdG 1048576 gs) := ⟨hb1', sx1, h.below hb1', hG⟩
  clear hb1 hb1' sx1 h hG
  cases hr : rightB a b c d
  · go_wp2
    go_ret
    exact ⟨ret_str (textsG_no fun h => by have := h.1; rw [hr] at this; cases this).symm, H1.out.1⟩
  by_cases h200 : 200 < gs.length
  · have d0 : decide ((200 : Int) < (gs.length : Int)) = true := by simp; omega
    go_wp2
    go_ret
    exact ⟨ret_str (textsG_no fun h => by have := h.2.1; omega).symm, H1.out.1⟩
  have d0 : decide ((200 : Int) < (gs.length : Int)) = false := by simp; omega
  go_wp2_with fail
  go_loopw [5, 6] (fun t i wr => ∃ (k : Nat) (x : ByteArray), t = .string x ∧ i = .int .i64 (k : Int) ∧ k ≤ gs.length ∧ (∀ (j : Nat) (g : Seg), j < k → gs[j]? = some g → rightG g.1 g.2 = true) ∧ x.data.toList = catU a b c d gs k ∧ Below w1.heap.size w1 wr) (fun _ i _ => gs.length - (intOf i).toNat)
  case atStart => exact ⟨0, _, rfl, rfl, by omega, fun j g hj => by omega, rfl, Below.refl _ _⟩
  case round =>
    obtain ⟨k, x, rfl, rfl, hk, hA, hx, hb⟩ := hrel
    have q1 := catU_size a b c d gs k
    have hxs : x.size ≤ 4000 * k := by rw [size_list, hx]; exact q1
    by_cases hlt : k < gs.length
    · have hlt' : (k : Int) < (gs.length : Int) := by omega
      obtain ⟨b1, o1, c1, g, u, e, hs, hc, hd, hS, hsz⟩ := (H1.out.2.2.1.below hb).at hlt
      simp only [Value.slice.injEq, true_and] at e
      obtain ⟨rfl, rfl⟩ := e
      obtain ⟨a2, cap2, rfl⟩ := hS.val
      have hwr := hb.size
      have HS : Hid (gs[k]? = some g ∧ RowE wr (.slice a2 g.2.length cap2) g.2 ∧ BdE 1048576 g.2) := ⟨hs, hS, (H1.out.2.2.2.2 k g hs).2⟩
      have HB : Hid (Below w1.heap.size w1 wr ∧ (∀ (j : Nat) (g : Seg), j < k → gs[j]? = some g → rightG g.1 g.2 = true) ∧ x.data.toList = catU a b c d gs k) := ⟨hb, hA, hx⟩
      clear hs hS hb hA hx
      go_wp2_with fail
      refine (right_seg_spec g.1 _ g.2 _ HS.out.2.1 HS.out.2.2).mono ?_
      rintro e w2 ⟨rfl, hb2⟩
      have hb2' : Below w1.heap.size w1 w2 := HB.out.1.trans (hb2.mono hwr)
      cases hg : rightG g.1 g.2
      · have HN : Hid (textsG a b c d gs = ⟨#[]⟩ ∧ Below w.heap.size w w2) := ⟨textsG_no (fun h => by have := h.2.2.1 k g HS.out.1; rw [hg] at this; cases this), H1.out.1.trans (hb2'.mono (by omega))⟩
        clear hb2 hb2'
        go_wp2
        go_ret
        exact ⟨ret_str HN.out.1.symm, HN.out.2⟩
      · have sx := (hb2'.block w.heap.size (by omega)).trans H1.out.2.1
        have x0 : w2.cell? ⟨w.heap.size, 0, none⟩ = some (.int .i64 a) := by simp [World.cell?, sx]
        have x1 : w2.cell? ⟨w.heap.size, 1, none⟩ = some (.int .i64 b) := by simp [World.cell?, sx]
        have x2 : w2.cell? ⟨w.heap.size, 2, none⟩ = some (.int .i64 c) := by simp [World.cell?, sx]
        have x3 : w2.cell? ⟨w.heap.size, 3, none⟩ = some (.int .i64 d) := by simp [World.cell?, sx]
        have x4 : w2.cell? ⟨b1, o1 + k * 2, none⟩ = some (.string g.1) := (hb2.cell (p := ⟨b1, o1 + k * 2, none⟩) (cell_lt hc)).trans hc
        have x5 : w2.cell? ⟨b1, o1 + k * 2 + 1, none⟩ = some (.slice a2 g.2.length cap2) := (hb2.cell (p := ⟨b1, o1 + k * 2 + 1, none⟩) (cell_lt hd)).trans hd
        have HR : Hid (RowE w2.drew (.slice a2 g.2.length cap2) g.2 ∧ Below w1.heap.size w1 w2) := ⟨(HS.out.2.1.below hb2).below (Below.refl _ _).drew, hb2'⟩
        have hw2 := hb2'.size
        clear sx hb2 hb2' hc hd
        go_wp2_with fail
        go_region_held3 (fun W => W.cell? ⟨w.heap.size, 0, none⟩ = some (.int .i64 a) ∧ W.cell? ⟨w.heap.size, 1, none⟩ = some (.int .i64 b) ∧ W.cell? ⟨w.heap.size, 2, none⟩ = some (.int .i64 c) ∧ W.cell? ⟨w.heap.size, 3, none⟩ = some (.int .i64 d) ∧ W.cell? ⟨b1, o1 + k * 2, none⟩ = some (.string g.1) ∧ W.cell? ⟨b1, o1 + k * 2 + 1, none⟩ = some (.slice a2 g.2.length cap2)) (go_keep) (first | (go_at_call 16; refine (txt6 a b c d g _ w2.drew HR.out.1 HS.out.2.2 x0 x1 x2 x3 x4 x5).mono ?_; rintro e w3 ⟨E, rfl, hE, hEs, hb3, y0, y1, y2, y3, y4, y5⟩; have HEE : Hid (E = textG a b c d g.1 g.2) := hE; clear hE; have u2 : ¬ 9223372036854775807 < x.size + E.size := by omega))
        have HB3 : Hid (Below w1.heap.size w1 w3) := HR.out.2.drew.trans (hb3.mono hw2)
        clear hb3
        rename_i hHeld
        clear hHeld
        go_wp2
        go_roundw
        case rel =>
          refine ⟨k + 1, _, rfl, by go_num, by omega, fun j t hj ht => ?_, ?_, HB3.out⟩
          · rcases Nat.lt_or_ge j k with q | q
            · exact HB.out.2.1 j t q ht
            · obtain rfl : j = k := by omega
              rw [HS.out.1] at ht
              cases ht
              exact hg
          · rw [Go.Joins.data_append, HB.out.2.2, HEE.out]
            simp only [catU, HS.out.1, Option.getD_some]
        case measure => simp [intOf]; omega
    · obtain rfl : k = gs.length := by omega
      have hlt' : ¬ (gs.length : Int) < (gs.length : Int) := by omega
      have hwr := hb.size
      have HN : Hid (Below w.heap.size w wr ∧ (∀ (j : Nat) (g : Seg), j < gs.length → gs[j]? = some g → rightG g.1 g.2 = true) ∧ x.data.toList = catU a b c d gs gs.length) := ⟨H1.out.1.trans (hb.mono (by omega)), hA, hx⟩
      have hxl : x.size = (catU a b c d gs gs.length).length := by rw [size_list, hx]
      clear hA hx hb hlt
      by_cases hbig : 20000 < x.size
      · have hbig' : (20000 : Int) < (x.size : Int) := by omega
        go_wp2
        go_ret
        exact ⟨ret_str (textsG_no fun h => by have := h.2.2.2; omega).symm, HN.out.1⟩
      · have hbig' : ¬ (20000 : Int) < (x.size : Int) := by omega
        go_wp2
        go_ret
        refine ⟨ret_str ?_, HN.out.1⟩
        rw [textsG_yes ⟨hr, by omega, fun i g hi => HN.out.2.1 i g (List.getElem?_eq_some_iff.1 hi).1 hi, by omega⟩]
        apply ByteArray.ext
        apply Array.toList_inj.1
        rw [HN.out.2.2]
end Go.Proofs.Ytbdjaohfnbnacaa
