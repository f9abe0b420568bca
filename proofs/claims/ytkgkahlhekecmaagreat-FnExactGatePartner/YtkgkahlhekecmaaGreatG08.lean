/- Texts of ours put together: EqBk, EqDf, EqOu, EqGt. -/
import Derived.Test.YtkgkahlhekecmaaGreatG01
import Derived.Test.YtkgkahlhekecmaaGreatG07
import Derived.Deep.RegionHeld3
import Derived.Deep.QuietTactic
import Derived.BigQuiet
import Derived.BigRegion
import Derived.Test.YtkgkahlhekecmaaGreatG06
namespace Go.Proofs.YtkgkahlhekecmaaGreat
open Go.ChangeShapes Go.WideShapes Go.ChangeAt Go.RowKit
set_option maxHeartbeats 2000000 in
theorem eqBk_any (b : Bk) (us ul us' ul' : Value) (w : World) (h : RBk w us ul b) (h' : RBk w us' ul' b) :
    Calls Tryz.prog 35 #[.agg #[us, ul], .agg #[us', ul']] w fun e w' => e = .returned (.bool true) ∧ Below w.heap.size w w' := by
  obtain ⟨stocks, lines⟩ := b
  obtain ⟨a, cap, a2, cap2, rfl, rfl⟩ := h.val
  obtain ⟨a', cap', a2', cap2', rfl, rfl⟩ := h'.val
  dsimp only at h h' ⊢
  have b0 : Below w.heap.size w ((w.alloc (.cells #[.slice a stocks.length cap, .slice a2 lines.length cap2] 38)).alloc (.cells #[.slice a' stocks.length cap', .slice a2' lines.length cap2'] 38)) := ((Below.refl _ _).alloc (Nat.le_refl _) _).alloc (by simp) _
  have hx0 : ((w.alloc (.cells #[.slice a stocks.length cap, .slice a2 lines.length cap2] 38)).alloc (.cells #[.slice a' stocks.length cap', .slice a2' lines.length cap2'] 38)).heap[w.heap.size]? = some (.cells #[.slice a stocks.length cap, .slice a2 lines.length cap2] 38) := by
    rw [((Below.refl (w.alloc (.cells #[.slice a stocks.length cap, .slice a2 lines.length cap2] 38)).heap.size (w.alloc (.cells #[.slice a stocks.length cap, .slice a2 lines.length cap2] 38))).alloc (Nat.le_refl _) _).block _ (by simp)]
    exact World.alloc_heap_new _ _
  have hx1 : ((w.alloc (.cells #[.slice a stocks.length cap, .slice a2 lines.length cap2] 38)).alloc (.cells #[.slice a' stocks.length cap', .slice a2' lines.length cap2'] 38)).heap[w.heap.size + 1]? = some (.cells #[.slice a' stocks.length cap', .slice a2' lines.length cap2'] 38) := by
    have := World.alloc_heap_new (w.alloc (.cells #[.slice a stocks.length cap, .slice a2 lines.length cap2] 38)) (.cells #[.slice a' stocks.length cap', .slice a2' lines.length cap2'] 38)
    simpa using this
  have H : Hid (RBk ((w.alloc (.cells #[.slice a stocks.length cap, .slice a2 lines.length cap2] 38)).alloc (.cells #[.slice a' stocks.length cap', .slice a2' lines.length cap2'] 38)) (.slice a stocks.length cap) (.slice a2 lines.length cap2) ⟨stocks, lines⟩ ∧ RBk ((w.alloc (.cells #[.slice a stocks.length cap, .slice a2 lines.length cap2] 38)).alloc (.cells #[.slice a' stocks.length cap', .slice a2' lines.length cap2'] 38)) (.slice a' stocks.length cap') (.slice a2' lines.length cap2') ⟨stocks, lines⟩) := ⟨h.below b0, h'.below b0⟩
  clear h h'
  go_enter Tryz.func35, Tryz.ntmps35
  go_wp2_with fail
  refine (eqSts_any _ _ stocks _ H.out.1.st H.out.2.st).mono ?_
  rintro e w1 ⟨rfl, hb⟩
  have HC : Hid (Below w.heap.size w w1 ∧ Below ((w.alloc (.cells #[.slice a stocks.length cap, .slice a2 lines.length cap2] 38)).alloc (.cells #[.slice a' stocks.length cap', .slice a2' lines.length cap2'] 38)).heap.size ((w.alloc (.cells #[.slice a stocks.length cap, .slice a2 lines.length cap2] 38)).alloc (.cells #[.slice a' stocks.length cap', .slice a2' lines.length cap2'] 38)) w1) := ⟨b0.trans (hb.mono (by simp; omega)), hb⟩
  obtain ⟨y0, y1⟩ := box2 ((hb.block _ (by simp; omega)).trans hx0)
  obtain ⟨z0, z1⟩ := box2 ((hb.block _ (by simp)).trans hx1)
  clear hb hx0 hx1
  go_wp2_with fail
  refine (eqOls_any _ _ lines _ (H.out.1.ln.below HC.out.2) (H.out.2.ln.below HC.out.2)).mono ?_
  rintro e w2 ⟨rfl, hb2⟩
  have HD : Hid (Below w.heap.size w w2) := HC.out.1.trans (hb2.mono HC.out.1.size)
  clear hb2 y0 y1 z0 z1
  go_wp2
  go_ret
  exact ⟨rfl, HD.out⟩
end Go.Proofs.YtkgkahlhekecmaaGreat
namespace Go.Proofs.YtkgkahlhekecmaaGreat
open Go.ChangeShapes Go.WideShapes Go.ChangeAt Go.RowKit
set_option maxHeartbeats 1000000 in
theorem eqDf_any (g : Dff) (w : World) :
    Calls Tryz.prog 77 #[.agg #[.int .i64 g.kind, .string g.partner, .string g.ref, .int .i64 g.no, .string g.item, .int .i64 g.qty], .agg #[.int .i64 g.kind, .string g.partner, .string g.ref, .int .i64 g.no, .string g.item, .int .i64 g.qty]] w fun e w' => e = .returned (.bool true) ∧ Below w.heap.size w w' := by
  obtain ⟨kind, partner, ref, no, item, qty⟩ := g
  dsimp only
  have b0 : Below w.heap.size w ((w.alloc (.cells #[.int .i64 kind, .string partner, .string ref, .int .i64 no, .string item, .int .i64 qty] 110)).alloc (.cells #[.int .i64 kind, .string partner, .string ref, .int .i64 no, .string item, .int .i64 qty] 110)) := ((Below.refl _ _).alloc (Nat.le_refl _) _).alloc (by simp) _
  go_enter Tryz.func77, Tryz.ntmps77
  go_wp2
  go_ret
  exact ⟨rfl, b0⟩
set_option maxHeartbeats 2000000 in
theorem eqDfs_any (v v' : Value) (rs : List Dff) (w : World) (h : RowDf w v rs) (h' : RowDf w v' rs) :
    Calls Tryz.prog 36 #[v, v'] w fun e w' => e = .returned (.bool true) ∧ Below w.heap.size w w' := by
  have hlen := h.len
  obtain ⟨a, cap, rfl⟩ := h.val
  obtain ⟨a', cap', rfl⟩ := h'.val
  have H : Hid (RowDf w (.slice a rs.length cap) rs ∧ RowDf w (.slice a' rs.length cap') rs) := ⟨h, h'⟩
  clear h h'
  go_enter Tryz.func36, Tryz.ntmps36
  go_wp2
  go_loopw [5] (fun i wr => ∃ k : Nat, i = .int .i64 (k : Int) ∧ k ≤ rs.length ∧ Below w.heap.size w wr) (fun i _ => rs.length - (intOf i).toNat)
  case atStart => exact ⟨0, rfl, by omega, Below.refl _ _⟩
  case round =>
    obtain ⟨k, rfl, hk, hb⟩ := hrel
    by_cases hlt : k < rs.length
    · have hlt' : (k : Int) < (rs.length : Int) := by omega
      obtain ⟨b, o, c1, g, e, hs, ⟨q0, q1, q2, q3, q4, q5⟩, _⟩ := (H.out.1.below hb).at hlt
      obtain ⟨b', o', c2, g', e', hs', ⟨p0, p1, p2, p3, p4, p5⟩, _⟩ := (H.out.2.below hb).at hlt
      simp only [Value.slice.injEq, true_and] at e e'
      obtain ⟨rfl, rfl⟩ := e
      obtain ⟨rfl, rfl⟩ := e'
      obtain rfl : g = g' := by rw [hs] at hs'; exact Option.some.inj hs'
      have HB : Hid (Below w.heap.size w wr) := hb
      clear hs hs' hb
      have l1 := cell_lt q0
      have l2 := cell_lt p0
      go_wp2_with fail
      go_region_held3 (fun W => W.cell? ⟨b, o + k * 6, none⟩ = some (.int .i64 g.kind) ∧ W.cell? ⟨b, o + k * 6 + 1, none⟩ = some (.string g.partner) ∧ W.cell? ⟨b, o + k * 6 + 2, none⟩ = some (.string g.ref) ∧ W.cell? ⟨b, o + k * 6 + 3, none⟩ = some (.int .i64 g.no) ∧ W.cell? ⟨b, o + k * 6 + 4, none⟩ = some (.string g.item) ∧ W.cell? ⟨b, o + k * 6 + 5, none⟩ = some (.int .i64 g.qty) ∧ W.cell? ⟨b', o' + k * 6, none⟩ = some (.int .i64 g.kind) ∧ W.cell? ⟨b', o' + k * 6 + 1, none⟩ = some (.string g.partner) ∧ W.cell? ⟨b', o' + k * 6 + 2, none⟩ = some (.string g.ref) ∧ W.cell? ⟨b', o' + k * 6 + 3, none⟩ = some (.int .i64 g.no) ∧ W.cell? ⟨b', o' + k * 6 + 4, none⟩ = some (.string g.item) ∧ W.cell? ⟨b', o' + k * 6 + 5, none⟩ = some (.int .i64 g.qty)) (go_keep) (first | (go_at_call 77; refine (eqDf_any g _).mono ?_; rintro e w2 ⟨rfl, hb2⟩; have yb0 := (hb2.cell (p := ⟨b, o + k * 6, none⟩) l1).trans q0; have yb1 := (hb2.cell (p := ⟨b, o + k * 6 + 1, none⟩) l1).trans q1; have yb2 := (hb2.cell (p := ⟨b, o + k * 6 + 2, none⟩) l1).trans q2; have yb3 := (hb2.cell (p := ⟨b, o + k * 6 + 3, none⟩) l1).trans q3; have yb4 := (hb2.cell (p := ⟨b, o + k * 6 + 4, none⟩) l1).trans q4; have yb5 := (hb2.cell (p := ⟨b, o + k * 6 + 5, none⟩) l1).trans q5; have yp0 := (hb2.cell (p := ⟨b', o' + k * 6, none⟩) l2).trans p0; have yp1 := (hb2.cell (p := ⟨b', o' + k * 6 + 1, none⟩) l2).trans p1; have yp2 := (hb2.cell (p := ⟨b', o' + k * 6 + 2, none⟩) l2).trans p2; have yp3 := (hb2.cell (p := ⟨b', o' + k * 6 + 3, none⟩) l2).trans p3; have yp4 := (hb2.cell (p := ⟨b', o' + k * 6 + 4, none⟩) l2).trans p4; have yp5 := (hb2.cell (p := ⟨b', o' + k * 6 + 5, none⟩) l2).trans p5))
      have HB2 : Hid (Below w.heap.size w w2) := HB.out.drew.trans (hb2.mono HB.out.size)
      clear hb2
      rename_i hHeld
      clear hHeld
      go_wp2
      go_roundw
      case rel => exact ⟨k + 1, by go_num, by omega, HB2.out⟩
      case measure => simp [intOf]; omega
    · obtain rfl : k = rs.length := by omega
      have HB : Hid (Below w.heap.size w wr) := hb
      clear hb
      go_wp2
      go_ret
      exact ⟨rfl, HB.out⟩
end Go.Proofs.YtkgkahlhekecmaaGreat
namespace Go.Proofs.YtkgkahlhekecmaaGreat
open Go.ChangeShapes Go.WideShapes Go.ChangeAt Go.RowKit
set_option maxHeartbeats 1000000 in
theorem eqOu_any (g : OutR) (w : World) :
    Calls Tryz.prog 78 #[.agg #[.string g.partner, .int .i64 g.number, .string g.text, .int .i64 g.tries, .int .i64 g.due], .agg #[.string g.partner, .int .i64 g.number, .string g.text, .int .i64 g.tries, .int .i64 g.due]] w fun e w' => e = .returned (.bool true) ∧ Below w.heap.size w w' := by
  obtain ⟨partner, number, text, tries, due⟩ := g
  dsimp only
  have b0 : Below w.heap.size w ((w.alloc (.cells #[.string partner, .int .i64 number, .string text, .int .i64 tries, .int .i64 due] 112)).alloc (.cells #[.string partner, .int .i64 number, .string text, .int .i64 tries, .int .i64 due] 112)) := ((Below.refl _ _).alloc (Nat.le_refl _) _).alloc (by simp) _
  go_enter Tryz.func78, Tryz.ntmps78
  go_wp2
  go_ret
  exact ⟨rfl, b0⟩
set_option maxHeartbeats 2000000 in
theorem eqOus_any (v v' : Value) (rs : List OutR) (w : World) (h : RowOu w v rs) (h' : RowOu w v' rs) :
    Calls Tryz.prog 37 #[v, v'] w fun e w' => e = .returned (.bool true) ∧ Below w.heap.size w w' := by
  have hlen := h.len
  obtain ⟨a, cap, rfl⟩ := h.val
  obtain ⟨a', cap', rfl⟩ := h'.val
  have H : Hid (RowOu w (.slice a rs.length cap) rs ∧ RowOu w (.slice a' rs.length cap') rs) := ⟨h, h'⟩
  clear h h'
  go_enter Tryz.func37, Tryz.ntmps37
  go_wp2
  go_loopw [5] (fun i wr => ∃ k : Nat, i = .int .i64 (k : Int) ∧ k ≤ rs.length ∧ Below w.heap.size w wr) (fun i _ => rs.length - (intOf i).toNat)
  case atStart => exact ⟨0, rfl, by omega, Below.refl _ _⟩
  case round =>
    obtain ⟨k, rfl, hk, hb⟩ := hrel
    by_cases hlt : k < rs.length
    · have hlt' : (k : Int) < (rs.length : Int) := by omega
      obtain ⟨b, o, c1, g, e, hs, ⟨q0, q1, q2, q3, q4⟩, _⟩ := (H.out.1.below hb).at hlt
      obtain ⟨b', o', c2, g', e', hs', ⟨p0, p1, p2, p3, p4⟩, _⟩ := (H.out.2.below hb).at hlt
      simp only [Value.slice.injEq, true_and] at e e'
      obtain ⟨rfl, rfl⟩ := e
      obtain ⟨rfl, rfl⟩ := e'
      obtain rfl : g = g' := by rw [hs] at hs'; exact Option.some.inj hs'
      have HB : Hid (Below w.heap.size w wr) := hb
      clear hs hs' hb
      have l1 := cell_lt q0
      have l2 := cell_lt p0
      go_wp2_with fail
      go_region_held3 (fun W => W.cell? ⟨b, o + k * 5, none⟩ = some (.string g.partner) ∧ W.cell? ⟨b, o + k * 5 + 1, none⟩ = some (.int .i64 g.number) ∧ W.cell? ⟨b, o + k * 5 + 2, none⟩ = some (.string g.text) ∧ W.cell? ⟨b, o + k * 5 + 3, none⟩ = some (.int .i64 g.tries) ∧ W.cell? ⟨b, o + k * 5 + 4, none⟩ = some (.int .i64 g.due) ∧ W.cell? ⟨b', o' + k * 5, none⟩ = some (.string g.partner) ∧ W.cell? ⟨b', o' + k * 5 + 1, none⟩ = some (.int .i64 g.number) ∧ W.cell? ⟨b', o' + k * 5 + 2, none⟩ = some (.string g.text) ∧ W.cell? ⟨b', o' + k * 5 + 3, none⟩ = some (.int .i64 g.tries) ∧ W.cell? ⟨b', o' + k * 5 + 4, none⟩ = some (.int .i64 g.due)) (go_keep) (first | (go_at_call 78; refine (eqOu_any g _).mono ?_; rintro e w2 ⟨rfl, hb2⟩; have yb0 := (hb2.cell (p := ⟨b, o + k * 5, none⟩) l1).trans q0; have yb1 := (hb2.cell (p := ⟨b, o + k * 5 + 1, none⟩) l1).trans q1; have yb2 := (hb2.cell (p := ⟨b, o + k * 5 + 2, none⟩) l1).trans q2; have yb3 := (hb2.cell (p := ⟨b, o + k * 5 + 3, none⟩) l1).trans q3; have yb4 := (hb2.cell (p := ⟨b, o + k * 5 + 4, none⟩) l1).trans q4; have yp0 := (hb2.cell (p := ⟨b', o' + k * 5, none⟩) l2).trans p0; have yp1 := (hb2.cell (p := ⟨b', o' + k * 5 + 1, none⟩) l2).trans p1; have yp2 := (hb2.cell (p := ⟨b', o' + k * 5 + 2, none⟩) l2).trans p2; have yp3 := (hb2.cell (p := ⟨b', o' + k * 5 + 3, none⟩) l2).trans p3; have yp4 := (hb2.cell (p := ⟨b', o' + k * 5 + 4, none⟩) l2).trans p4))
      have HB2 : Hid (Below w.heap.size w w2) := HB.out.drew.trans (hb2.mono HB.out.size)
      clear hb2
      rename_i hHeld
      clear hHeld
      go_wp2
      go_roundw
      case rel => exact ⟨k + 1, by go_num, by omega, HB2.out⟩
      case measure => simp [intOf]; omega
    · obtain rfl : k = rs.length := by omega
      have HB : Hid (Below w.heap.size w wr) := hb
      clear hb
      go_wp2
      go_ret
      exact ⟨rfl, HB.out⟩
end Go.Proofs.YtkgkahlhekecmaaGreat
namespace Go.Proofs.YtkgkahlhekecmaaGreat
open Go.ChangeShapes Go.WideShapes Go.ChangeAt Go.RowKit
theorem fl_twoG (w : World) (a b : Obj) : ((w.alloc a).alloc b).heap[w.heap.size]? = some a ∧ ((w.alloc a).alloc b).heap[w.heap.size + 1]? = some b := by
  have e : ((w.alloc a).alloc b).heap = (w.heap.push a).push b := rfl
  rw [e]
  simp only [Array.getElem?_push, Array.size_push]
  refine ⟨?_, ?_⟩
  · rw [if_neg (by omega), if_pos trivial]
  · rw [if_pos trivial]
set_option maxHeartbeats 4000000 in
theorem eqGt_any (g : Gat) (up uc us ul ud uo : Value) (up' uc' us' ul' ud' uo' : Value) (w : World) (h : RGt w up uc us ul ud uo g) (h' : RGt w up' uc' us' ul' ud' uo' g) :
    Calls Tryz.prog 9 #[.agg #[.string g.name, .int .i64 g.day, up, uc, us, ul, ud, uo], .agg #[.string g.name, .int .i64 g.day, up', uc', us', ul', ud', uo']] w fun e w' => e = .returned (.bool true) ∧ Below w.heap.size w w' := by
  obtain ⟨a0, c0, a1, c1, a2, c2, a3, c3, a4, c4, a5, c5, rfl, rfl, rfl, rfl, rfl, rfl⟩ := h.val
  obtain ⟨b0, d0, b1, d1, b2, d2, b3, d3, b4, d4, b5, d5, rfl, rfl, rfl, rfl, rfl, rfl⟩ := h'.val
  obtain ⟨W0, hW0⟩ : ∃ W0, ((w.alloc (.cells #[.string g.name, .int .i64 g.day, (.slice a0 g.ptns.length c0), (.slice a1 g.crss.length c1), (.slice a2 g.book.stocks.length c2), (.slice a3 g.book.lines.length c3), (.slice a4 g.dffs.length c4), (.slice a5 g.outs.length c5)] 42)).alloc (.cells #[.string g.name, .int .i64 g.day, (.slice b0 g.ptns.length d0), (.slice b1 g.crss.length d1), (.slice b2 g.book.stocks.length d2), (.slice b3 g.book.lines.length d3), (.slice b4 g.dffs.length d4), (.slice b5 g.outs.length d5)] 42)) = W0 := ⟨_, rfl⟩
  have hb0 : Below w.heap.size w W0 := by rw [← hW0]; exact ((Below.refl _ _).alloc (Nat.le_refl _) _).alloc (by simp) _
  have h2 := fl_twoG w (.cells #[.string g.name, .int .i64 g.day, (.slice a0 g.ptns.length c0), (.slice a1 g.crss.length c1), (.slice a2 g.book.stocks.length c2), (.slice a3 g.book.lines.length c3), (.slice a4 g.dffs.length c4), (.slice a5 g.outs.length c5)] 42) (.cells #[.string g.name, .int .i64 g.day, (.slice b0 g.ptns.length d0), (.slice b1 g.crss.length d1), (.slice b2 g.book.stocks.length d2), (.slice b3 g.book.lines.length d3), (.slice b4 g.dffs.length d4), (.slice b5 g.outs.length d5)] 42)
  rw [hW0] at h2
  have HB : Hid (Below w.heap.size w W0) := hb0
  have HK : Hid (∀ W, Below W0.heap.size W0 W → W.heap[w.heap.size]? = some (.cells #[.string g.name, .int .i64 g.day, (.slice a0 g.ptns.length c0), (.slice a1 g.crss.length c1), (.slice a2 g.book.stocks.length c2), (.slice a3 g.book.lines.length c3), (.slice a4 g.dffs.length c4), (.slice a5 g.outs.length c5)] 42) ∧ W.heap[w.heap.size + 1]? = some (.cells #[.string g.name, .int .i64 g.day, (.slice b0 g.ptns.length d0), (.slice b1 g.crss.length d1), (.slice b2 g.book.stocks.length d2), (.slice b3 g.book.lines.length d3), (.slice b4 g.dffs.length d4), (.slice b5 g.outs.length d5)] 42)) := fun W hW => ⟨(hW.block _ (Array.getElem?_eq_some_iff.1 h2.1).1).trans h2.1, (hW.block _ (Array.getElem?_eq_some_iff.1 h2.2).1).trans h2.2⟩
  have H : Hid (RGt W0 (.slice a0 g.ptns.length c0) (.slice a1 g.crss.length c1) (.slice a2 g.book.stocks.length c2) (.slice a3 g.book.lines.length c3) (.slice a4 g.dffs.length c4) (.slice a5 g.outs.length c5) g ∧ RGt W0 (.slice b0 g.ptns.length d0) (.slice b1 g.crss.length d1) (.slice b2 g.book.stocks.length d2) (.slice b3 g.book.lines.length d3) (.slice b4 g.dffs.length d4) (.slice b5 g.outs.length d5) g) := ⟨h.below hb0, h'.below hb0⟩
  have H0 : Hid (Below W0.heap.size W0 W0) := Below.refl _ _
  clear h h' hb0 h2
  go_enter Tryz.func9, Tryz.ntmps9
  go_upto_region 1 with fail
  try rw [hW0]
  clear hW0
  obtain ⟨x0, x1, x2, x3, x4, x5, x6, x7⟩ := bx8 (HK.out _ H0.out).1
  obtain ⟨y0, y1, y2, y3, y4, y5, y6, y7⟩ := bx8 (HK.out _ H0.out).2
  go_wp2_with fail
  refine (eqsPt_any _ _ g.ptns _ (H.out.1.pt.below H0.out) (H.out.2.pt.below H0.out)).mono ?_
  rintro e w1 ⟨rfl, hb⟩
  have H1 : Hid (Below W0.heap.size W0 w1) := H0.out.trans (hb.mono H0.out.size)
  clear hb x0 x1 x2 x3 x4 x5 x6 x7 y0 y1 y2 y3 y4 y5 y6 y7
  obtain ⟨x0, x1, x2, x3, x4, x5, x6, x7⟩ := bx8 (HK.out _ H1.out).1
  obtain ⟨y0, y1, y2, y3, y4, y5, y6, y7⟩ := bx8 (HK.out _ H1.out).2
  go_wp2_with fail
  refine (eqCss_any _ _ g.crss _ (H.out.1.cs.below H1.out) (H.out.2.cs.below H1.out)).mono ?_
  rintro e w2 ⟨rfl, hb⟩
  have H2 : Hid (Below W0.heap.size W0 w2) := H1.out.trans (hb.mono H1.out.size)
  clear hb x0 x1 x2 x3 x4 x5 x6 x7 y0 y1 y2 y3 y4 y5 y6 y7
  obtain ⟨x0, x1, x2, x3, x4, x5, x6, x7⟩ := bx8 (HK.out _ H2.out).1
  obtain ⟨y0, y1, y2, y3, y4, y5, y6, y7⟩ := bx8 (HK.out _ H2.out).2
  go_wp2_with fail
  refine (eqBk_any g.book _ _ _ _ _ (H.out.1.bk.below H2.out) (H.out.2.bk.below H2.out)).mono ?_
  rintro e w3 ⟨rfl, hb⟩
  have H3 : Hid (Below W0.heap.size W0 w3) := H2.out.trans (hb.mono H2.out.size)
  clear hb x0 x1 x2 x3 x4 x5 x6 x7 y0 y1 y2 y3 y4 y5 y6 y7
  obtain ⟨x0, x1, x2, x3, x4, x5, x6, x7⟩ := bx8 (HK.out _ H3.out).1
  obtain ⟨y0, y1, y2, y3, y4, y5, y6, y7⟩ := bx8 (HK.out _ H3.out).2
  go_wp2_with fail
  refine (eqDfs_any _ _ g.dffs _ (H.out.1.df.below H3.out) (H.out.2.df.below H3.out)).mono ?_
  rintro e w4 ⟨rfl, hb⟩
  have H4 : Hid (Below W0.heap.size W0 w4) := H3.out.trans (hb.mono H3.out.size)
  clear hb x0 x1 x2 x3 x4 x5 x6 x7 y0 y1 y2 y3 y4 y5 y6 y7
  obtain ⟨x0, x1, x2, x3, x4, x5, x6, x7⟩ := bx8 (HK.out _ H4.out).1
  obtain ⟨y0, y1, y2, y3, y4, y5, y6, y7⟩ := bx8 (HK.out _ H4.out).2
  go_wp2_with fail
  refine (eqOus_any _ _ g.outs _ (H.out.1.ou.below H4.out) (H.out.2.ou.below H4.out)).mono ?_
  rintro e w5 ⟨rfl, hb⟩
  have H5 : Hid (Below W0.heap.size W0 w5) := H4.out.trans (hb.mono H4.out.size)
  clear hb x0 x1 x2 x3 x4 x5 x6 x7 y0 y1 y2 y3 y4 y5 y6 y7
  go_wp2
  go_ret
  exact ⟨rfl, HB.out.trans (H5.out.mono HB.out.size)⟩
end Go.Proofs.YtkgkahlhekecmaaGreat
