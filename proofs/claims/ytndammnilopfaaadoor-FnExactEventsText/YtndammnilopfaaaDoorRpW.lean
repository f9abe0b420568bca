/- Contract of the report's write. -/
import Derived.Test.YtndammnilopfaaaDoorRpA
import Derived.Deep.AppendLies
import Derived.Deep.RegionLaw
import Derived.Deep.Cut
import Derived.Deep.CutRange
namespace Go.Proofs.YtndammnilopfaaaDoor
open Go.ChangeShapes Go.WideShapes Go.ChangeAt Go.RowKit
theorem rep_words {n0 R : Nat} {W w4 : World} {wv ev v4 : Value} {rs : List (List ByteArray)} {cs : List ByteArray} (h : Rep n0 R W wv ev rs) (hg : W.grownBy w4 wv.ownBlock) (hs : n0 ≤ W.heap.size) (ho : w4.ownsRow n0 9 1 v4 (rs.flatten ++ cs).length ((rs.flatten ++ cs).map Value.string)) :
    (w4.setCell ⟨R, 0, none⟩ v4).heap[R]? = some (.cells #[v4, ev] 46) ∧ (w4.setCell ⟨R, 0, none⟩ v4).ownsRow n0 9 1 v4 (rs.flatten ++ cs).length ((rs.flatten ++ cs).map Value.string) ∧ (w4.setCell ⟨R, 0, none⟩ v4).ownsRow n0 3 1 ev rs.length (endV rs) ∧ Below n0 W (w4.setCell ⟨R, 0, none⟩ v4) ∧ w4.heap[R]? = some (.cells #[wv, ev] 46) ∧ KT W (w4.setCell ⟨R, 0, none⟩ v4) := by
  have hb : w4.heap[R]? = some (.cells #[wv, ev] 46) := (hg.block R h.lt (fun e => rp_apart h.words h.box (by decide) e.symm)).trans h.box
  have he : w4.ownsRow n0 3 1 ev rs.length (endV rs) := by
    rcases h.ends.2 with ⟨e1, e2⟩ | ⟨g, cap, cur, e1, h1, h2, h3⟩
    · exact ⟨h.ends.1, .inl ⟨e1, e2⟩⟩
    · refine ⟨h.ends.1, .inr ⟨g, cap, cur, e1, h1, ?_, h3⟩⟩
      exact (hg.block g (Array.getElem?_eq_some_iff.1 h2).1 (fun e => rp_apart h.words h2 (by decide) e.symm)).trans h2
  have hbl : Below n0 W w4 := ⟨hg.os, hg.tape, hg.output, hg.size, fun j hj => hg.block j (by omega) (fun e => by have := (h.words.lt j e.symm).1; omega)⟩
  refine ⟨?_, ownsRow_setCell_other (a := ⟨R, 0, none⟩) ho (rp_apart ho hb (by decide)) _, ownsRow_setCell_other (a := ⟨R, 0, none⟩) he (rp_apart he hb (by decide)) _, hbl.setCell h.hR _, hb, KT.step hg h.words (.inl rfl) hb⟩
  simp [World.setCell, Array.getElem?_modify, hb]
theorem rep_ends {n0 R : Nat} {W w4 : World} {v4 ev u : Value} {o : Obj} {rs : List (List ByteArray)} {cs : List ByteArray} (hR : n0 ≤ R) (hx : W.heap[R]? = some (.cells #[v4, ev] 46)) (hw : W.ownsRow n0 9 1 v4 (rs.flatten ++ cs).length ((rs.flatten ++ cs).map Value.string)) (he : W.ownsRow n0 3 1 ev rs.length (endV rs)) (hg : (W.alloc o).drew.grownBy w4 ev.ownBlock) (hs : n0 ≤ W.heap.size) (ho : w4.ownsRow n0 3 1 u (rs.length + 1) (endV rs ++ [.int .i64 ((rs.flatten.length + cs.length : Nat) : Int)])) :
    Rep n0 R (w4.setCell ⟨R, 1, none⟩ u) v4 u (rs ++ [cs]) ∧ Below n0 W (w4.setCell ⟨R, 1, none⟩ u) ∧ w4.heap[R]? = some (.cells #[v4, ev] 46) ∧ KT W (w4.setCell ⟨R, 1, none⟩ u) := by
  have hRl := (Array.getElem?_eq_some_iff.1 hx).1
  have ha : Below W.heap.size W (W.alloc o).drew := ((Below.refl _ _).alloc (Nat.le_refl _) o).drew
  have hx' : (W.alloc o).drew.heap[R]? = some (.cells #[v4, ev] 46) := (ha.block _ hRl).trans hx
  have he' := own1_below he ha
  have hw' := own1_below hw ha
  have hsz := ha.size
  have hb : w4.heap[R]? = some (.cells #[v4, ev] 46) := (hg.block R (by omega) (fun e => rp_apart he' hx' (by decide) e.symm)).trans hx'
  have hww : w4.ownsRow n0 9 1 v4 (rs.flatten ++ cs).length ((rs.flatten ++ cs).map Value.string) := by
    rcases hw'.2 with ⟨e1, e2⟩ | ⟨g, cap, cur, e1, h1, h2, h3⟩
    · exact ⟨hw'.1, .inl ⟨e1, e2⟩⟩
    · refine ⟨hw'.1, .inr ⟨g, cap, cur, e1, h1, ?_, h3⟩⟩
      exact (hg.block g (Array.getElem?_eq_some_iff.1 h2).1 (fun e => rp_apart he' h2 (by decide) e.symm)).trans h2
  have hbl : Below n0 W w4 := (ha.mono hs).trans ⟨hg.os, hg.tape, hg.output, hg.size, fun j hj => hg.block j (by omega) (fun e => by have := (he'.lt j e.symm).1; omega)⟩
  refine ⟨⟨?_, ?_, ?_, hR⟩, hbl.setCell hR _, hb, (KT.of_below ha).trans (KT.step hg he' (.inr rfl) hb)⟩
  · simp [World.setCell, Array.getElem?_modify, hb]
  · have := ownsRow_setCell_other (a := ⟨R, 1, none⟩) hww (rp_apart hww hb (by decide)) u
    unfold wordV
    rw [List.flatten_append, List.flatten_singleton]
    exact this
  · have := ownsRow_setCell_other (a := ⟨R, 1, none⟩) ho (rp_apart ho hb (by decide)) u
    rw [endV_app, List.length_append]
    exact this
theorem rp_box {W : World} {b t : Nat} {x0 x1 : Value} (h : W.heap[b]? = some (.cells #[x0, x1] t)) : W.cell? ⟨b, 0, none⟩ = some x0 ∧ W.cell? ⟨b, 1, none⟩ = some x1 ∧ W.frozen? ⟨b, 0, none⟩ = false ∧ W.frozen? ⟨b, 1, none⟩ = false := by
  simp [World.cell?, World.frozen?, h]
theorem own_form {W : World} {base e n : Nat} {v : Value} {xs : List Value} (h : W.ownsRow base e 1 v n xs) : ∃ A C, v = .slice A n C := by
  rcases h.2 with ⟨rfl, rfl⟩ | ⟨g, cap, cur, rfl, _⟩
  · exact ⟨_, _, rfl⟩
  · exact ⟨_, _, rfl⟩
set_option maxHeartbeats 8000000 in
theorem write_any (n0 R c C : Nat) (wv ev : Value) (rs : List (List ByteArray)) (cs : List ByteArray) (w : World) (h : Rep n0 R w wv ev rs) (hg : ∀ j t, cs[j]? = some t → w.cell? ⟨c, j, none⟩ = some (.string t)) (hc : 0 < cs.length) (hl : rs.flatten.length + cs.length ≤ 1000000) (hr : rs.length ≤ 1000000) (hs : n0 ≤ w.heap.size) :
    Calls Tryd.prog 21 #[.pointer (some ⟨R, 0, none⟩), .slice (some ⟨c, 0, none⟩) cs.length C] w fun e w' => e = .returned (.tuple #[]) ∧ (∃ wv' ev', Rep n0 R w' wv' ev' (rs ++ [cs])) ∧ Below n0 w w' ∧ KT w w' := by
  obtain ⟨A0, C0, rfl⟩ := own_form h.words
  obtain ⟨A1, C1, rfl⟩ := own_form h.ends
  have HH : Hid (Rep n0 R w (.slice A0 rs.flatten.length C0) (.slice A1 rs.length C1) rs) := h
  obtain ⟨k0, k1, f0, f1⟩ := rp_box h.box
  have hrow := h.words
  unfold wordV at hrow
  obtain ⟨ss, hss⟩ : ∃ ss, ss = rs.flatten := ⟨_, rfl⟩
  rw [← hss] at hrow k0 hl
  have HS : Hid (ss = rs.flatten) := hss
  have hl2 : ss.length + cs.length ≤ 2000000 := by omega
  have hRn := h.hR
  try rw [← hss]
  clear h hss
  go_enter Tryd.func21, Tryd.ntmps21
  go_wp2_with (first | (at_builtin; refine wpList_appsTx (base := n0) (c := c) (C := C) (lv := .slice A0 ss.length C0) (ss := ss) (cs := cs) rfl (.tmp 8) (.tmp 9) rfl rfl rfl hrow hg hc hl2 hs ?_; rintro v4 w4 hown4 hgrow4 ⟨A4, C4, rfl⟩; have k4 := rep_words HH.out (by rw [← HS.out]; exact hgrow4) hs (by rw [← HS.out]; exact hown4); obtain ⟨m0, m1, n0', n1'⟩ := rp_box k4.2.2.2.2.1; try rw [← HS.out] at m0))
  have e4 : (ss ++ cs).length = ss.length + cs.length := List.length_append
  rw [e4] at k4
  obtain ⟨N, hN⟩ : ∃ N, N = ss.length + cs.length := ⟨_, rfl⟩
  rw [← hN] at k4 ⊢
  have hN1 : N ≤ 1000000 := by omega
  have HN : Hid (N = rs.flatten.length + cs.length) := by show _ = _; rw [hN, HS.out]
  obtain ⟨W5, hW5⟩ : ∃ W5, w4.setCell ⟨R, 0, none⟩ (.slice A4 N C4) = W5 := ⟨_, rfl⟩
  rw [hW5] at k4 ⊢
  clear hW5 e4 hN m0 m1 n0' n1' k0 k1 f0 f1 hown4 hgrow4 hrow hg hl hl2
  obtain ⟨x5, y5, hE, b5, _, kt5⟩ := k4
  obtain ⟨p0, p1, q0, q1⟩ := rp_box x5
  have hs5 : n0 ≤ W5.heap.size := Nat.le_trans hs b5.size
  have H5 : Hid (W5.heap[R]? = some (.cells #[.slice A4 N C4, .slice A1 rs.length C1] 46) ∧ W5.ownsRow n0 9 1 (.slice A4 N C4) (rs.flatten ++ cs).length ((rs.flatten ++ cs).map Value.string) ∧ W5.ownsRow n0 3 1 (.slice A1 rs.length C1) rs.length (endV rs) ∧ Below n0 w W5 ∧ KT w W5) := ⟨x5, y5, hE, b5, kt5⟩
  have x5a : (W5.alloc (.cells #[.int .i64 (N : Int)] 3)).heap[R]? = some (.cells #[.slice A4 N C4, .slice A1 rs.length C1] 46) := (((Below.refl _ W5).alloc (Nat.le_refl _) _).block _ (Array.getElem?_eq_some_iff.1 x5).1).trans x5
  obtain ⟨pa0, pa1, qa0, qa1⟩ := rp_box x5a
  clear x5 y5 b5 HH HS x5a kt5
  obtain ⟨i0, hi, hz0, hz1, hz2⟩ := info_parts infoIt
  have hmx : rs.length + 1 ≤ maxLen := by unfold maxLen; omega
  go_region_law (refine step_append_lies _ (by rfl) _ _ _ (by rfl) n0 3 i0 _ 1 8 Tryd.underlying44 hi hz0 hz1 hz2 rfl (by omega) (.slice A1 rs.length C1) rs.length (endV rs) (by rfl) ((hE.alloc _).drew) ⟨W5.heap.size, 0, none⟩ 1 1 [.int .i64 (N : Int)] (by rfl) (by rfl) (World.news_of_block (cs := #[.int .i64 (N : Int)]) (t := 3) (fr := (0, 0)) (World.alloc_heap_new W5 (.cells #[.int .i64 (N : Int)] 3))) (by simp [Value.oneCell']) (by omega) hmx (by omega) (by simp; omega) (W5.heap.size + 1) (by simp) ?_; intro gg cap w6 hown6 hgrow6 hat6 hlt6; have k6 := rep_ends hRn H5.out.1 H5.out.2.1 H5.out.2.2.1 hgrow6 hs5 (by rw [← HN.out]; exact hown6); obtain ⟨g0, g1, j0, j1⟩ := rp_box k6.2.2.1)
  all_goals
    have HF : Hid (Rep n0 R (w6.setCell ⟨R, 1, none⟩ (.slice (some ⟨gg, 0, none⟩) (rs.length + 1) cap)) (.slice A4 N C4) (.slice (some ⟨gg, 0, none⟩) (rs.length + 1) cap) (rs ++ [cs]) ∧ Below n0 w (w6.setCell ⟨R, 1, none⟩ (.slice (some ⟨gg, 0, none⟩) (rs.length + 1) cap)) ∧ KT w (w6.setCell ⟨R, 1, none⟩ (.slice (some ⟨gg, 0, none⟩) (rs.length + 1) cap))) := ⟨k6.1, H5.out.2.2.2.1.trans k6.2.1, H5.out.2.2.2.2.trans k6.2.2.2⟩
    clear k6 hown6 hgrow6 hat6 hlt6
    go_wp2
    go_end0
    exact ⟨rfl, ⟨_, _, HF.out.1⟩, HF.out.2.1, HF.out.2.2⟩
end Go.Proofs.YtndammnilopfaaaDoor
