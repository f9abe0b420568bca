/- Texts of ours put together: RpK. -/
import Derived.Test.YtjmkdpnoihpfoaaGreatDoorG11
import Derived.Deep.AppendLies
import Derived.Deep.RegionLaw
import Derived.Deep.Cut
import Derived.Deep.CutRange
namespace Go.Proofs.YtjmkdpnoihpfoaaGreatDoor
open Go.ChangeShapes Go.WideShapes Go.ChangeAt Go.RowKit
/-- An append of a list of texts, at the list of a plain region's operations. -/
theorem wpList_appsTxI {ops : Array Oper} {rest : List Oper} {o : Oper} {a : Act} {Q : Exit → Act → World → Prop} {W : World} {base c C : Nat} {lv : Value} {ss cs : List ByteArray} (hgd : o.guard = none) (s x : Operand)
    (ho : o.op = .call { callee := .builtin .append, args := #[s, x], argTypes := #[38, 38] })
    (hs' : a.eval s = lv) (hx : a.eval x = .slice (some ⟨c, 0, none⟩) cs.length C) (h : W.ownsRow base 9 1 lv ss.length (ss.map Value.string)) (hg : ∀ j t, cs[j]? = some t → W.cell? ⟨c, j, none⟩ = some (.string t)) (hc : 0 < cs.length) (hl : ss.length + cs.length ≤ 2000000) (hbase : base ≤ W.heap.size)
    (k : ∀ v' w', w'.ownsRow base 9 1 v' (ss ++ cs).length ((ss ++ cs).map Value.string) → W.grownBy w' lv.ownBlock → (∃ g C, v' = .slice (some ⟨g, 0, none⟩) (ss ++ cs).length C ∧ (lv.ownBlock = some g ∨ g = W.heap.size)) → wpList Tryz.prog ops Q rest (a.put o.dst v') w') : wpList Tryz.prog ops Q (o :: rest) a W := by
  obtain ⟨i0, hi, hz0, hz1, hz2⟩ := info_parts infoTx
  refine wpList_append_lies W hgd s x 38 ho base 9 i0 (.string ⟨#[]⟩) 1 16 Tryz.underlying38 hi hz0 hz1 hz2 rfl (by decide) lv ss.length (ss.map Value.string) hs' h ⟨c, 0, none⟩ cs.length C (cs.map Value.string) hx (by simp) (fun j u hu => ?_) (fun u hu => ?_) hc (by unfold maxLen; omega) (by omega) hbase W.heap.size rfl ?_
  · rw [List.getElem?_map] at hu
    obtain ⟨g, hg', rfl⟩ := Option.map_eq_some_iff.1 hu
    rw [fl_addr]
    have := hg j g hg'
    simpa using this
  · obtain ⟨z, _, rfl⟩ := List.mem_map.1 hu
    rfl
  · intro g cap w' hown hgrow hat _
    have e : ss.length + cs.length = (ss ++ cs).length := by rw [List.length_append]
    rw [e] at hown
    rw [e]
    exact k _ w' (by rw [List.map_append]; exact hown) hgrow ⟨g, cap, rfl, hat⟩
/-- Neither ends nor a report. -/
def NIR (o : Obj) : Prop := (∀ cs fr, o ≠ .cells cs 3 fr) ∧ ∀ cs fr, o ≠ .cells cs 47 fr
/-- What is not the report's own is as it was; a is where its words lay, b where they lie. -/
def KI (w w' : World) (a b : Value) : Prop := ∀ (j : Nat) (o : Obj), w.heap[j]? = some o → NIR o → a.ownBlock ≠ some j → w'.heap[j]? = some o ∧ b.ownBlock ≠ some j
theorem KI.trans {w1 w2 w3 : World} {a b c : Value} (h : KI w1 w2 a b) (h' : KI w2 w3 b c) : KI w1 w3 a c := fun j o hj hn ha => by
  obtain ⟨h1, h2⟩ := h j o hj hn ha
  exact h' j o h1 hn h2
theorem KI.of_below {w w' : World} {a : Value} (h : Below w.heap.size w w') : KI w w' a a := fun j _ hj _ ha => ⟨(h.block j (Array.getElem?_eq_some_iff.1 hj).1).trans hj, ha⟩
theorem ni_apart {B e K n b : Nat} {W : World} {v : Value} {xs : List Value} {o : Obj} (h : W.ownsRow B e K v n xs) (hb : W.heap[b]? = some o) (hne : ∀ cs fr, o ≠ .cells cs e fr) : v.ownBlock ≠ some b := fun hv => by
  rcases h.2 with ⟨rfl, _⟩ | ⟨g, cap, cur, rfl, _, h2, _⟩
  · cases hv
  · simp only [Value.ownBlock, Option.some.injEq] at hv
    subst hv
    have := h2.symm.trans hb
    simp only [Option.some.injEq] at this
    exact hne _ _ this.symm
theorem KI.words {n0 R N C g : Nat} {W w4 : World} {wv ev : Value} {rs : List (List ByteArray)} (h : Rep n0 R W wv ev rs) (hg : W.grownBy w4 wv.ownBlock) (hat : wv.ownBlock = some g ∨ g = W.heap.size) {n : Nat} {xs : List Value} (_ho : w4.ownsRow n0 9 1 (.slice (some ⟨g, 0, none⟩) N C) n xs) : KI W (w4.setCell ⟨R, 0, none⟩ (.slice (some ⟨g, 0, none⟩) N C)) wv (.slice (some ⟨g, 0, none⟩) N C) := fun j o hj hn ha => by
  have hjl := (Array.getElem?_eq_some_iff.1 hj).1
  have h4 : w4.heap[j]? = some o := (hg.block j hjl (fun e => ha e.symm)).trans hj
  have hne : j ≠ R := fun e => by
    subst e
    rw [h.box] at hj
    cases hj
    exact hn.2 _ _ rfl
  refine ⟨by rw [Below.heap_setCell _ _ _ _ hne]; exact h4, fun e => ?_⟩
  simp only [Value.ownBlock, Option.some.injEq] at e
  rcases hat with h | h
  · rw [e] at h
    exact ha h
  · omega
theorem KI.ends {n0 R : Nat} {W w4 : World} {v4 ev x a : Value} {o' : Obj} {n : Nat} {xs : List Value} (hx : W.heap[R]? = some (.cells #[v4, ev] 47)) (he : W.ownsRow n0 3 1 ev n xs) (hg : (W.alloc o').drew.grownBy w4 ev.ownBlock) : KI W (w4.setCell ⟨R, 1, none⟩ x) a a := fun j o hj hn ha => by
  have hjl := (Array.getElem?_eq_some_iff.1 hj).1
  have hb : Below W.heap.size W (W.alloc o').drew := ((Below.refl _ _).alloc (Nat.le_refl _) o').drew
  have h3 : (W.alloc o').drew.heap[j]? = some o := (hb.block _ hjl).trans hj
  have h4 : w4.heap[j]? = some o := (hg.block j (Array.getElem?_eq_some_iff.1 h3).1 (fun e => ni_apart he hj hn.1 e.symm)).trans h3
  have hne : j ≠ R := fun e => by
    subst e
    rw [hx] at hj
    cases hj
    exact hn.2 _ _ rfl
  exact ⟨by rw [Below.heap_setCell _ _ _ _ hne]; exact h4, ha⟩
set_option maxHeartbeats 8000000 in
theorem write_anyI (n0 R c C : Nat) (wv ev : Value) (rs : List (List ByteArray)) (cs : List ByteArray) (w : World) (h : Rep n0 R w wv ev rs) (hg : ∀ j t, cs[j]? = some t → w.cell? ⟨c, j, none⟩ = some (.string t)) (hc : 0 < cs.length) (hl : rs.flatten.length + cs.length ≤ 1000000) (hr : rs.length ≤ 1000000) (hs : n0 ≤ w.heap.size) :
    Calls Tryz.prog 38 #[.pointer (some ⟨R, 0, none⟩), .slice (some ⟨c, 0, none⟩) cs.length C] w fun e w' => e = .returned (.tuple #[]) ∧ (∃ wv' ev', Rep n0 R w' wv' ev' (rs ++ [cs]) ∧ KI w w' wv wv') ∧ Below n0 w w' := by
  obtain ⟨A0, C0, rfl⟩ := own_form h.words
  obtain ⟨A1, C1, rfl⟩ := own_form h.ends
  have HH : Hid (Rep n0 R w (.slice A0 rs.flatten.length C0) (.slice A1 rs.length C1) rs) := h
  obtain ⟨k0, k1, f0, f1⟩ := rp_box h.box
  have hrow := h.words
  unfold wordV at hrow
  obtain ⟨ss, hss⟩ : ∃ ss, ss = rs.flatten := ⟨_, rfl⟩
  rw [← hss] at hrow k0 hl
  have HS : Hid (ss = rs.flatten) := hss
  have hl2 : ss.length + cs.length ≤ 2000000 := by omega
  have hRn := h.hR
  try rw [← hss]
  clear h hss
  go_enter Tryz.func38, Tryz.ntmps38
  go_wp2_with (first | (at_builtin; refine wpList_appsTxI (base := n0) (c := c) (C := C) (lv := .slice A0 ss.length C0) (ss := ss) (cs := cs) rfl (.tmp 8) (.tmp 9) rfl rfl rfl hrow hg hc hl2 hs ?_; rintro v4 w4 hown4 hgrow4 ⟨g4, C4, rfl, hat4⟩; have ki4 := KI.words HH.out (by rw [← HS.out]; exact hgrow4) (by rw [← HS.out]; exact hat4) (N := (ss ++ cs).length) (C := C4) hown4; have k4 := rep_words HH.out (by rw [← HS.out]; exact hgrow4) hs (by rw [← HS.out]; exact hown4); obtain ⟨m0, m1, n0', n1'⟩ := rp_box k4.2.2.2.2.1; try rw [← HS.out] at m0))
  have e4 : (ss ++ cs).length = ss.length + cs.length := List.length_append
  rw [e4] at k4 ki4
  obtain ⟨N, hN⟩ : ∃ N, N = ss.length + cs.length := ⟨_, rfl⟩
  rw [← hN] at k4 ki4 ⊢
  have hN1 : N ≤ 1000000 := by omega
  have HN : Hid (N = rs.flatten.length + cs.length) := by show _ = _; rw [hN, HS.out]
  obtain ⟨W5, hW5⟩ : ∃ W5, w4.setCell ⟨R, 0, none⟩ (.slice (some ⟨g4, 0, none⟩) N C4) = W5 := ⟨_, rfl⟩
  rw [hW5] at k4 ki4 ⊢
  clear hW5 e4 hN m0 m1 n0' n1' k0 k1 f0 f1 hown4 hgrow4 hat4 hrow hg hl hl2
  obtain ⟨x5, y5, hE, b5, _, kt5⟩ := k4
  obtain ⟨p0, p1, q0, q1⟩ := rp_box x5
  have hs5 : n0 ≤ W5.heap.size := Nat.le_trans hs b5.size
  have H5 : Hid (W5.heap[R]? = some (.cells #[.slice (some ⟨g4, 0, none⟩) N C4, .slice A1 rs.length C1] 47) ∧ W5.ownsRow n0 9 1 (.slice (some ⟨g4, 0, none⟩) N C4) (rs.flatten ++ cs).length ((rs.flatten ++ cs).map Value.string) ∧ W5.ownsRow n0 3 1 (.slice A1 rs.length C1) rs.length (endV rs) ∧ Below n0 w W5 ∧ KI w W5 (.slice A0 rs.flatten.length C0) (.slice (some ⟨g4, 0, none⟩) N C4)) := ⟨x5, y5, hE, b5, ki4⟩
  have x5a : (W5.alloc (.cells #[.int .i64 (N : Int)] 3)).heap[R]? = some (.cells #[.slice (some ⟨g4, 0, none⟩) N C4, .slice A1 rs.length C1] 47) := (((Below.refl _ W5).alloc (Nat.le_refl _) _).block _ (Array.getElem?_eq_some_iff.1 x5).1).trans x5
  obtain ⟨pa0, pa1, qa0, qa1⟩ := rp_box x5a
  clear x5 y5 b5 HH x5a kt5 ki4
  obtain ⟨i0, hi, hz0, hz1, hz2⟩ := info_parts infoIt
  have hmx : rs.length + 1 ≤ maxLen := by unfold maxLen; omega
  go_region_law (refine step_append_lies _ (by rfl) _ _ _ (by rfl) n0 3 i0 _ 1 8 Tryz.underlying45 hi hz0 hz1 hz2 rfl (by omega) (.slice A1 rs.length C1) rs.length (endV rs) (by rfl) ((hE.alloc _).drew) ⟨W5.heap.size, 0, none⟩ 1 1 [.int .i64 (N : Int)] (by rfl) (by rfl) (World.news_of_block (cs := #[.int .i64 (N : Int)]) (t := 3) (fr := (0, 0)) (World.alloc_heap_new W5 (.cells #[.int .i64 (N : Int)] 3))) (by simp [Value.oneCell']) (by omega) hmx (by omega) (by simp; omega) (W5.heap.size + 1) (by simp) ?_; intro gg cap w6 hown6 hgrow6 hat6 hlt6; have ki6 := KI.ends H5.out.1 H5.out.2.2.1 hgrow6 (a := .slice (some ⟨g4, 0, none⟩) N C4) (x := .slice (some ⟨gg, 0, none⟩) (rs.length + 1) cap); have k6 := rep_ends hRn H5.out.1 H5.out.2.1 H5.out.2.2.1 hgrow6 hs5 (by rw [← HN.out]; exact hown6); obtain ⟨g0, g1, j0, j1⟩ := rp_box k6.2.2.1)
  all_goals
    have HF : Hid (Rep n0 R (w6.setCell ⟨R, 1, none⟩ (.slice (some ⟨gg, 0, none⟩) (rs.length + 1) cap)) (.slice (some ⟨g4, 0, none⟩) N C4) (.slice (some ⟨gg, 0, none⟩) (rs.length + 1) cap) (rs ++ [cs]) ∧ Below n0 w (w6.setCell ⟨R, 1, none⟩ (.slice (some ⟨gg, 0, none⟩) (rs.length + 1) cap)) ∧ KI w (w6.setCell ⟨R, 1, none⟩ (.slice (some ⟨gg, 0, none⟩) (rs.length + 1) cap)) (.slice A0 rs.flatten.length C0) (.slice (some ⟨g4, 0, none⟩) N C4)) := ⟨k6.1, H5.out.2.2.2.1.trans k6.2.1, H5.out.2.2.2.2.trans ki6⟩
    clear k6 ki6 hown6 hgrow6 hat6 hlt6
    go_wp2
    go_end0
    exact ⟨rfl, ⟨_, _, HF.out.1, by (try rw [HS.out]); exact HF.out.2.2⟩, HF.out.2.1⟩
end Go.Proofs.YtjmkdpnoihpfoaaGreatDoor
