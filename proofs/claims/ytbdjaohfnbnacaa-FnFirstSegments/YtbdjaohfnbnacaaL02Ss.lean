/- Contract of the model's l02Segments: it tells some list of at most 201 segments in rows of the call's own. -/
import Derived.Test.YtbdjaohfnbnacaaL02S
import Derived.Test.YtbdjaohfnbnacaaOwnL
import Derived.Test.YtbdjaohfnbnacaaRightGS
namespace Go.Proofs.Ytbdjaohfnbnacaa
open Go.ChangeShapes Go.WideShapes Go.ChangeAt Go.RowKit Go.Shelf
theorem rowz_mono {n₀ n₁ t z k : Nat} {W : World} {v : Value} {xs : List Value} (h : W.ownsRow n₁ t z v k xs) (hn : n₀ ≤ n₁) : W.ownsRow n₀ t z v k xs := by
  refine ⟨h.1, ?_⟩
  rcases h.2 with q | ⟨g, cap, cur, e, hb, r⟩
  · exact .inl q
  · exact .inr ⟨g, cap, cur, e, Nat.le_trans hn hb, r⟩
/-- Segments in rows from n₀ on, each one's elements too. -/
structure OwnWL (n₀ : Nat) (W : World) (v : Value) (ps : List (Value × List Value)) (gs : List Seg) : Prop where
  len : ps.length = gs.length
  row : W.ownsRow n₀ 44 2 v gs.length (cellsL gs ps)
  segs : ∀ (i : Nat) (p : Value × List Value) (g : Seg), ps[i]? = some p → gs[i]? = some g → OwnW n₀ W p.1 p.2 g.2
theorem OwnWL.same {n₀ : Nat} {W W' : World} {v : Value} {ps : List (Value × List Value)} {gs : List Seg} (h : OwnWL n₀ W v ps gs) (hs : ∀ g, n₀ ≤ g → g < W.heap.size → W'.heap[g]? = W.heap[g]?) : OwnWL n₀ W' v ps gs :=
  ⟨h.len, row_sameW h.row fun g h1 h2 _ => hs g h1 h2, fun i p g hp hg => (h.segs i p g hp hg).same hs⟩
theorem OwnWL.keep {n₀ B : Nat} {W W' : World} {v : Value} {ps : List (Value × List Value)} {gs : List Seg} (h : OwnWL n₀ W v ps gs) (hk : Keep B W W') (hB : B < n₀) : OwnWL n₀ W' v ps gs :=
  h.same fun g h1 h2 => hk.block g h2 (by omega)
theorem OwnWL.below {n₀ : Nat} {W W' : World} {v : Value} {ps : List (Value × List Value)} {gs : List Seg} (h : OwnWL n₀ W v ps gs) (hb : Below W.heap.size W W') : OwnWL n₀ W' v ps gs :=
  h.same fun g _ h2 => hb.block g h2
theorem OwnWL.set {n₀ B : Nat} {W : World} {v : Value} {ps : List (Value × List Value)} {gs : List Seg} (h : OwnWL n₀ W v ps gs) (hB : B < n₀) (i : Nat) (x : Value) : OwnWL n₀ (W.setCell ⟨B, i, none⟩ x) v ps gs :=
  h.same fun g h1 _ => Below.heap_setCell W ⟨B, i, none⟩ x g (show g ≠ B by omega)
theorem OwnWL.mono {n₀ n₁ : Nat} {W : World} {v : Value} {ps : List (Value × List Value)} {gs : List Seg} (h : OwnWL n₁ W v ps gs) (hn : n₀ ≤ n₁) : OwnWL n₀ W v ps gs :=
  ⟨h.len, rowz_mono h.row hn, fun i p g hp hg => (h.segs i p g hp hg).mono hn⟩
theorem OwnWL.slice {n₀ : Nat} {W : World} {v : Value} {ps : List (Value × List Value)} {gs : List Seg} (h : OwnWL n₀ W v ps gs) : ∃ A C, v = .slice A gs.length C := by
  rcases h.row.2 with ⟨rfl, h0⟩ | ⟨g, cap, cur, rfl, _⟩
  · exact ⟨none, 0, by rw [h0]⟩
  · exact ⟨_, _, rfl⟩
theorem OwnWL.cap {n₀ N C : Nat} {W : World} {A : Option Addr} {ps : List (Value × List Value)} {gs : List Seg} (h : OwnWL n₀ W (.slice A N C) ps gs) : gs.length ≤ C := by
  rcases h.row.2 with ⟨e, h0⟩ | ⟨g, cap, cur, e, _, _, h1, _⟩
  · omega
  · simp only [Value.slice.injEq] at e
    omega
theorem obj_apart' {W : World} {n₀ n₁ e e' z z' k k' : Nat} {v v' : Value} {xs xs' : List Value} (h : W.ownsRow n₀ e z v k xs) (h' : W.ownsRow n₁ e' z' v' k' xs') (hne : e ≠ e') : v.ownBlock = none ∨ v.ownBlock ≠ v'.ownBlock := by
  cases hv : v.ownBlock with
  | none => exact .inl rfl
  | some g => exact .inr fun e => obj_apart h h' hne g hv e.symm
theorem OwnW.grow {n₀ n₁ k : Nat} {W W' : World} {v lv : Value} {vals xs : List Value} {es : List (List ByteArray)} (h : OwnW n₀ W v vals es) (hg : W.grownBy W' lv.ownBlock) (hl : W.ownsRow n₁ 44 2 lv k xs) : OwnW n₀ W' v vals es := by
  refine ⟨h.len, h.row.kept hg (obj_apart' h.row hl (by decide)), fun i u e hu he => ?_⟩
  have p1 := h.parts i u e hu he
  exact p1.kept hg (obj_apart' p1 hl (by decide))
/-- One segment more. -/
theorem OwnWL.push {n₀ : Nat} {W w4 : World} {v v' u : Value} {vals : List Value} {ps : List (Value × List Value)} {gs : List Seg} {g : Seg} (h : OwnWL n₀ W v ps gs) (hu : OwnW n₀ W u vals g.2)
    (hown : w4.ownsRow n₀ 44 2 v' (gs.length + 1) (cellsL gs ps ++ [.string g.1, u])) (hg : W.grownBy w4 v.ownBlock) : OwnWL n₀ w4 v' (ps ++ [(u, vals)]) (gs ++ [g]) := by
  refine ⟨by simp [h.len], ?_, fun i x y hx hy => ?_⟩
  · rw [cellsL_snoc h.len]
    simpa using hown
  · rcases Nat.lt_or_ge i ps.length with q | q
    · rw [List.getElem?_append_left q] at hx
      rw [List.getElem?_append_left (by rw [← h.len]; exact q)] at hy
      exact (h.segs i x y hx hy).grow hg h.row
    · have hi : i = ps.length := by
        have := (List.getElem?_eq_some_iff.1 hx).1
        simp at this
        omega
      subst hi
      rw [List.getElem?_append_right (Nat.le_refl _)] at hx
      rw [h.len, List.getElem?_append_right (Nat.le_refl _)] at hy
      simp at hx hy
      subst hx hy
      exact hu.grow hg h.row
def BdGs (gs : List Seg) : Prop := ∀ g ∈ gs, g.1.size ≤ 100 ∧ g.2.length ≤ 12 ∧ BdW g.2
theorem OwnWL.rowG {n₀ : Nat} {W : World} {v : Value} {ps : List (Value × List Value)} {gs : List Seg} (h : OwnWL n₀ W v ps gs) (hX : BdGs gs) (hl : gs.length ≤ 1048576) : RowG W v gs := by
  refine ⟨?_, by omega, fun i g hi => Nat.le_trans (hX g (List.mem_of_getElem? hi)).1 (by omega)⟩
  rcases h.row.2 with ⟨rfl, h0⟩ | ⟨g, cap, cur, rfl, _⟩
  · exact ⟨none, 0, by rw [h0], fun hn => absurd (List.length_eq_zero_iff.1 h0) hn⟩
  · refine ⟨_, _, rfl, fun _ => ⟨g, 0, rfl, fun i e hi => ?_⟩⟩
    have hlt := (List.getElem?_eq_some_iff.1 hi).1
    have hv : ps[i]? = some (ps[i]'(by rw [h.len]; exact hlt)) := List.getElem?_eq_getElem _
    obtain ⟨g1, g2⟩ := cellsL_get hi hv
    have h1 := h.row.cells (g := g) rfl _ _ g1
    have h2 := h.row.cells (g := g) rfl _ _ g2
    have e1 : ∀ i, (⟨g, 0, none⟩ : Addr).add i = ⟨g, 0 + i, none⟩ := fun i => by unfold Addr.add; split <;> simp_all
    rw [e1] at h1 h2
    obtain ⟨b1, b2, b3⟩ := hX e (List.mem_of_getElem? hi)
    exact ⟨h1, _, h2, (h.segs i _ e hv hi).rowE b3 (by omega)⟩
theorem bdGs_bdG {gs : List Seg} (h : BdGs gs) (hl : gs.length ≤ 1048576) : BdG 1048576 gs := by
  refine ⟨hl, fun i g hi => ?_⟩
  obtain ⟨b1, b2, b3⟩ := h g (List.mem_of_getElem? hi)
  refine ⟨by omega, by omega, fun j e hj => ?_⟩
  have hm := b3 e (List.mem_of_getElem? hj)
  exact ⟨by omega, fun k t hk => Nat.le_trans (hm.2 t (List.mem_of_getElem? hk)) (by omega)⟩
theorem bdE_of {es : List (List ByteArray)} (h : BdW es) (hl : es.length ≤ 12) : BdE 1048576 es := by
  refine ⟨by omega, fun j e hj => ?_⟩
  have hm := h e (List.mem_of_getElem? hj)
  exact ⟨by omega, fun k t hk => Nat.le_trans (hm.2 t (List.mem_of_getElem? hk)) (by omega)⟩
theorem srcSize {B : Nat} {w : World} (h : IsSrc B w) : ∃ z : Int, w.cell? ⟨B, 3, none⟩ = some (.int .i64 z) ∧ 0 ≤ z ∧ z ≤ 12 := by
  obtain ⟨a, len, cap, zs, at_, mix, size, h⟩ := h
  exact ⟨size, h.c3, h.size0, h.size1⟩
theorem cell_two_to (w : World) (x y : Value) (t : TypeId) (g : Nat) (hg : g = w.heap.size) : ∀ j u, [x, y][j]? = some u → (w.alloc (.cells #[x, y] t)).cell? ((⟨g, 0, none⟩ : Addr).add j) = some u := by
  subst hg
  intro j u hu
  have e1 : (⟨w.heap.size, 0, none⟩ : Addr).add j = ⟨w.heap.size, 0 + j, none⟩ := by unfold Addr.add; split <;> simp_all
  rw [e1]
  rcases j with _ | _ | j
  · simp at hu
    simp [go_sem, hu]
  · simp at hu
    simp [go_sem, hu]
  · simp at hu
/-- What stands while segments are drawn. -/
structure WS (B : Nat) (w W : World) (v : Value) (ps : List (Value × List Value)) (gs : List Seg) : Prop where
  own : OwnWL w.heap.size W v ps gs
  bd : BdGs gs
  src : IsSrc B W
  kp : Keep B w W
theorem WS.keep {B : Nat} {w W W' : World} {v : Value} {ps : List (Value × List Value)} {gs : List Seg} (h : WS B w W v ps gs) (hlt : B < w.heap.size) (hk : Keep B W W') (hs : IsSrc B W') : WS B w W' v ps gs :=
  ⟨h.own.keep hk hlt, h.bd, hs, h.kp.trans hk⟩
theorem WS.push {B : Nat} {w W w4 : World} {v v' u : Value} {vals : List Value} {ps : List (Value × List Value)} {gs : List Seg} {g : Seg} {x : Obj} (h : WS B w W v ps gs) (hlt : B < w.heap.size) (hu : OwnW w.heap.size W u vals g.2) (hb : g.1.size ≤ 100 ∧ g.2.length ≤ 12 ∧ BdW g.2)
    (hg : (W.alloc x).grownBy w4 v.ownBlock) (hown : w4.ownsRow w.heap.size 44 2 v' (gs.length + 1) (cellsL gs ps ++ [.string g.1, u])) : WS B w w4 v' (ps ++ [(u, vals)]) (gs ++ [g]) := by
  have hbA : Below W.heap.size W (W.alloc x) := (Below.refl _ _).alloc (Nat.le_refl _) _
  have hz := h.kp.size
  have hold : ∀ k, k < w.heap.size → w4.heap[k]? = W.heap[k]? := fun k hk => by
    rw [hg.block k (by simp; omega) (row2_ne h.own.row hk).symm, Below.heap_alloc _ _ _ (by omega)]
  have hsz : W.heap.size ≤ w4.heap.size := Nat.le_trans (by simp) hg.size
  have hbb : Below w.heap.size W w4 := ⟨hg.os, hg.tape, hg.output, hsz, fun k hk => hold k hk⟩
  refine ⟨(h.own.below hbA).push (hu.below hbA) hown hg, fun e he => ?_, h.src.below (hbb.mono hlt), ⟨hbb.os.trans h.kp.os, hbb.tape.trans h.kp.tape, hbb.output.trans h.kp.output, Nat.le_trans h.kp.size hsz, fun k hk hB => (hold k hk).trans (h.kp.block k hk hB)⟩⟩
  rcases List.mem_append.1 he with q | q
  · exact h.bd e q
  · simp only [List.mem_cons, List.not_mem_nil, or_false] at q
    rw [q]
    exact hb
set_option maxRecDepth 20000 in
set_option maxHeartbeats 4000000 in
theorem l02Segments_any (B : Nat) (w : World) (hS : IsSrc B w) :
    Calls Try.prog 13 #[.pointer (some ⟨B, 0, none⟩)] w fun e w' => ∃ (v : Value) (ps : List (Value × List Value)) (gs : List Seg), e = .returned v ∧ gs.length ≤ 201 ∧ OwnWL w.heap.size w' v ps gs ∧ BdGs gs ∧ IsSrc B w' ∧ Keep B w w' := by
  have hlt := hS.lt
  obtain ⟨z, hz, hz0, hz1⟩ := srcSize hS
  have HS : Hid (IsSrc B w) := hS
  clear hS
  go_enter Try.func13, Try.ntmps13
  go_wp2_with fail
  refine (n_any B (4 + z) _ (by omega) (by omega) (HS.out.below ((Below.refl _ _).alloc (by omega) _))).mono ?_
  rintro e w1 ⟨n0, rfl, hn0, hn1, hs1, hk1⟩
  have H1 : Hid (IsSrc B w1 ∧ Keep B w w1 ∧ w1.heap[w.heap.size]? = some (.cells #[] 44)) := ⟨hs1, ((Keep.refl B w).alloc _).trans hk1, (hk1.block w.heap.size (by simp) (by omega)).trans (World.alloc_heap_new w _)⟩
  clear hs1 hk1
  go_wp2_with fail
  refine (one_any B 60 _ (by omega) (by omega) H1.out.1).mono ?_
  rintro e w2 ⟨b2, rfl, hs2, hk2⟩
  have hS0 : WS B w w2 (.slice (some ⟨w.heap.size, 0, none⟩) 0 0) [] [] := by
    have hk := H1.out.2.1.trans hk2
    have hb2 : w2.heap[w.heap.size]? = some (.cells #[] 44) := (hk2.block w.heap.size (Array.getElem?_eq_some_iff.1 H1.out.2.2).1 (by omega)).trans H1.out.2.2
    exact ⟨⟨rfl, ⟨rfl, .inr ⟨w.heap.size, 0, #[], rfl, Nat.le_refl _, hb2, Nat.le_refl _, Nat.zero_le _, rfl, rfl⟩⟩, fun i p g h => by simp at h⟩, fun g hg => by simp at hg, hs2, hk⟩
  have H2 : Hid (WS B w w2 (.slice (some ⟨w.heap.size, 0, none⟩) 0 0) [] []) := hS0
  obtain ⟨i0, hi, hz0', hz1', hz2'⟩ := info_parts infoSg
  clear hs2 hk2 H1 HS hS0
  cases b2
  · go_wp2_with fail
    go_loopw [3, 4] (fun o n wr => ∃ (k : Int) (ps : List (Value × List Value)) (gs : List Seg), n = .int .i64 k ∧ 0 ≤ k ∧ (gs.length : Int) + k ≤ 201 ∧ WS B w wr o ps gs) (fun _ n _ => (intOf n).toNat)
    case atStart => exact ⟨n0, [], [], rfl, hn0, by simp; omega, H2.out⟩
    case round =>
      obtain ⟨k, ps, gs, rfl, hk0, hkl, hW⟩ := hrel
      obtain ⟨A, C, hv⟩ := hW.own.slice
      subst hv
      have hsz := hW.kp.size
      have HW : Hid (WS B w wr (.slice A gs.length C) ps gs) := hW
      clear hW
      by_cases hk : 0 < k
      · go_wp2_with fail
        refine (l02Segment_any B _ HW.out.src).mono ?_
        rintro e w3 ⟨tag, v3, vals, es, rfl, htz, hel, hO, hB, hs3, hk3⟩
        obtain ⟨Av, Nv, Cv, hv3⟩ := row_slice hO.row
        subst hv3
        have hz3 := hk3.size
        have hlt3 := hs3.lt
        have hbx : Below w3.heap.size w3 (w3.alloc (.cells #[.string tag, .slice Av Nv Cv] 44)) := (Below.refl _ _).alloc (Nat.le_refl _) _
        have H3 : Hid (WS B w (w3.alloc (.cells #[.string tag, .slice Av Nv Cv] 44)) (.slice A gs.length C) ps gs ∧ OwnW w.heap.size (w3.alloc (.cells #[.string tag, .slice Av Nv Cv] 44)) (.slice Av Nv Cv) vals es ∧ BdW es) := ⟨(HW.out.keep hlt hk3 hs3).keep hlt (Keep.of_below hbx) (hs3.below (hbx.mono (by omega))), (hO.mono (by omega)).below hbx, hB⟩
        have c0 : (w3.alloc (.cells #[.string tag, .slice Av Nv Cv] 44)).cell? ⟨w3.heap.size, 0, none⟩ = some (.string tag) := by simp [go_sem]
        have c1 : (w3.alloc (.cells #[.string tag, .slice Av Nv Cv] 44)).cell? ⟨w3.heap.size, 1, none⟩ = some (.slice Av Nv Cv) := by simp [go_sem]
        have hz4 : (w3.alloc (.cells #[.string tag, .slice Av Nv Cv] 44)).heap.size = w3.heap.size + 1 := by simp
        clear hO hB hs3 hk3 HW hbx
        go_wp2_with fail
        generalize (w3.alloc (.cells #[.string tag, .slice Av Nv Cv] 44)) = W4 at *
        refine (right_seg_spec tag _ es _ (H3.out.2.1.rowE H3.out.2.2 (by omega)) (bdE_of H3.out.2.2 (by omega))).mono ?_
        rintro e w5 ⟨rfl, hb5⟩
        have d0 := (hb5.cell (cell_lt c0)).trans c0
        have d1 := (hb5.cell (cell_lt c1)).trans c1
        have hz5 := hb5.size
        have H5 : Hid (WS B w w5 (.slice A gs.length C) ps gs ∧ OwnW w.heap.size w5 (.slice Av Nv Cv) vals es ∧ BdW es) := ⟨H3.out.1.keep hlt (Keep.of_below hb5) (H3.out.1.src.below (hb5.mono (by omega))), H3.out.2.1.below hb5, H3.out.2.2⟩
        clear hb5 H3 c0 c1
        have hmx : gs.length + 1 ≤ maxLen := by unfold maxLen; omega
        cases hrg : rightG tag es
        · go_wp2_with fail
          refine (one_any B 30 _ (by omega) (by omega) H5.out.1.src).mono ?_
          rintro e w6 ⟨b6, rfl, hs6, hk6⟩
          have e0 := hk6.cell d0 (by omega)
          have e1 := hk6.cell d1 (by omega)
          have hz6 := hk6.size
          have H6 : Hid (WS B w w6 (.slice A gs.length C) ps gs ∧ OwnW w.heap.size w6 (.slice Av Nv Cv) vals es ∧ BdW es) := ⟨H5.out.1.keep hlt hk6 hs6, H5.out.2.1.keep hk6 hlt, H5.out.2.2⟩
          clear hs6 hk6 H5 d0 d1
          cases b6
          · go_wp2
            go_roundw
            case rel => exact ⟨k - 1, ps, gs, by go_num, by omega, by omega, H6.out.1⟩
            case measure => simp [intOf]; omega
          · have tok1 : True := trivial
            go_wp2_with (at_builtin; have _t := tok1; refine wpList_append_own _ rfl _ _ 25 rfl w.heap.size 44 i0 (.agg #[.string ⟨#[]⟩, .slice none 0 0]) 2 40 Try.underlying25 hi hz0' hz1' hz2' rfl (by decide) _ _ _ rfl (H6.out.1.own.row.alloc _) ⟨_, 0, none⟩ 1 1 [.string tag, .slice Av Nv Cv] rfl rfl (cell_two_to _ _ _ _ _ (by simp)) (by simp [Value.oneCell']) hmx (by omega) (by simp; omega) ?_; intro u' w7 hown' hgrow _; have HW7 : Hid (WS B w w7 u' (ps ++ [(.slice Av Nv Cv, vals)]) (gs ++ [(tag, es)])) := (H6.out.1.push (g := (tag, es)) hlt H6.out.2.1 ⟨htz, hel, H6.out.2.2⟩ hgrow hown'); clear tok1 hown' hgrow)
            go_roundw
            case rel => exact ⟨k - 1, _, _, by go_num, by omega, by simp; omega, HW7.out⟩
            case measure => simp [intOf]; omega
        · have tok1 : True := trivial
          go_wp2_with (at_builtin; have _t := tok1; refine wpList_append_own _ rfl _ _ 25 rfl w.heap.size 44 i0 (.agg #[.string ⟨#[]⟩, .slice none 0 0]) 2 40 Try.underlying25 hi hz0' hz1' hz2' rfl (by decide) _ _ _ rfl (H5.out.1.own.row.alloc _) ⟨_, 0, none⟩ 1 1 [.string tag, .slice Av Nv Cv] rfl rfl (cell_two_to _ _ _ _ _ (by simp)) (by simp [Value.oneCell']) hmx (by omega) (by simp; omega) ?_; intro u' w7 hown' hgrow _; have HW7 : Hid (WS B w w7 u' (ps ++ [(.slice Av Nv Cv, vals)]) (gs ++ [(tag, es)])) := (H5.out.1.push (g := (tag, es)) hlt H5.out.2.1 ⟨htz, hel, H5.out.2.2⟩ hgrow hown'); clear tok1 hown' hgrow)
          go_roundw
          case rel => exact ⟨k - 1, _, _, by go_num, by omega, by simp; omega, HW7.out⟩
          case measure => simp [intOf]; omega
      · go_wp2
        go_ret
        exact ⟨_, rfl, ps, gs, by omega, HW.out.own, HW.out.bd, HW.out.src, HW.out.kp⟩
  · go_wp2_with fail
    refine (n_any B 3 _ (by omega) (by omega) H2.out.src).mono ?_
    rintro e w3 ⟨n3, rfl, h30, h31, hs3, hk3⟩
    have H3 : Hid (WS B w w3 (.slice (some ⟨w.heap.size, 0, none⟩) 0 0) [] []) := H2.out.keep hlt hk3 hs3
    clear hs3 hk3 H2
    go_wp2_with fail
    go_loopw [3, 4] (fun o n wr => ∃ (k : Int) (ps : List (Value × List Value)) (gs : List Seg), n = .int .i64 k ∧ 0 ≤ k ∧ (gs.length : Int) + k ≤ 201 ∧ WS B w wr o ps gs) (fun _ n _ => (intOf n).toNat)
    case atStart => exact ⟨199 + n3, [], [], rfl, by omega, by simp; omega, H3.out⟩
    case round =>
      obtain ⟨k, ps, gs, rfl, hk0, hkl, hW⟩ := hrel
      obtain ⟨A, C, hv⟩ := hW.own.slice
      subst hv
      have hsz := hW.kp.size
      have HW : Hid (WS B w wr (.slice A gs.length C) ps gs) := hW
      clear hW
      by_cases hk : 0 < k
      · have hmx : gs.length + 1 ≤ maxLen := by unfold maxLen; omega
        have tok1 : True := trivial
        go_wp2_with (at_builtin; have _t := tok1; refine wpList_append_own _ rfl _ _ 25 rfl w.heap.size 44 i0 (.agg #[.string ⟨#[]⟩, .slice none 0 0]) 2 40 Try.underlying25 hi hz0' hz1' hz2' rfl (by decide) _ _ _ rfl (HW.out.own.row.alloc _) ⟨_, 0, none⟩ 1 1 [.string ⟨#[65, 66, 67]⟩, .slice none 0 0] rfl rfl (cell_two_to _ _ _ _ _ (by simp)) (by simp [Value.oneCell']) hmx (by omega) (by simp; omega) ?_; intro u' w4 hown' hgrow _; have HW4 : Hid (WS B w w4 u' (ps ++ [(.slice none 0 0, [])]) (gs ++ [(⟨#[65, 66, 67]⟩, [])])) := (HW.out.push (g := (⟨#[65, 66, 67]⟩, [])) hlt (OwnW.nil _ _) ⟨by decide, by simp, fun e he => by simp at he⟩ hgrow hown'); clear tok1 hown' hgrow)
        go_roundw
        case rel => exact ⟨k - 1, _, _, by go_num, by omega, by simp; omega, HW4.out⟩
        case measure => simp [intOf]; omega
      · go_wp2
        go_ret
        exact ⟨_, rfl, ps, gs, by omega, HW.out.own, HW.out.bd, HW.out.src, HW.out.kp⟩
end Go.Proofs.Ytbdjaohfnbnacaa
