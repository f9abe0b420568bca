/- Contracts of the model's l02All and SegmentsRead. -/
import Derived.Test.YtpojmeeoomcigaaSegReadS
import Derived.Test.YtpojmeeoomcigaaReadAll
import Derived.Deep.CutBlock
import Derived.Deep.RegionHeld3
namespace Go.Proofs.Ytpojmeeoomcigaa
open Go.ChangeShapes Go.WideShapes Go.ChangeAt Go.RowKit Go.Shelf
/-- One segment more, by what was read of the rest. -/
theorem allR_step {a b c d : Int} {t : ByteArray} {f at_ : Nat} {acc : List Seg} (ht : t.size ≤ 20000) (h0 : at_ < t.size) (h2 : acc.length ≠ 200) :
    ((rdI a b c d (t.extract at_ t.size)).1 ≠ 0 ∧ allR a b c d t (f + 1) at_ acc = ((rdI a b c d (t.extract at_ t.size)).1, (at_ : Int) + (rdI a b c d (t.extract at_ t.size)).2.1, (acc.length : Int), []) ∧ 0 ≤ (rdI a b c d (t.extract at_ t.size)).2.1 ∧ (rdI a b c d (t.extract at_ t.size)).2.1 ≤ 4000000000) ∨
    ((rdI a b c d (t.extract at_ t.size)).1 = 0 ∧ ∃ (n : Nat) (g : Seg), (rdI a b c d (t.extract at_ t.size)).2.2.1 = ((n + 1 : Nat) : Int) ∧ (rdI a b c d (t.extract at_ t.size)).2.2.2 = some g ∧ at_ + (n + 1) ≤ t.size ∧ allR a b c d t (f + 1) at_ acc = allR a b c d t f (at_ + (n + 1)) (acc ++ [g])) := by
  have hz : (t.extract at_ t.size).size = t.size - at_ := by rw [ByteArray.size_extract]; omega
  simp only [allR]
  rw [if_neg (by omega), if_neg h2]
  unfold rdI
  rw [if_neg (by omega)]
  cases hT : takeR d a (t.extract at_ t.size) with
  | none => exact .inl ⟨by simp, by simp, by simp, by simp⟩
  | some q =>
    have hq := take_le hT
    simp only
    cases hG : segR a b c d q with
    | inl e => exact .inl ⟨by simp, by simp, (segR_bd hG (by omega)).1, (segR_bd hG (by omega)).2⟩
    | inr g => exact .inr ⟨rfl, q.size, g, by simp, rfl, by omega, rfl⟩
theorem cell_two_at (w : World) (x y : Value) (t : TypeId) (g : Nat) (hg : g = w.heap.size) : ∀ j u, [x, y][j]? = some u → (w.alloc (.cells #[x, y] t)).cell? ((⟨g, 0, none⟩ : Addr).add j) = some u := by
  subst hg
  exact World.news_of_block (cs := #[x, y]) (World.alloc_heap_new w _)
theorem keep5 {W : World} {B b o : Nat} {v v0 v1 v2 v3 v4 : Value} (h : W.cell? ⟨b, o, none⟩ = some v) (hb : b ≠ B) : (((((W.setCell ⟨B, 0, none⟩ v0).setCell ⟨B, 1, none⟩ v1).setCell ⟨B, 2, none⟩ v2).setCell ⟨B, 3, none⟩ v3).setCell ⟨B, 4, none⟩ v4).cell? ⟨b, o, none⟩ = some v := by
  rw [World.cell?_setCell_other _ _ _ _ (by simp <;> omega), World.cell?_setCell_other _ _ _ _ (by simp <;> omega), World.cell?_setCell_other _ _ _ _ (by simp <;> omega), World.cell?_setCell_other _ _ _ _ (by simp <;> omega), World.cell?_setCell_other _ _ _ _ (by simp <;> omega)]
  exact h
theorem set5_new {W : World} {B t : Nat} {z0 z1 z2 z3 z4 : Value} (v0 v1 v2 v3 v4 : Value) (hb : W.heap[B]? = some (.cells #[z0, z1, z2, z3, z4] t)) : (((((W.setCell ⟨B, 0, none⟩ v0).setCell ⟨B, 1, none⟩ v1).setCell ⟨B, 2, none⟩ v2).setCell ⟨B, 3, none⟩ v3).setCell ⟨B, 4, none⟩ v4).heap[B]? = some (.cells #[v0, v1, v2, v3, v4] t) :=
  heap_setCell_same _ B 4 _ t v4 (heap_setCell_same _ B 3 _ t v3 (heap_setCell_same _ B 2 _ t v2 (heap_setCell_same _ B 1 _ t v1 (heap_setCell_same W B 0 _ t v0 hb))))
theorem set5_bel {n B : Nat} {w W : World} (hb : Below n w W) (hB : n ≤ B) (v0 v1 v2 v3 v4 : Value) : Below n w (((((W.setCell ⟨B, 0, none⟩ v0).setCell ⟨B, 1, none⟩ v1).setCell ⟨B, 2, none⟩ v2).setCell ⟨B, 3, none⟩ v3).setCell ⟨B, 4, none⟩ v4) :=
  ((((hb.setCell hB _).setCell hB _).setCell hB _).setCell hB _).setCell hB _
theorem set5_own {n₀ B : Nat} {W : World} {v : Value} {vals : List Value} {es : List (List ByteArray)} (h : OwnV n₀ W v vals es) (hB : B < n₀) (v0 v1 v2 v3 v4 : Value) : OwnV n₀ (((((W.setCell ⟨B, 0, none⟩ v0).setCell ⟨B, 1, none⟩ v1).setCell ⟨B, 2, none⟩ v2).setCell ⟨B, 3, none⟩ v3).setCell ⟨B, 4, none⟩ v4) v vals es :=
  ((((h.set hB _ _).set hB _ _).set hB _ _).set hB _ _).set hB _ _
/-- The syntax's block, the answer's, and that of the list. -/
structure L4 (w W : World) (a b c d : Int) : Prop where
  l3 : L3 w W (w.heap.size + 1)
  sx : W.heap[w.heap.size]? = some (.cells #[.int .i64 a, .int .i64 b, .int .i64 c, .int .i64 d] 24)
theorem L4.below {w W W' : World} {a b c d : Int} (h : L4 w W a b c d) (hb : Below W.heap.size W W') : L4 w W' a b c d := ⟨h.l3.below hb, (hb.block _ (Array.getElem?_eq_some_iff.1 h.sx).1).trans h.sx⟩
theorem L4.syn {w W : World} {a b c d : Int} (h : L4 w W a b c d) : W.cell? ⟨w.heap.size, 0, none⟩ = some (.int .i64 a) ∧ W.cell? ⟨w.heap.size, 1, none⟩ = some (.int .i64 b) ∧ W.cell? ⟨w.heap.size, 2, none⟩ = some (.int .i64 c) ∧ W.cell? ⟨w.heap.size, 3, none⟩ = some (.int .i64 d) := by
  have h1 := h.sx
  exact ⟨by simp [World.cell?, h1], by simp [World.cell?, h1], by simp [World.cell?, h1], by simp [World.cell?, h1]⟩
theorem L4.keep2 {w W W' : World} {a b c d : Int} {lv : Value} (h : L4 w W a b c d) (hk : Keep2 (w.heap.size + 2) lv.ownBlock W W') (hl : ∀ j, lv.ownBlock = some j → w.heap.size + 3 ≤ j) : L4 w W' a b c d := by
  have hne : ∀ k, k < w.heap.size + 3 → some k ≠ lv.ownBlock := fun k hk' e => by have := hl k e.symm; omega
  have h1 := h.l3.lt
  refine ⟨⟨h.l3.bel.trans ⟨hk.os, hk.tape, hk.output, hk.size, fun k hk' => hk.block k (by omega) (by omega) (hne k (by omega))⟩, (hk.block _ h1 (by omega) (hne _ (by omega))).trans h.l3.rx⟩, (hk.block _ (by omega) (by omega) (hne _ (by omega))).trans h.sx⟩
/-- What stands when a segment has been put onto the list. -/
structure Stp3 (R : Nat) (wr w7 : World) (lv lv' u : Value) (tag : ByteArray) (vals : List Value) (es : List (List ByteArray)) (n : Nat) (xs : List Value) : Prop where
  box : ∃ v, w7.heap[R]? = some (.cells #[v, .int .i64 0, .int .i64 0, .int .i64 0] 45)
  row : w7.ownsRow (R + 1) 27 2 lv' (n + 1) (xs ++ [.string tag, u])
  own : OwnV wr.heap.size w7 u vals es
  keep : Keep2 R lv.ownBlock wr w7
  z : w7.frozen? ⟨R, 0, none⟩ = false
  cell : ∃ v, w7.cell? ⟨R, 0, none⟩ = some v
  sz : R < w7.heap.size
theorem stp3 {R : Nat} {wr W w7 : World} {lv lv' u : Value} {tag : ByteArray} {vals : List Value} {es : List (List ByteArray)} {n : Nat} {xs : List Value} {x : Obj} (hRl : R < wr.heap.size)
    (hp : wr.heap[R]? = some (.cells #[lv, .int .i64 0, .int .i64 0, .int .i64 0] 45) ∧ wr.ownsRow (R + 1) 27 2 lv n xs ∧ Below wr.heap.size wr W ∧ OwnV wr.heap.size W u vals es)
    (hg : (W.alloc x).grownBy w7 lv.ownBlock) (hown : w7.ownsRow (R + 1) 27 2 lv' (n + 1) (xs ++ [.string tag, u])) : Stp3 R wr w7 lv lv' u tag vals es n xs := by
  obtain ⟨hR, hr, hb, hO⟩ := hp
  have hs := hb.size
  have hbx : Below W.heap.size W (W.alloc x) := (Below.refl _ _).alloc (Nat.le_refl _) _
  have hR7 : w7.heap[R]? = some (.cells #[lv, .int .i64 0, .int .i64 0, .int .i64 0] 45) := by
    rw [hg.block R (by simp; omega) (row2_ne hr (by omega)).symm, Below.heap_alloc _ _ _ (by omega), hb.block R hRl]
    exact hR
  refine ⟨⟨_, hR7⟩, hown, (hO.below hbx).grow hg (fun j hj => row2_lt hr j hj), ⟨hg.os.trans hb.os, hg.tape.trans hb.tape, hg.output.trans hb.output, Nat.le_trans hs (Nat.le_trans (by simp) hg.size), fun k hk _ hn => ?_⟩, by simp [World.frozen?, hR7], ⟨lv, by simp [World.cell?, hR7]⟩, (Array.getElem?_eq_some_iff.1 hR7).1⟩
  rw [hg.block k (by simp; omega) hn, Below.heap_alloc _ _ _ (by omega)]
  exact hb.block k hk
theorem RdOut.below {n₀ : Nat} {W W' : World} {r : Option Seg} {tag : ByteArray} {v : Value} (h : RdOut n₀ W r tag v) (hb : Below W.heap.size W W') : RdOut n₀ W' r tag v := by
  unfold RdOut at h ⊢
  cases r with
  | none => exact h
  | some g =>
    obtain ⟨h1, vals, h2⟩ := h
    exact ⟨h1, vals, h2.below hb⟩
theorem RdOut.set5 {n₀ n₁ B : Nat} {W : World} {r : Option Seg} {tag : ByteArray} {v v0 v1 v2 v3 v4 : Value} (h : RdOut n₀ W r tag v) (hB : B < n₀) (hn : n₁ ≤ n₀) : RdOut n₁ (((((W.setCell ⟨B, 0, none⟩ v0).setCell ⟨B, 1, none⟩ v1).setCell ⟨B, 2, none⟩ v2).setCell ⟨B, 3, none⟩ v3).setCell ⟨B, 4, none⟩ v4) r tag v := by
  unfold RdOut at h ⊢
  cases r with
  | none => exact h
  | some g =>
    obtain ⟨h1, vals, h2⟩ := h
    exact ⟨h1, vals, (set5_own h2 hB _ _ _ _ _).mono hn⟩
theorem first1 {wr w5 : World} {r : Option Seg} {tag : ByteArray} {v : Value} {x1 x2 x3 : Int} (hRd : RdOut wr.drew.heap.size w5 r tag v) (hb5 : Below wr.drew.heap.size wr.drew w5) :
    ∃ (U : Nat) (tag' : ByteArray) (v' : Value), Value.pointer (some ⟨w5.heap.size, 0, none⟩) = .pointer (some ⟨U, 0, none⟩) ∧ (w5.alloc (.cells #[.string tag, v, .int .i64 x1, .int .i64 x2, .int .i64 x3] 34)).heap[U]? = some (.cells #[.string tag', v', .int .i64 x1, .int .i64 x2, .int .i64 x3] 34) ∧ RdOut wr.heap.size (w5.alloc (.cells #[.string tag, v, .int .i64 x1, .int .i64 x2, .int .i64 x3] 34)) r tag' v' ∧ wr.heap.size ≤ U ∧ Below wr.heap.size wr (w5.alloc (.cells #[.string tag, v, .int .i64 x1, .int .i64 x2, .int .i64 x3] 34)) :=
  ⟨w5.heap.size, tag, v, rfl, World.alloc_heap_new _ _, RdOut.below hRd ((Below.refl _ _).alloc (Nat.le_refl _) _), hb5.size, ((Below.refl _ _).drew.trans hb5).alloc hb5.size _⟩
theorem first2 {wr w5 : World} {r : Option Seg} {tag : ByteArray} {v : Value} {x1 x2 x3 : Int} {o : Obj} {z0 z1 z2 z3 z4 : Value} (hRd : RdOut (wr.alloc o).drew.heap.size w5 r tag v) (hb5 : Below (wr.alloc o).drew.heap.size (wr.alloc o).drew w5) (hbx : w5.heap[wr.heap.size]? = some (.cells #[z0, z1, z2, z3, z4] 34)) :
    ∃ (U : Nat) (tag' : ByteArray) (v' : Value), Value.pointer (some ⟨wr.heap.size, 0, none⟩) = .pointer (some ⟨U, 0, none⟩) ∧ (((((w5.setCell ⟨wr.heap.size, 0, none⟩ (.string tag)).setCell ⟨wr.heap.size, 1, none⟩ v).setCell ⟨wr.heap.size, 2, none⟩ (.int .i64 x1)).setCell ⟨wr.heap.size, 3, none⟩ (.int .i64 x2)).setCell ⟨wr.heap.size, 4, none⟩ (.int .i64 x3)).heap[U]? = some (.cells #[.string tag', v', .int .i64 x1, .int .i64 x2, .int .i64 x3] 34) ∧ RdOut wr.heap.size (((((w5.setCell ⟨wr.heap.size, 0, none⟩ (.string tag)).setCell ⟨wr.heap.size, 1, none⟩ v).setCell ⟨wr.heap.size, 2, none⟩ (.int .i64 x1)).setCell ⟨wr.heap.size, 3, none⟩ (.int .i64 x2)).setCell ⟨wr.heap.size, 4, none⟩ (.int .i64 x3)) r tag' v' ∧ wr.heap.size ≤ U ∧ Below wr.heap.size wr (((((w5.setCell ⟨wr.heap.size, 0, none⟩ (.string tag)).setCell ⟨wr.heap.size, 1, none⟩ v).setCell ⟨wr.heap.size, 2, none⟩ (.int .i64 x1)).setCell ⟨wr.heap.size, 3, none⟩ (.int .i64 x2)).setCell ⟨wr.heap.size, 4, none⟩ (.int .i64 x3)) :=
  ⟨wr.heap.size, tag, v, rfl, set5_new _ _ _ _ _ hbx, RdOut.set5 hRd (by simp) (by simp), Nat.le_refl _, set5_bel (((Below.refl _ _).drew.alloc (Nat.le_refl _) _).trans (hb5.mono (by simp))) (Nat.le_refl _) _ _ _ _ _⟩
theorem u1_of {W : World} {U t : Nat} {v0 v1 v2 v3 v4 : Value} (h : W.heap[U]? = some (.cells #[v0, v1, v2, v3, v4] t)) : W.cell? ⟨U, 1, none⟩ = some v1 := by simp [World.cell?, h]
theorem rd_slice {n₀ : Nat} {W : World} {r : Option Seg} {tag : ByteArray} {v : Value} (h : RdOut n₀ W r tag v) : ∃ A N C, v = .slice A N C := by
  obtain ⟨_, vals, hO⟩ := h.own
  exact row_slice hO.row
theorem own2_slice {n₀ t k : Nat} {W : World} {v : Value} {xs : List Value} (h : W.ownsRow n₀ t 2 v k xs) : ∃ A C, v = .slice A k C := by
  rcases h.2 with ⟨rfl, h0⟩ | ⟨g, cap, cur, rfl, _⟩
  · exact ⟨none, 0, by rw [h0]⟩
  · exact ⟨_, _, rfl⟩
theorem u8_of {U B n n₀ k : Nat} {W w7 : World} {lv : Value} {xs : List Value} {x : Obj} {v0 v1 v3 v4 : Value} {m : Int} (hU : W.heap[U]? = some (.cells #[v0, v1, .int .i64 m, v3, v4] 34)) (hm : m = ((n + 1 : Nat) : Int)) (hg : (W.alloc x).grownBy w7 lv.ownBlock) (hl : W.ownsRow n₀ 27 2 lv k xs) (hlt : U < W.heap.size) (_ : U ≠ B) (u : Value) : (w7.setCell ⟨B, 0, none⟩ u).cell? ⟨U, 2, none⟩ = some (.int .i64 ((n + 1 : Nat) : Int)) := by
  have h7 : w7.heap[U]? = some (.cells #[v0, v1, .int .i64 m, v3, v4] 34) := by
    rw [hg.block U (by simp; omega) (fun e => ?_), Below.heap_alloc _ _ _ hlt]
    · exact hU
    · obtain ⟨_, _, c2, h2⟩ := row_at hl e.symm
      rw [hU] at h2
      simp at h2
  rw [World.cell?_setCell_other _ _ _ _ (by simp <;> omega)]
  simp [World.cell?, h7, hm]
set_option maxRecDepth 20000 in
set_option maxHeartbeats 4000000 in
theorem l02All_any (a b c d : Int) (s : ByteArray) (w : World) (hright : rightB a b c d = true) (hs : s.size ≤ 20000) (r : Int × Int × Int × List Seg) (hr0 : r = allR a b c d s (s.size + 1) 0 []) :
    Calls Try.prog 62 #[.agg #[.int .i64 a, .int .i64 b, .int .i64 c, .int .i64 d], .string s] w fun e w' => ∃ v, e = .returned (.agg #[v, .int .i64 r.2.1, .int .i64 r.2.2.1, .int .i64 r.1]) ∧ (∃ ps, OwnL w.heap.size w' v ps r.2.2.2) ∧ Below w.heap.size w w' := by
  have HA : Hid (r = allR a b c d s (s.size + 1) 0 []) := hr0
  clear hr0
  have hs' : (s.size : Int) ≤ 20000 := by omega
  go_enter Try.func62, Try.ntmps62
  go_wp2_with fail
  go_loopw [6] (fun x wr => ∃ (f at_ : Nat) (acc : List Seg) (ps : List (Value × List Value)) (lv : Value), x = .int .i64 (at_ : Int) ∧ at_ ≤ s.size ∧ acc.length ≤ 200 ∧ wr.heap[w.heap.size + 2]? = some (.cells #[lv, .int .i64 0, .int .i64 0, .int .i64 0] 45) ∧ OwnL (w.heap.size + 3) wr lv ps acc ∧ s.size + 1 ≤ f + at_ ∧ r = allR a b c d s f at_ acc ∧ L4 w wr a b c d) (fun x _ => s.size - (intOf x).toNat)
  case atStart =>
    obtain ⟨t0, t1, t2⟩ := three w (.cells #[.int .i64 a, .int .i64 b, .int .i64 c, .int .i64 d] 24) (.cells #[.slice none 0 0, .int .i64 0, .int .i64 0, .int .i64 0] 45) (.cells #[.slice none 0 0, .int .i64 0, .int .i64 0, .int .i64 0] 45)
    exact ⟨s.size + 1, 0, [], [], .slice none 0 0, rfl, by omega, by simp, t2, OwnL.nil _ _, by omega, HA.out, ⟨⟨(((Below.refl _ _).alloc (Nat.le_refl _) _).alloc (by simp) _).alloc (by simp; omega) _, t1⟩, t0⟩⟩
  case round =>
    obtain ⟨f, at_, acc, ps, lv, rfl, hat, hal, hR, hO, hf, hr, hL⟩ := hrel
    have hRlt := (Array.getElem?_eq_some_iff.1 hR).1
    obtain ⟨A, C, hlv⟩ := hO.slice
    subst hlv
    obtain ⟨y0, y1, y2, y3⟩ := hL.syn
    have hc2 : wr.cell? ⟨w.heap.size + 2, 0, none⟩ = some (.slice A acc.length C) := by simp [World.cell?, hR]
    obtain ⟨c0, c1, c2, c3, zz⟩ := hL.l3.out
    have HO : Hid (wr.heap[w.heap.size + 2]? = some (.cells #[.slice A acc.length C, .int .i64 0, .int .i64 0, .int .i64 0] 45) ∧ OwnL (w.heap.size + 3) wr (.slice A acc.length C) ps acc ∧ r = allR a b c d s f at_ acc ∧ L4 w wr a b c d) := ⟨hR, hO, hr, hL⟩
    by_cases hlt : at_ < s.size
    · have hlt' : (at_ : Int) < (s.size : Int) := by omega
      obtain ⟨f, rfl⟩ : ∃ f', f = f' + 1 := ⟨f - 1, by omega⟩
      by_cases h2 : acc.length = 200
      · have h2' : (200 : Int) ≤ (acc.length : Int) := by omega
        have hr7 : r = (7, (at_ : Int), (acc.length : Int), []) := by
          rw [hr]
          simp only [allR]
          rw [if_neg (by omega), if_pos h2]
        subst hr7
        have HB : Hid (Below w.heap.size w wr) := hL.l3.bel
        clear hr hR hO hL HO HA h2
        go_wp2
        exact bodyPost_ret (v := .agg #[.slice none 0 0, .int .i64 (at_ : Int), .int .i64 (acc.length : Int), .int .i64 7]) (by simp [results, Try.results62, go_sem, c0, c1, c2, c3]) rfl ⟨_, rfl, ⟨_, OwnL.nil _ _⟩, set4 HB.out (show w.heap.size ≤ w.heap.size + 1 by omega) _ _ _ _⟩
      · have h2' : (acc.length : Int) < 200 := by omega
        have hst := allR_step (a := a) (b := b) (c := c) (d := d) (f := f) hs hlt h2
        have hfx := rdI_facts a b c d (s.extract at_ s.size)
        obtain ⟨q, hq⟩ : ∃ q, q = rdI a b c d (s.extract at_ s.size) := ⟨_, rfl⟩
        rw [← hq] at hst hfx
        have HQ : Hid (q = rdI a b c d (s.extract at_ s.size) ∧ ((q.1 ≠ 0 ∧ allR a b c d s (f + 1) at_ acc = (q.1, (at_ : Int) + q.2.1, (acc.length : Int), []) ∧ 0 ≤ q.2.1 ∧ q.2.1 ≤ 4000000000) ∨ (q.1 = 0 ∧ ∃ (n : Nat) (g : Seg), q.2.2.1 = ((n + 1 : Nat) : Int) ∧ q.2.2.2 = some g ∧ at_ + (n + 1) ≤ s.size ∧ allR a b c d s (f + 1) at_ acc = allR a b c d s f (at_ + (n + 1)) (acc ++ [g])))) := ⟨hq, hst⟩
        clear hq hst hr hR hO hL
        have hlw : w.heap.size + 3 ≤ wr.heap.size := hRlt
        have x0 : (wr.drew.alloc (.cells #[.string ⟨#[]⟩, .slice none 0 0, .int .i64 0, .int .i64 0, .int .i64 0] 34)).cell? ⟨w.heap.size, 0, none⟩ = some (.int .i64 a) := (((Below.refl _ _).drew.alloc (Nat.le_refl _) _).cell (p := ⟨w.heap.size, 0, none⟩) (show w.heap.size < wr.heap.size by omega)).trans y0
        have x1 : (wr.drew.alloc (.cells #[.string ⟨#[]⟩, .slice none 0 0, .int .i64 0, .int .i64 0, .int .i64 0] 34)).cell? ⟨w.heap.size, 1, none⟩ = some (.int .i64 b) := (((Below.refl _ _).drew.alloc (Nat.le_refl _) _).cell (p := ⟨w.heap.size, 1, none⟩) (show w.heap.size < wr.heap.size by omega)).trans y1
        have x2 : (wr.drew.alloc (.cells #[.string ⟨#[]⟩, .slice none 0 0, .int .i64 0, .int .i64 0, .int .i64 0] 34)).cell? ⟨w.heap.size, 2, none⟩ = some (.int .i64 c) := (((Below.refl _ _).drew.alloc (Nat.le_refl _) _).cell (p := ⟨w.heap.size, 2, none⟩) (show w.heap.size < wr.heap.size by omega)).trans y2
        have x3 : (wr.drew.alloc (.cells #[.string ⟨#[]⟩, .slice none 0 0, .int .i64 0, .int .i64 0, .int .i64 0] 34)).cell? ⟨w.heap.size, 3, none⟩ = some (.int .i64 d) := (((Below.refl _ _).drew.alloc (Nat.le_refl _) _).cell (p := ⟨w.heap.size, 3, none⟩) (show w.heap.size < wr.heap.size by omega)).trans y3
        go_upto_region 7 with fail
        go_cut [8] from 10 to 48 (fun u wx => ∃ (U : Nat) (tag : ByteArray) (v : Value), u = .pointer (some ⟨U, 0, none⟩) ∧ wx.heap[U]? = some (.cells #[.string tag, v, .int .i64 q.2.2.1, .int .i64 q.2.1, .int .i64 q.1] 34) ∧ RdOut wr.heap.size wx q.2.2.2 tag v ∧ wr.heap.size ≤ U ∧ Below wr.heap.size wr wx)
        case first =>
          go_region_held3 (fun W => W.cell? ⟨w.heap.size, 0, none⟩ = some (.int .i64 a) ∧ W.cell? ⟨w.heap.size, 1, none⟩ = some (.int .i64 b) ∧ W.cell? ⟨w.heap.size, 2, none⟩ = some (.int .i64 c) ∧ W.cell? ⟨w.heap.size, 3, none⟩ = some (.int .i64 d)) (first | go_keep | exact ⟨keep5 z0 (by omega), keep5 z1 (by omega), keep5 z2 (by omega), keep5 z3 (by omega)⟩) (first | (go_at_call 55; refine (l02Read_any a b c d (s.extract at_ s.size) _ hright (by rw [ByteArray.size_extract]; omega)).mono ?_; rw [← HQ.out.1]; rintro e w5 ⟨tag, v, rfl, hRd, hb5⟩; obtain ⟨Av, Nv, Cv, hv⟩ := rd_slice hRd; subst hv; have z0 : w5.cell? ⟨w.heap.size, 0, none⟩ = some (.int .i64 a) := (by first | exact (hb5.cell (p := ⟨w.heap.size, 0, none⟩) (show w.heap.size < wr.heap.size by omega)).trans y0 | exact (hb5.cell (p := ⟨w.heap.size, 0, none⟩) (by simp; omega)).trans x0); have z1 : w5.cell? ⟨w.heap.size, 1, none⟩ = some (.int .i64 b) := (by first | exact (hb5.cell (p := ⟨w.heap.size, 1, none⟩) (show w.heap.size < wr.heap.size by omega)).trans y1 | exact (hb5.cell (p := ⟨w.heap.size, 1, none⟩) (by simp; omega)).trans x1); have z2 : w5.cell? ⟨w.heap.size, 2, none⟩ = some (.int .i64 c) := (by first | exact (hb5.cell (p := ⟨w.heap.size, 2, none⟩) (show w.heap.size < wr.heap.size by omega)).trans y2 | exact (hb5.cell (p := ⟨w.heap.size, 2, none⟩) (by simp; omega)).trans x2); have z3 : w5.cell? ⟨w.heap.size, 3, none⟩ = some (.int .i64 d) := (by first | exact (hb5.cell (p := ⟨w.heap.size, 3, none⟩) (show w.heap.size < wr.heap.size by omega)).trans y3 | exact (hb5.cell (p := ⟨w.heap.size, 3, none⟩) (by simp; omega)).trans x3); try (have hbx := (hb5.block wr.heap.size (by simp)).trans (World.alloc_heap_new _ _); have k0 : w5.cell? ⟨wr.heap.size, 0, none⟩ = some (.string ⟨#[]⟩) := (by simp [World.cell?, hbx]); have k1 : w5.cell? ⟨wr.heap.size, 1, none⟩ = some (.slice none 0 0) := (by simp [World.cell?, hbx]); have k2 : w5.cell? ⟨wr.heap.size, 2, none⟩ = some (.int .i64 0) := (by simp [World.cell?, hbx]); have k3 : w5.cell? ⟨wr.heap.size, 3, none⟩ = some (.int .i64 0) := (by simp [World.cell?, hbx]); have k4 : w5.cell? ⟨wr.heap.size, 4, none⟩ = some (.int .i64 0) := (by simp [World.cell?, hbx]); have kz : ∀ o, w5.frozen? ⟨wr.heap.size, o, none⟩ = false := (fun o => by simp [World.frozen?, hbx]))))
          all_goals (go_wp2_with fail; go_meet)
          all_goals first | (have _h := hbx; exact first2 (wr := wr) (w5 := w5) hRd hb5 hbx) | exact first1 (wr := wr) (w5 := w5) hRd hb5
        case rest =>
          obtain ⟨U, tag, v, rfl, hU, hRd, hUl, hb5⟩ := hcut
          have hw5 := hb5.size
          have u0 : wc.cell? ⟨U, 0, none⟩ = some (.string tag) := by simp [World.cell?, hU]
          have u1 := u1_of hU
          have u2 : wc.cell? ⟨U, 2, none⟩ = some (.int .i64 q.2.2.1) := by simp [World.cell?, hU]
          have u3 : wc.cell? ⟨U, 3, none⟩ = some (.int .i64 q.2.1) := by simp [World.cell?, hU]
          have u4 : wc.cell? ⟨U, 4, none⟩ = some (.int .i64 q.1) := by simp [World.cell?, hU]
          obtain ⟨Av, Nv, Cv, hv⟩ := rd_slice hRd
          subst hv
          obtain ⟨htag, vals, hOv⟩ := hRd.own
          have hL5 := HO.out.2.2.2.below hb5
          obtain ⟨c0, c1, c2, c3, zz⟩ := hL5.l3.out
          have hUlt := (Array.getElem?_eq_some_iff.1 hU).1
          have HL5 : Hid (L4 w wc a b c d ∧ wc.heap[U]? = some (.cells #[.string tag, .slice Av Nv Cv, .int .i64 q.2.2.1, .int .i64 q.2.1, .int .i64 q.1] 34)) := ⟨hL5, hU⟩
          clear hL5 hU x0 x1 x2 x3 y0 y1 y2 y3
          rcases HQ.out.2 with ⟨hc, hA, hb0, hb1⟩ | ⟨hc, n, g, hn, hg, hle, hA⟩
          · have hr : r = (q.1, (at_ : Int) + q.2.1, (acc.length : Int), []) := HO.out.2.2.1.trans hA
            obtain ⟨q1, hq1⟩ : ∃ x, x = q.1 := ⟨_, rfl⟩
            obtain ⟨q2, hq2⟩ : ∃ x, x = q.2.1 := ⟨_, rfl⟩
            rw [← hq1, ← hq2] at hr
            rw [← hq1] at u4 hc
            rw [← hq2] at u3 hb0 hb1
            subst hr
            have dc : (q1 == 0) = false := by rw [beq_eq_false_iff_ne]; exact hc
            have HB : Hid (Below w.heap.size w wc) := HL5.out.1.l3.bel
            clear HL5 HO HQ HA hA hRd hOv hb5 htag hq1 hq2 u0 u1 u2 hfx
            go_wp2
            exact bodyPost_ret (v := .agg #[.slice none 0 0, .int .i64 ((at_ : Int) + q2), .int .i64 (acc.length : Int), .int .i64 q1]) (by simp [results, Try.results62, go_sem, c0, c1, c2, c3]) rfl ⟨_, rfl, ⟨_, OwnL.nil _ _⟩, set4 HB.out (show w.heap.size ≤ w.heap.size + 1 by omega) _ _ _ _⟩
          · rw [hg] at htag hOv
            have hOv' : OwnV wr.heap.size wc (.slice Av Nv Cv) vals g.2 := hOv
            have htag' : tag = g.1 := htag
            subst htag'
            rw [hc] at u4
            rw [hn] at u2
            have HP : Hid (wr.heap[w.heap.size + 2]? = some (.cells #[.slice A acc.length C, .int .i64 0, .int .i64 0, .int .i64 0] 45) ∧ wr.ownsRow (w.heap.size + 2 + 1) 27 2 (.slice A acc.length C) acc.length (cellsL acc ps) ∧ Below wr.heap.size wr wc ∧ OwnV wr.heap.size wc (.slice Av Nv Cv) vals g.2) := ⟨HO.out.1, HO.out.2.1.row, hb5, hOv'⟩
            have hc5 : wc.cell? ⟨w.heap.size + 2, 0, none⟩ = some (.slice A acc.length C) := (hb5.cell (p := ⟨w.heap.size + 2, 0, none⟩) (show w.heap.size + 2 < wr.heap.size by omega)).trans hc2
            have hrow5 := row2_below HO.out.2.1.row hb5
            have HR5 : Hid (wc.ownsRow (w.heap.size + 3) 27 2 (.slice A acc.length C) acc.length (cellsL acc ps)) := hrow5
            have HN : Hid (r = allR a b c d s f (at_ + (n + 1)) (acc ++ [g])) := HO.out.2.2.1.trans hA
            obtain ⟨i0, hi, hz0, hz1, hz2⟩ := info_parts infoSg
            have hmx : acc.length + 1 ≤ maxLen := by unfold maxLen; omega
            have tok1 : True := trivial
            clear hA hRd hOv hOv' hb5 htag hrow5 hc2 c0 c1 c2 c3 zz HA hfx hg
            go_wp2_with (at_builtin; have _t := tok1; refine wpList_append_own _ rfl _ _ 40 rfl (w.heap.size + 3) 27 i0 (.agg #[.string ⟨#[]⟩, .slice none 0 0]) 2 40 Try.underlying40 hi hz0 hz1 hz2 rfl (by decide) _ _ _ rfl (HR5.out.alloc _) ⟨_, 0, none⟩ 1 1 [.string g.1, .slice Av Nv Cv] rfl rfl (cell_two_at _ _ _ _ _ (by simp)) (by simp [Value.oneCell']) hmx (by omega) (by simp; omega) ?_; intro u' w7 hown' hgrow _; have HQ7 : Hid (Stp3 (w.heap.size + 2) wr w7 (.slice A acc.length C) u' (.slice Av Nv Cv) g.1 vals g.2 acc.length (cellsL acc ps)) := (stp3 (by omega) HP.out hgrow hown'); have z7 := HQ7.out.z; have hw7 := HQ7.out.sz; obtain ⟨uc, hcu⟩ := HQ7.out.cell; have hu8 : (w7.setCell ⟨w.heap.size + 2, 0, none⟩ u').cell? ⟨U, 2, none⟩ = some (.int .i64 ((n + 1 : Nat) : Int)) := (u8_of HL5.out.2 hn hgrow HR5.out (by omega) (by omega) _); obtain ⟨A7, C7, hu'⟩ := own2_slice hown'; subst hu'; clear tok1 hown' hgrow)
            go_roundw
            case rel =>
              obtain ⟨uu, hbx7⟩ := HQ7.out.box
              have hk := HQ7.out.keep.set 0 (.slice A7 (acc.length + 1) C7)
              refine ⟨f, at_ + (n + 1), acc ++ [g], ps ++ [(.slice Av Nv Cv, vals)], .slice A7 (acc.length + 1) C7, by go_num, hle, by simp; omega, heap_setCell_same _ _ _ _ _ _ hbx7, ?_, by omega, HN.out, HO.out.2.2.2.keep2 hk (fun j hj => (row_at HO.out.2.1.row hj).1)⟩
              exact HO.out.2.1.push hk (by omega) (by omega) (row_same HQ7.out.row fun g hg => Below.heap_setCell w7 ⟨w.heap.size + 2, 0, none⟩ _ g (by have := (row_at HQ7.out.row hg).1; show g ≠ w.heap.size + 2; omega)) (HQ7.out.own.set (by omega) _ _)
            case measure => simp [intOf]; omega
    · have hge : (s.size : Int) ≤ (at_ : Int) := by omega
      have h1 : at_ = s.size := by omega
      have hr9 : r = (0, 0, 0, acc) := by rw [hr, h1]; exact allR_over (by omega)
      subst hr9
      have HF : Hid (OwnL (w.heap.size + 3) wr (.slice A acc.length C) ps acc ∧ Below w.heap.size w wr) := ⟨hO, hL.l3.bel⟩
      have hc21 : wr.cell? ⟨w.heap.size + 2, 1, none⟩ = some (.int .i64 0) := by simp [World.cell?, hR]
      have hc22 : wr.cell? ⟨w.heap.size + 2, 2, none⟩ = some (.int .i64 0) := by simp [World.cell?, hR]
      have hc23 : wr.cell? ⟨w.heap.size + 2, 3, none⟩ = some (.int .i64 0) := by simp [World.cell?, hR]
      clear hr hR hO hL HO HA h1
      go_wp2
      exact bodyPost_ret (v := .agg #[.slice A acc.length C, .int .i64 0, .int .i64 0, .int .i64 0]) (by simp [results, Try.results62, go_sem, c0, c1, c2, c3]) rfl ⟨_, rfl, ⟨ps, ((((HF.out.1.set (by omega) _ _).set (by omega) _ _).set (by omega) _ _).set (by omega) _ _).mono (by omega)⟩, set4 HF.out.2 (show w.heap.size ≤ w.heap.size + 1 by omega) _ _ _ _⟩
end Go.Proofs.Ytpojmeeoomcigaa
