/- Texts of ours put together: Gt13. -/
import Derived.Test.YtkgkahlhekecmaaGreatG44
import Derived.Test.YtkgkahlhekecmaaGreatG45
import Derived.Test.YtkgkahlhekecmaaGreatG27
import Derived.Test.YtkgkahlhekecmaaGreatG23
import Derived.Deep.RegionLaw
import Derived.Deep.AppendLies
import Derived.Deep.Cut
import Derived.Deep.CutRange
namespace Go.Proofs.YtkgkahlhekecmaaGreat
open Go.ChangeShapes Go.WideShapes Go.ChangeAt Go.RowKit
theorem own_keep {W W' : World} {base : Nat} {e : TypeId} {size : Nat} {v : Value} {n : Nat} {xs : List Value} {B : Nat} (h : W.ownsRow base e size v n xs) (hg : W.grownBy W' (some B)) (hB : W.heap.size ≤ B ∨ (∃ c t, W.heap[B]? = some (.cells c t) ∧ e ≠ t)) : W'.ownsRow base e size v n xs := by
  refine h.kept hg ?_
  rcases h.2 with ⟨rfl, _⟩ | ⟨g, cap, cur, rfl, _, hg', _⟩
  · exact .inl rfl
  · refine .inr ?_
    simp only [Value.ownBlock, ne_eq, Option.some.injEq]
    intro e'
    subst e'
    rcases hB with hB | ⟨c, t, hc, hne⟩
    · have := (Array.getElem?_eq_some_iff.1 hg').1
      omega
    · rw [hg'] at hc
      simp at hc
      exact hne hc.2
theorem OwnP.keepG {base : Nat} {W W' : World} {v : Value} {qs : List (Ptn × Value)} {B : Nat} (h : OwnP base W v qs) (hg : W.grownBy W' (some B)) (hB : ∃ c t, W.heap[B]? = some (.cells c t) ∧ 63 ≠ t ∧ 148 ≠ t) : OwnP base W' v qs := by
  obtain ⟨c, t, h1, h2, h3⟩ := hB
  exact ⟨own_keep h.row hg (.inr ⟨c, t, h1, h2⟩), fun q hq => own_keep (h.sn q hq) hg (.inr ⟨c, t, h1, h3⟩), h.ap⟩
theorem OwnP.setB {base : Nat} {W : World} {v : Value} {qs : List (Ptn × Value)} {B : Nat} (h : OwnP base W v qs) (hB : B < base) (i : Nat) (x : Value) : OwnP base (W.setCell ⟨B, i, none⟩ x) v qs :=
  ⟨own_set h.row (fun e => by have := (h.row.lt _ e).1; omega) i x, fun q hq => own_set (h.sn q hq) (fun e => by have := ((h.sn q hq).lt _ e).1; omega) i x, h.ap⟩
theorem own_setB {W : World} {base : Nat} {e : TypeId} {size : Nat} {v : Value} {n : Nat} {xs : List Value} (h : W.ownsRow base e size v n xs) {B : Nat} (hB : B < base) (i : Nat) (x : Value) : (W.setCell ⟨B, i, none⟩ x).ownsRow base e size v n xs := own_set h (fun e => by have := (h.lt _ e).1; omega) i x
theorem grow_belowB {W W' : World} {n B : Nat} (h : W.grownBy W' (some B)) (hn : n ≤ W.heap.size) (hB : n ≤ B) : Below n W W' := ⟨h.os, h.tape, h.output, h.size, fun k hk => h.block k (by omega) (by simp; omega)⟩
/-- An append of one, in a drawn region. -/
theorem step_appP {ops : Array Oper} {o : Oper} {a : Act} {K : Act → World → Prop} {Q : Exit → Act → World → Prop} {E : Prop} {W : World} {base c C : Nat} {lv : Value} {qs : List (Ptn × Value)} {q : Ptn × Value} (hw : Region.wanted o (yielded ops a.tmps) = true) (s x : Operand)
    (ho : o.op = .call { callee := .builtin .append, args := #[s, x], argTypes := #[33, 33] })
    (hs' : a.eval s = lv) (hx : a.eval x = .slice (some ⟨c, 0, none⟩) 1 C) (h : OwnP base W lv qs) (hg : W.cell? ⟨c, 0, none⟩ = some (.string q.1.name) ∧ W.cell? ⟨c, 1, none⟩ = some (.int .i64 q.1.low) ∧ W.cell? ⟨c, 2, none⟩ = some (.int .i64 q.1.next) ∧ W.cell? ⟨c, 3, none⟩ = some q.2)
    (hq : W.ownsRow base 148 3 q.2 q.1.seen.length (clSns q.1.seen)) (ha : ∀ y ∈ qs, ∀ g, y.2.ownBlock = some g → q.2.ownBlock ≠ some g) (hone : q.2.oneCell' = true) (hl : qs.length + 1 ≤ 2000000) (hbase : base ≤ W.heap.size)
    (k : ∀ A C w', OwnP base w' (.slice A (qs ++ [q]).length C) (qs ++ [q]) → W.grownBy w' lv.ownBlock → K (a.put o.dst (.slice A (qs ++ [q]).length C)) w') : if Region.wanted o (yielded ops a.tmps) = true then o.wp Tryz.prog a W K Q else E := by
  rw [if_pos hw]
  obtain ⟨i0, hi, hz0, hz1, hz2⟩ := info_parts infoPtA
  obtain ⟨q0, q1, q2, q3⟩ := hg
  refine wp_append_lies W s x 33 ho base 63 i0 (.agg #[.string ⟨#[]⟩, .int .i64 0, .int .i64 0, .slice none 0 0]) 4 56 Tryz.underlying33 hi hz0 hz1 hz2 rfl (by decide) lv qs.length (clPs qs) hs' h.row ⟨c, 0, none⟩ 1 C (clP q) hx rfl (fun j u hu => ?_) (fun u hu => ?_) (by decide) (by unfold maxLen; omega) (by omega) hbase _ rfl ?_
  · rw [fl_addr]
    have hj := (List.getElem?_eq_some_iff.1 hu).1
    have hj3 : j < 4 := hj
    match j, hj3 with
    | 0, _ =>
      cases hu
      simpa using q0
    | 1, _ =>
      cases hu
      simpa using q1
    | 2, _ =>
      cases hu
      simpa using q2
    | 3, _ =>
      cases hu
      simpa using q3
  · simp only [clP, List.mem_cons, List.not_mem_nil, or_false] at hu
    rcases hu with rfl | rfl | rfl | rfl
    · rfl
    · rfl
    · rfl
    · exact hone
  · intro gg cap w' hown hgrow _ _
    have e1 : (qs ++ [q]).length = qs.length + 1 := by simp
    have hown' : w'.ownsRow base 63 4 (.slice (some ⟨gg, 0, none⟩) (qs ++ [q]).length cap) (qs ++ [q]).length (clPs (qs ++ [q])) := by
      rw [e1, clPs_app]
      exact hown
    have hne : 148 ≠ 63 := by decide
    have := k (some ⟨gg, 0, none⟩) cap w' ⟨hown', fun y hy => by
      rcases List.mem_append.1 hy with hy | hy
      · exact (h.sn y hy).kept hgrow (own_ne (h.sn y hy) h.row hne)
      · rw [List.mem_singleton] at hy
        subst hy
        exact hq.kept hgrow (own_ne hq h.row hne), by
      rw [List.pairwise_append]
      refine ⟨h.ap, List.pairwise_singleton _ _, fun y hy z hz => ?_⟩
      rw [List.mem_singleton] at hz
      subst hz
      exact ha y hy⟩ hgrow
    rw [e1] at this
    exact this
theorem grow_own {W W' : World} {base : Nat} {e : TypeId} {size : Nat} {v : Value} {n : Nat} {xs : List Value} (h : W.ownsRow base e size v n xs) (hg : W.grownBy W' v.ownBlock) (hb : base ≤ W.heap.size) : Below base W W' := ⟨hg.os, hg.tape, hg.output, hg.size, fun k hk => hg.block k (by omega) (fun e => by have := (h.lt k e.symm).1; omega)⟩
/-- The boxes of l13Copy. -/
structure C13 (w W : World) (A B : Array Value) : Prop where
  bel : Below w.heap.size w W
  siz : (w.heap.size + 3) ≤ W.heap.size
  b0 : W.heap[w.heap.size]? = some (.cells A 42)
  b1 : W.heap[w.heap.size + 1]? = some (.cells #[.string ⟨#[]⟩, .int .i64 0, .slice none 0 0, .slice none 0 0, .slice none 0 0, .slice none 0 0, .slice none 0 0, .slice none 0 0] 42)
  b2 : W.heap[w.heap.size + 1 + 1]? = some (.cells B 42)
theorem C13.below {w W W' : World} {A B : Array Value} (h : C13 w W A B) (hb : Below (w.heap.size + 3) W W') : C13 w W' A B := by
  have := h.siz
  have := hb.size
  exact ⟨h.bel.trans (hb.mono (by omega)), by omega, (hb.block _ (by omega)).trans h.b0, (hb.block _ (by omega)).trans h.b1, (hb.block _ (by omega)).trans h.b2⟩
theorem C13.set {w W : World} {A B B' : Array Value} (h : C13 w W A B) (i : Nat) (x : Value) (h' : (W.setCell ⟨w.heap.size + 1 + 1, i, none⟩ x).heap[w.heap.size + 1 + 1]? = some (.cells B' 42)) : C13 w (W.setCell ⟨w.heap.size + 1 + 1, i, none⟩ x) A B' :=
  ⟨h.bel.setCell (show w.heap.size ≤ w.heap.size + 1 + 1 by omega) x, by simpa using h.siz, (setNe x (by omega)).trans h.b0, (setNe x (by omega)).trans h.b1, h'⟩
set_option maxRecDepth 20000 in
set_option maxHeartbeats 16000000 in
theorem l13Copy_any (g : Gat) (up uc us ul ud uo : Value) (w : World) (h : RGt w up uc us ul ud uo g) (hP : BdGt 1048576 g) :
    Calls Tryz.prog 21 #[.agg #[.string g.name, .int .i64 g.day, up, uc, us, ul, ud, uo]] w fun e w' => ∃ P0 P1 C0 C1 S0 S1 L0 L1 D0 D1 O0 O1, e = .returned (.agg #[.string g.name, .int .i64 g.day, (.slice P0 g.ptns.length P1), (.slice C0 g.crss.length C1), (.slice S0 g.book.stocks.length S1), (.slice L0 g.book.lines.length L1), (.slice D0 g.dffs.length D1), (.slice O0 g.outs.length O1)]) ∧ (∃ K : World → Prop, K w' ∧ (∀ W W', K W → Below W.heap.size W W' → K W') ∧ (∀ (W : World) (B i : Nat) (x : Value), K W → B < w.heap.size + 3 → K (W.setCell ⟨B, i, none⟩ x)) ∧ ∀ W, K W → RGt W (.slice P0 g.ptns.length P1) (.slice C0 g.crss.length C1) (.slice S0 g.book.stocks.length S1) (.slice L0 g.book.lines.length L1) (.slice D0 g.dffs.length D1) (.slice O0 g.outs.length O1) g) ∧ Below w.heap.size w w' := by
  obtain ⟨a0, c0, a1, c1, a2, c2, a3, c3, a4, c4, a5, c5, rfl, rfl, rfl, rfl, rfl, rfl⟩ := h.val
  have HP1 : Hid (g.ptns.length ≤ 1048576 ∧ ∀ p ∈ g.ptns, p.name.size ≤ 1048576 ∧ p.seen.length ≤ 1048576) := bdp hP
  have hl0 := (bdp hP).1
  have hl1 := (bdc hP).1
  have hl4 := (bdd hP).1
  have hl5 := (bdo hP).1
  obtain ⟨V0, hV0⟩ : ∃ V0, ((w.alloc (.cells #[.string g.name, .int .i64 g.day, (.slice a0 g.ptns.length c0), (.slice a1 g.crss.length c1), (.slice a2 g.book.stocks.length c2), (.slice a3 g.book.lines.length c3), (.slice a4 g.dffs.length c4), (.slice a5 g.outs.length c5)] 42)).alloc (.cells #[.string ⟨#[]⟩, .int .i64 0, .slice none 0 0, .slice none 0 0, .slice none 0 0, .slice none 0 0, .slice none 0 0, .slice none 0 0] 42)).alloc (.cells #[.string g.name, .int .i64 g.day, (.slice a0 g.ptns.length c0), (.slice a1 g.crss.length c1), (.slice a2 g.book.stocks.length c2), (.slice a3 g.book.lines.length c3), (.slice a4 g.dffs.length c4), (.slice a5 g.outs.length c5)] 42) = V0 := ⟨_, rfl⟩
  obtain ⟨k0, k1, k2⟩ := fl_three w (.cells #[.string g.name, .int .i64 g.day, (.slice a0 g.ptns.length c0), (.slice a1 g.crss.length c1), (.slice a2 g.book.stocks.length c2), (.slice a3 g.book.lines.length c3), (.slice a4 g.dffs.length c4), (.slice a5 g.outs.length c5)] 42) (.cells #[.string ⟨#[]⟩, .int .i64 0, .slice none 0 0, .slice none 0 0, .slice none 0 0, .slice none 0 0, .slice none 0 0, .slice none 0 0] 42) (.cells #[.string g.name, .int .i64 g.day, (.slice a0 g.ptns.length c0), (.slice a1 g.crss.length c1), (.slice a2 g.book.stocks.length c2), (.slice a3 g.book.lines.length c3), (.slice a4 g.dffs.length c4), (.slice a5 g.outs.length c5)] 42)
  rw [hV0] at k0 k1 k2
  have hb0 : Below w.heap.size w V0 := by rw [← hV0]; exact (((Below.refl _ _).alloc (Nat.le_refl _) _).alloc (by simp) _).alloc (by simp; omega) _
  have hs0 : V0.heap.size = w.heap.size + 3 := by rw [← hV0]; simp
  have HR : Hid ((∀ W, Below w.heap.size w W → RGt W (.slice a0 g.ptns.length c0) (.slice a1 g.crss.length c1) (.slice a2 g.book.stocks.length c2) (.slice a3 g.book.lines.length c3) (.slice a4 g.dffs.length c4) (.slice a5 g.outs.length c5) g) ∧ BdGt 1048576 g ∧ g.name.size ≤ 9223372036854775807) := ⟨fun W hW => h.below hW, hP, h.nm⟩
  go_enter Tryz.func21, Tryz.ntmps21
  go_upto_region 2 with fail
  try rw [hV0]
  clear hV0 h hP
  have hC0 : C13 w V0 #[.string g.name, .int .i64 g.day, (.slice a0 g.ptns.length c0), (.slice a1 g.crss.length c1), (.slice a2 g.book.stocks.length c2), (.slice a3 g.book.lines.length c3), (.slice a4 g.dffs.length c4), (.slice a5 g.outs.length c5)] #[.string g.name, .int .i64 g.day, (.slice a0 g.ptns.length c0), (.slice a1 g.crss.length c1), (.slice a2 g.book.stocks.length c2), (.slice a3 g.book.lines.length c3), (.slice a4 g.dffs.length c4), (.slice a5 g.outs.length c5)] := ⟨hb0, by omega, k0, k1, k2⟩
  have ha : Below V0.heap.size V0 (V0.alloc (.cells #[] 63)) := (Below.refl _ _).alloc (Nat.le_refl _) _
  have hC1 : C13 w (V0.alloc (.cells #[] 63)) #[.string g.name, .int .i64 g.day, (.slice a0 g.ptns.length c0), (.slice a1 g.crss.length c1), (.slice a2 g.book.stocks.length c2), (.slice a3 g.book.lines.length c3), (.slice a4 g.dffs.length c4), (.slice a5 g.outs.length c5)] #[.string g.name, .int .i64 g.day, (.slice a0 g.ptns.length c0), (.slice a1 g.crss.length c1), (.slice a2 g.book.stocks.length c2), (.slice a3 g.book.lines.length c3), (.slice a4 g.dffs.length c4), (.slice a5 g.outs.length c5)] := hC0.below (by rw [← hs0]; exact ha)
  have hn3 : (V0.alloc (.cells #[] 63)).heap[V0.heap.size]? = some (.cells #[] 63) := World.alloc_heap_new _ _
  have hown0 : OwnP (w.heap.size + 3) (V0.alloc (.cells #[] 63)) (.slice (some ⟨V0.heap.size, 0, none⟩) 0 0) [] := ⟨⟨rfl, .inr ⟨_, 0, #[], rfl, by omega, hn3, Nat.le_refl _, Nat.zero_le _, rfl, rfl⟩⟩, fun q hq => by simp at hq, List.Pairwise.nil⟩
  obtain ⟨x0, x1, x2, x3, x4, x5, x6, x7⟩ := bx8 hC1.b2
  have fz := fz8 hC1.b2
  obtain ⟨W1, hW1⟩ : ∃ W1, (V0.alloc (.cells #[] 63)).setCell ⟨w.heap.size + 1 + 1, 2, none⟩ (.slice (some ⟨V0.heap.size, 0, none⟩) 0 0) = W1 := ⟨_, rfl⟩
  have H1 : Hid (C13 w W1 #[.string g.name, .int .i64 g.day, (.slice a0 g.ptns.length c0), (.slice a1 g.crss.length c1), (.slice a2 g.book.stocks.length c2), (.slice a3 g.book.lines.length c3), (.slice a4 g.dffs.length c4), (.slice a5 g.outs.length c5)] #[.string g.name, .int .i64 g.day, (.slice (some ⟨V0.heap.size, 0, none⟩) 0 0), (.slice a1 g.crss.length c1), (.slice a2 g.book.stocks.length c2), (.slice a3 g.book.lines.length c3), (.slice a4 g.dffs.length c4), (.slice a5 g.outs.length c5)] ∧ OwnP (w.heap.size + 3) W1 (.slice (some ⟨V0.heap.size, 0, none⟩) 0 0) []) := by
    rw [← hW1]
    exact ⟨hC1.set 2 _ (st8_2 _ hC1.b2), hown0.setB (by omega) _ _⟩
  have HW : Hid ((V0.alloc (.cells #[] 63)).setCell ⟨w.heap.size + 1 + 1, 2, none⟩ (.slice (some ⟨V0.heap.size, 0, none⟩) 0 0) = W1) := hW1
  clear hb0 k0 k1 k2 hC0 hC1 ha hn3 hown0 hW1 hs0
  go_upto_region 3 with fail
  try rw [HW.out]
  clear HW x0 x1 x2 x3 x4 x5 x6 x7 fz
  go_wp2_with fail
  go_loopw [4] (fun i wr => ∃ (k : Nat) (qs : List (Ptn × Value)) (Q0 : Option Addr) (Q1 : Nat), i = .int .i64 (k : Int) ∧ k ≤ g.ptns.length ∧ qs.map Prod.fst = g.ptns.take k ∧ C13 w wr #[.string g.name, .int .i64 g.day, (.slice a0 g.ptns.length c0), (.slice a1 g.crss.length c1), (.slice a2 g.book.stocks.length c2), (.slice a3 g.book.lines.length c3), (.slice a4 g.dffs.length c4), (.slice a5 g.outs.length c5)] #[.string g.name, .int .i64 g.day, .slice Q0 qs.length Q1, (.slice a1 g.crss.length c1), (.slice a2 g.book.stocks.length c2), (.slice a3 g.book.lines.length c3), (.slice a4 g.dffs.length c4), (.slice a5 g.outs.length c5)] ∧ OwnP (w.heap.size + 3) wr (.slice Q0 qs.length Q1) qs) (fun i _ => g.ptns.length - (intOf i).toNat)
  case atStart => exact ⟨0, [], _, 0, rfl, by omega, rfl, H1.out.1, H1.out.2⟩
  case round =>
    obtain ⟨k, qs, Q0, Q1, rfl, hk, hqm, hC, hO⟩ := hrel
    have hql : qs.length ≤ 1048576 := by
      have := congrArg List.length hqm
      rw [List.length_map, List.length_take] at this
      omega
    have HI : Hid (qs.map Prod.fst = g.ptns.take k ∧ C13 w wr #[.string g.name, .int .i64 g.day, (.slice a0 g.ptns.length c0), (.slice a1 g.crss.length c1), (.slice a2 g.book.stocks.length c2), (.slice a3 g.book.lines.length c3), (.slice a4 g.dffs.length c4), (.slice a5 g.outs.length c5)] #[.string g.name, .int .i64 g.day, .slice Q0 qs.length Q1, (.slice a1 g.crss.length c1), (.slice a2 g.book.stocks.length c2), (.slice a3 g.book.lines.length c3), (.slice a4 g.dffs.length c4), (.slice a5 g.outs.length c5)] ∧ OwnP (w.heap.size + 3) wr (.slice Q0 qs.length Q1) qs) := ⟨hqm, hC, hO⟩
    obtain ⟨x0, x1, x2, x3, x4, x5, x6, x7⟩ := bx8 hC.b0
    obtain ⟨y0, y1, y2, y3, y4, y5, y6, y7⟩ := bx8 hC.b2
    clear hqm hO
    by_cases hlt : k < g.ptns.length
    · have hlt' : (k : Int) < (g.ptns.length : Int) := by omega
      obtain ⟨b, o, cap', p, u, e, hs, hat, hRp⟩ := (HR.out.1 _ hC.bel).pt.at hlt
      simp only [Value.slice.injEq, true_and] at e
      obtain ⟨rfl, rfl⟩ := e
      obtain ⟨n0, m0, rfl⟩ := hRp.ls.val
      have hpz := HP1.out.2 p (List.mem_of_getElem? hs)
      obtain ⟨pz0, pz1⟩ := hpz
      have HS : Hid (g.ptns[k]? = some p ∧ ∀ W, Below wr.heap.size wr W → RPt W (.slice n0 p.seen.length m0) p) := ⟨hs, fun W hW => hRp.below hW⟩
      have HC : Hid (∀ W, Below wr.heap.size wr W → (W.cell? ⟨b, o + k * 4, none⟩ = some (.string p.name) ∧ W.cell? ⟨b, o + k * 4 + 1, none⟩ = some (.int .i64 p.low) ∧ W.cell? ⟨b, o + k * 4 + 2, none⟩ = some (.int .i64 p.next) ∧ W.cell? ⟨b, o + k * 4 + 3, none⟩ = some (.slice n0 p.seen.length m0)) ∧ W.cell? ⟨w.heap.size, 2, none⟩ = some (.slice (some ⟨b, o, none⟩) g.ptns.length c0) ∧ W.cell? ⟨w.heap.size + 1 + 1, 2, none⟩ = some (.slice Q0 qs.length Q1) ∧ (∀ o, W.frozen? ⟨w.heap.size + 1 + 1, o, none⟩ = false) ∧ C13 w W #[.string g.name, .int .i64 g.day, (.slice (some ⟨b, o, none⟩) g.ptns.length c0), (.slice a1 g.crss.length c1), (.slice a2 g.book.stocks.length c2), (.slice a3 g.book.lines.length c3), (.slice a4 g.dffs.length c4), (.slice a5 g.outs.length c5)] #[.string g.name, .int .i64 g.day, .slice Q0 qs.length Q1, (.slice a1 g.crss.length c1), (.slice a2 g.book.stocks.length c2), (.slice a3 g.book.lines.length c3), (.slice a4 g.dffs.length c4), (.slice a5 g.outs.length c5)] ∧ OwnP (w.heap.size + 3) W (.slice Q0 qs.length Q1) qs) := fun W hW => by
        have hC' := HI.out.2.1.below (hW.mono HI.out.2.1.siz)
        obtain ⟨_, _, e2, _⟩ := bx8 hC'.b0
        obtain ⟨_, _, e3, _⟩ := bx8 hC'.b2
        obtain ⟨r0, r1, r2, r3⟩ := hat.below hW
        exact ⟨⟨r0, r1, r2, r3⟩, e2, e3, fz8 hC'.b2, hC', HI.out.2.2.below hW⟩
      clear hs hat hRp hC
      go_upto_region 6 with fail
      clear x0 x1 x2 x3 x4 x5 x6 x7 y0 y1 y2 y3 y4 y5 y6 y7
      obtain ⟨⟨q0, q1, q2, q3⟩, q4, q5, q6, q7, q8⟩ := HC.out wr (Below.refl _ _)
      go_region_law (first | (go_simp; go_at_call 23; refine (l07Copy_g p _ _ (by with_reducible first | exact HS.out.2 _ (Below.refl _ _) | exact HS.out.2 _ (Below.refl _ _).drew) pz1).mono ?_; rintro e w2 ⟨A5, C5, rfl, hown5, hb5⟩; have b5 : Below wr.heap.size wr w2 := (by with_reducible first | exact hb5 | exact undrewG hb5); have hnew5 : ∀ j, (Value.slice A5 p.seen.length C5).ownBlock = some j → wr.heap.size ≤ j := (fun j hj => (hown5.lt j hj).1); obtain ⟨⟨r0, r1, r2, r3⟩, r4, r5, r6, r7, r8⟩ := HC.out w2 b5; have b6 : Below wr.heap.size wr (w2.alloc (.cells #[.string p.name, .int .i64 p.low, .int .i64 p.next, (.slice A5 p.seen.length C5)] 63)) := b5.alloc b5.size _; obtain ⟨⟨s0, s1, s2, s3⟩, s4, s5, s6, s7, s8⟩ := HC.out _ b6; have hsn6 := own_belowP hown5 ((Below.refl _ w2).alloc (Nat.le_refl _) (.cells #[.string p.name, .int .i64 p.low, .int .i64 p.next, (.slice A5 p.seen.length C5)] 63)); have hat6 := bx4p (World.alloc_heap_new w2 (.cells #[.string p.name, .int .i64 p.low, .int .i64 p.next, (.slice A5 p.seen.length C5)] 63)); have hz6 := s7.siz; clear hb5 hown5; try dsimp only) | (refine step_appP (base := (w.heap.size + 3)) (q := (p, .slice A5 p.seen.length C5)) (by rfl) _ _ (by rfl) (by rfl) (by rfl) s8 hat6 (ownsRow_down hsn6 HI.out.2.1.siz) (fun y hy g1 hg1 e => by have h1 := ((HI.out.2.2.sn y hy).lt g1 hg1).2; have h2 := hnew5 g1 e; omega) rfl (by omega) hz6 ?_; intro A6 C6 w7 hO7 hg7; have b7 := grow_own s8.row hg7 hz6; have hC7 := s7.below b7; obtain ⟨t0, t1, t2, t3, t4, t5, t6, t7⟩ := bx8 hC7.b2; have tf := fz8 hC7.b2; have K7 : Hid (C13 w (w7.setCell ⟨w.heap.size + 1 + 1, 2, none⟩ (.slice A6 (qs ++ [(p, Value.slice A5 p.seen.length C5)]).length C6)) #[.string g.name, .int .i64 g.day, (.slice (some ⟨b, o, none⟩) g.ptns.length c0), (.slice a1 g.crss.length c1), (.slice a2 g.book.stocks.length c2), (.slice a3 g.book.lines.length c3), (.slice a4 g.dffs.length c4), (.slice a5 g.outs.length c5)] #[.string g.name, .int .i64 g.day, (.slice A6 (qs ++ [(p, Value.slice A5 p.seen.length C5)]).length C6), (.slice a1 g.crss.length c1), (.slice a2 g.book.stocks.length c2), (.slice a3 g.book.lines.length c3), (.slice a4 g.dffs.length c4), (.slice a5 g.outs.length c5)] ∧ OwnP (w.heap.size + 3) (w7.setCell ⟨w.heap.size + 1 + 1, 2, none⟩ (.slice A6 (qs ++ [(p, Value.slice A5 p.seen.length C5)]).length C6)) (.slice A6 (qs ++ [(p, Value.slice A5 p.seen.length C5)]).length C6) (qs ++ [(p, Value.slice A5 p.seen.length C5)])) := ⟨hC7.set 2 _ (st8_2 _ hC7.b2), hO7.setB (by omega) _ _⟩; clear hO7 hg7 b7 hC7; try dsimp only) | fail)
      all_goals
        have e3 : (qs ++ [(p, Value.slice A5 p.seen.length C5)]).map Prod.fst = g.ptns.take (k + 1) := by
          rw [List.take_add_one, HS.out.1, List.map_append, HI.out.1]
          rfl
        go_wp2
        go_roundw
        case rel => exact ⟨k + 1, qs ++ [(p, Value.slice A5 p.seen.length C5)], A6, C6, by go_num, by omega, e3, by simpa using K7.out.1, by simpa using K7.out.2⟩
        case measure => simp [intOf]; omega
    · obtain rfl : k = g.ptns.length := by omega
      have hqe : qs.map Prod.fst = g.ptns := by rw [HI.out.1, List.take_length]
      have HQ : Hid (qs.map Prod.fst = g.ptns) := hqe
      have H0 : Hid (C13 w wr #[.string g.name, .int .i64 g.day, (.slice a0 g.ptns.length c0), (.slice a1 g.crss.length c1), (.slice a2 g.book.stocks.length c2), (.slice a3 g.book.lines.length c3), (.slice a4 g.dffs.length c4), (.slice a5 g.outs.length c5)] #[.string g.name, .int .i64 g.day, (.slice Q0 qs.length Q1), (.slice a1 g.crss.length c1), (.slice a2 g.book.stocks.length c2), (.slice a3 g.book.lines.length c3), (.slice a4 g.dffs.length c4), (.slice a5 g.outs.length c5)] ∧ OwnP (w.heap.size + 3) wr (.slice Q0 qs.length Q1) qs) := ⟨HI.out.2.1, HI.out.2.2⟩
      clear hC hqe HI
      have V0' : Hid True := trivial
      have hC := H0.out.1
      have ha : Below wr.heap.size wr (wr.alloc (.cells #[] 106)) := (Below.refl _ _).alloc (Nat.le_refl _) _
      have hCa := hC.below (ha.mono hC.siz)
      have hB : (wr.alloc (.cells #[] 106)).heap[wr.heap.size]? = some (.cells #[] 106) := World.alloc_heap_new _ _
      have hrow := (HR.out.1 _ hCa.bel).cs
      obtain ⟨x0, x1, x2, x3, x4, x5, x6, x7⟩ := bx8 hCa.b0
      have hsz := hC.siz
      go_upto_region 8 with (first | (at_builtin; refine wpList_cpyCs (base := (w.heap.size + 3)) (by rfl) _ _ rfl rfl rfl hB hrow (by omega) hsz ?_; intro C0 C1 wq hown hg; have hbq : Below (w.heap.size + 3) (wr.alloc (.cells #[] 106)) wq := grow_belowB hg hCa.siz hsz; have hCq := hCa.below hbq; obtain ⟨y0, y1, y2, y3, y4, y5, y6, y7⟩ := bx8 hCq.b2; have fz := fz8 hCq.b2; have K7 : Hid (C13 w (wq.setCell ⟨w.heap.size + 1 + 1, 3, none⟩ (.slice C0 g.crss.length C1)) #[.string g.name, .int .i64 g.day, (.slice a0 g.ptns.length c0), (.slice a1 g.crss.length c1), (.slice a2 g.book.stocks.length c2), (.slice a3 g.book.lines.length c3), (.slice a4 g.dffs.length c4), (.slice a5 g.outs.length c5)] #[.string g.name, .int .i64 g.day, (.slice Q0 qs.length Q1), (.slice C0 g.crss.length C1), (.slice a2 g.book.stocks.length c2), (.slice a3 g.book.lines.length c3), (.slice a4 g.dffs.length c4), (.slice a5 g.outs.length c5)] ∧ OwnP (w.heap.size + 3) (wq.setCell ⟨w.heap.size + 1 + 1, 3, none⟩ (.slice C0 g.crss.length C1)) (.slice Q0 qs.length Q1) qs ∧ (wq.setCell ⟨w.heap.size + 1 + 1, 3, none⟩ (.slice C0 g.crss.length C1)).ownsRow (w.heap.size + 3) 106 3 (.slice C0 g.crss.length C1) g.crss.length (clCss g.crss)) := ⟨hCq.set 3 _ (st8_3 _ hCq.b2), (((H0.out.2).below ha).keepG hg ⟨_, _, hB, by decide, by decide⟩).setB (by omega) _ _, own_setB hown (by omega) _ _⟩; clear hown hg hbq hCq))
      obtain ⟨W7, hWn⟩ : ∃ W7, wq.setCell ⟨w.heap.size + 1 + 1, 3, none⟩ (.slice C0 g.crss.length C1) = W7 := ⟨_, rfl⟩
      have H7 : Hid (C13 w W7 #[.string g.name, .int .i64 g.day, (.slice a0 g.ptns.length c0), (.slice a1 g.crss.length c1), (.slice a2 g.book.stocks.length c2), (.slice a3 g.book.lines.length c3), (.slice a4 g.dffs.length c4), (.slice a5 g.outs.length c5)] #[.string g.name, .int .i64 g.day, (.slice Q0 qs.length Q1), (.slice C0 g.crss.length C1), (.slice a2 g.book.stocks.length c2), (.slice a3 g.book.lines.length c3), (.slice a4 g.dffs.length c4), (.slice a5 g.outs.length c5)] ∧ OwnP (w.heap.size + 3) W7 (.slice Q0 qs.length Q1) qs ∧ W7.ownsRow (w.heap.size + 3) 106 3 (.slice C0 g.crss.length C1) g.crss.length (clCss g.crss)) := by rw [← hWn]; exact K7.out
      try rw [hWn]
      clear hWn K7 hC ha hCa hB hrow x0 x1 x2 x3 x4 x5 x6 x7 y0 y1 y2 y3 y4 y5 y6 y7 hsz fz H0
      have hC8 := H7.out.1
      have hb8 := hC8.bel
      obtain ⟨x0, x1, x2, x3, x4, x5, x6, x7⟩ := bx8 hC8.b0
      go_wp2_with fail
      refine (l10Copy_any g.book _ _ _ (HR.out.1 _ hb8).bk HR.out.2.1.2.2.2.1).mono ?_
      rintro e w8 ⟨v8, v9, rfl, hst, hln, hb⟩
      obtain ⟨S0, S1, rfl⟩ : ∃ S0 S1, v8 = .slice S0 g.book.stocks.length S1 := by
        rcases hst.2 with ⟨e, h0⟩ | ⟨_, cap, _, e, _⟩
        · exact ⟨none, 0, by rw [e, h0]⟩
        · exact ⟨_, cap, e⟩
      obtain ⟨L0, L1, rfl⟩ : ∃ L0 L1, v9 = .slice L0 g.book.lines.length L1 := by
        rcases hln.2 with ⟨e, h0⟩ | ⟨_, cap, _, e, _⟩
        · exact ⟨none, 0, by rw [e, h0]⟩
        · exact ⟨_, cap, e⟩
      have hbN : Below (w.heap.size + 3) W7 w8 := hb.mono hC8.siz
      have hC9 := hC8.below hbN
      obtain ⟨y0, y1, y2, y3, y4, y5, y6, y7⟩ := bx8 hC9.b2
      obtain ⟨u0, u1, u2, u3, u4, u5, u6, u7⟩ := bx8 (st8_4 (.slice S0 g.book.stocks.length S1) hC9.b2)
      obtain ⟨xx0, xx1, xx2, xx3, xx4, xx5, xx6, xx7⟩ := bx8 hC9.b0
      have fz := fz8 hC9.b2
      obtain ⟨Wb, hWb⟩ : ∃ Wb, (w8.setCell ⟨w.heap.size + 1 + 1, 4, none⟩ (.slice S0 g.book.stocks.length S1)).setCell ⟨w.heap.size + 1 + 1, 5, none⟩ (.slice L0 g.book.lines.length L1) = Wb := ⟨_, rfl⟩
      have H8 : Hid (C13 w Wb #[.string g.name, .int .i64 g.day, (.slice a0 g.ptns.length c0), (.slice a1 g.crss.length c1), (.slice a2 g.book.stocks.length c2), (.slice a3 g.book.lines.length c3), (.slice a4 g.dffs.length c4), (.slice a5 g.outs.length c5)] #[.string g.name, .int .i64 g.day, (.slice Q0 qs.length Q1), (.slice C0 g.crss.length C1), (.slice S0 g.book.stocks.length S1), (.slice L0 g.book.lines.length L1), (.slice a4 g.dffs.length c4), (.slice a5 g.outs.length c5)] ∧ OwnP (w.heap.size + 3) Wb (.slice Q0 qs.length Q1) qs ∧ Wb.ownsRow (w.heap.size + 3) 106 3 (.slice C0 g.crss.length C1) g.crss.length (clCss g.crss) ∧ Wb.ownsRow (w.heap.size + 3) 145 2 (.slice S0 g.book.stocks.length S1) g.book.stocks.length (clSts g.book.stocks) ∧ Wb.ownsRow (w.heap.size + 3) 151 8 (.slice L0 g.book.lines.length L1) g.book.lines.length (clOls g.book.lines)) := by
        rw [← hWb]
        exact ⟨(hC9.set 4 _ (st8_4 _ hC9.b2)).set 5 _ (st8_5 _ (st8_4 _ hC9.b2)), (((H7.out.2.1).below hb).setB (by omega) _ _).setB (by omega) _ _, own_setB (own_setB (own_belowP H7.out.2.2 hb) (by omega) _ _) (by omega) _ _, own_setB (own_setB (ownsRow_down hst (by have := hC8.siz; omega)) (by omega) _ _) (by omega) _ _, own_setB (own_setB (ownsRow_down hln (by have := hC8.siz; omega)) (by omega) _ _) (by omega) _ _⟩
      have HWb : Hid ((w8.setCell ⟨w.heap.size + 1 + 1, 4, none⟩ (.slice S0 g.book.stocks.length S1)).setCell ⟨w.heap.size + 1 + 1, 5, none⟩ (.slice L0 g.book.lines.length L1) = Wb) := hWb
      clear hst hln hb hbN hC8 hC9 hb8 hWb x0 x1 x2 x3 x4 x5 x6 x7
      go_upto_region 9 with fail
      try rw [HWb.out]
      clear HWb y0 y1 y2 y3 y4 y5 y6 y7 u0 u1 u2 u3 u4 u5 u6 u7 xx0 xx1 xx2 xx3 xx4 xx5 xx6 xx7 fz H7
      have hC := H8.out.1
      have ha : Below Wb.heap.size Wb (Wb.alloc (.cells #[] 110)) := (Below.refl _ _).alloc (Nat.le_refl _) _
      have hCa := hC.below (ha.mono hC.siz)
      have hB : (Wb.alloc (.cells #[] 110)).heap[Wb.heap.size]? = some (.cells #[] 110) := World.alloc_heap_new _ _
      have hrow := (HR.out.1 _ hCa.bel).df
      obtain ⟨x0, x1, x2, x3, x4, x5, x6, x7⟩ := bx8 hCa.b0
      have hsz := hC.siz
      go_upto_region 10 with (first | (at_builtin; refine wpList_cpyDf (base := (w.heap.size + 3)) (by rfl) _ _ rfl rfl rfl hB hrow (by omega) hsz ?_; intro D0 D1 wq hown hg; have hbq : Below (w.heap.size + 3) (Wb.alloc (.cells #[] 110)) wq := grow_belowB hg hCa.siz hsz; have hCq := hCa.below hbq; obtain ⟨y0, y1, y2, y3, y4, y5, y6, y7⟩ := bx8 hCq.b2; have fz := fz8 hCq.b2; have K9 : Hid (C13 w (wq.setCell ⟨w.heap.size + 1 + 1, 6, none⟩ (.slice D0 g.dffs.length D1)) #[.string g.name, .int .i64 g.day, (.slice a0 g.ptns.length c0), (.slice a1 g.crss.length c1), (.slice a2 g.book.stocks.length c2), (.slice a3 g.book.lines.length c3), (.slice a4 g.dffs.length c4), (.slice a5 g.outs.length c5)] #[.string g.name, .int .i64 g.day, (.slice Q0 qs.length Q1), (.slice C0 g.crss.length C1), (.slice S0 g.book.stocks.length S1), (.slice L0 g.book.lines.length L1), (.slice D0 g.dffs.length D1), (.slice a5 g.outs.length c5)] ∧ OwnP (w.heap.size + 3) (wq.setCell ⟨w.heap.size + 1 + 1, 6, none⟩ (.slice D0 g.dffs.length D1)) (.slice Q0 qs.length Q1) qs ∧ (wq.setCell ⟨w.heap.size + 1 + 1, 6, none⟩ (.slice D0 g.dffs.length D1)).ownsRow (w.heap.size + 3) 106 3 (.slice C0 g.crss.length C1) g.crss.length (clCss g.crss) ∧ (wq.setCell ⟨w.heap.size + 1 + 1, 6, none⟩ (.slice D0 g.dffs.length D1)).ownsRow (w.heap.size + 3) 145 2 (.slice S0 g.book.stocks.length S1) g.book.stocks.length (clSts g.book.stocks) ∧ (wq.setCell ⟨w.heap.size + 1 + 1, 6, none⟩ (.slice D0 g.dffs.length D1)).ownsRow (w.heap.size + 3) 151 8 (.slice L0 g.book.lines.length L1) g.book.lines.length (clOls g.book.lines) ∧ (wq.setCell ⟨w.heap.size + 1 + 1, 6, none⟩ (.slice D0 g.dffs.length D1)).ownsRow (w.heap.size + 3) 110 6 (.slice D0 g.dffs.length D1) g.dffs.length (clDfs g.dffs)) := ⟨hCq.set 6 _ (st8_6 _ hCq.b2), (((H8.out.2.1).below ha).keepG hg ⟨_, _, hB, by decide, by decide⟩).setB (by omega) _ _, own_setB (own_keep (own_belowP H8.out.2.2.1 ha) hg (.inr ⟨_, _, hB, by decide⟩)) (by omega) _ _, own_setB (own_keep (own_belowP H8.out.2.2.2.1 ha) hg (.inr ⟨_, _, hB, by decide⟩)) (by omega) _ _, own_setB (own_keep (own_belowP H8.out.2.2.2.2 ha) hg (.inr ⟨_, _, hB, by decide⟩)) (by omega) _ _, own_setB hown (by omega) _ _⟩; clear hown hg hbq hCq))
      obtain ⟨W9, hWn⟩ : ∃ W9, wq.setCell ⟨w.heap.size + 1 + 1, 6, none⟩ (.slice D0 g.dffs.length D1) = W9 := ⟨_, rfl⟩
      have H9 : Hid (C13 w W9 #[.string g.name, .int .i64 g.day, (.slice a0 g.ptns.length c0), (.slice a1 g.crss.length c1), (.slice a2 g.book.stocks.length c2), (.slice a3 g.book.lines.length c3), (.slice a4 g.dffs.length c4), (.slice a5 g.outs.length c5)] #[.string g.name, .int .i64 g.day, (.slice Q0 qs.length Q1), (.slice C0 g.crss.length C1), (.slice S0 g.book.stocks.length S1), (.slice L0 g.book.lines.length L1), (.slice D0 g.dffs.length D1), (.slice a5 g.outs.length c5)] ∧ OwnP (w.heap.size + 3) W9 (.slice Q0 qs.length Q1) qs ∧ W9.ownsRow (w.heap.size + 3) 106 3 (.slice C0 g.crss.length C1) g.crss.length (clCss g.crss) ∧ W9.ownsRow (w.heap.size + 3) 145 2 (.slice S0 g.book.stocks.length S1) g.book.stocks.length (clSts g.book.stocks) ∧ W9.ownsRow (w.heap.size + 3) 151 8 (.slice L0 g.book.lines.length L1) g.book.lines.length (clOls g.book.lines) ∧ W9.ownsRow (w.heap.size + 3) 110 6 (.slice D0 g.dffs.length D1) g.dffs.length (clDfs g.dffs)) := by rw [← hWn]; exact K9.out
      try rw [hWn]
      clear hWn K9 hC ha hCa hB hrow x0 x1 x2 x3 x4 x5 x6 x7 y0 y1 y2 y3 y4 y5 y6 y7 hsz fz H8
      have hC := H9.out.1
      have ha : Below W9.heap.size W9 (W9.alloc (.cells #[] 112)) := (Below.refl _ _).alloc (Nat.le_refl _) _
      have hCa := hC.below (ha.mono hC.siz)
      have hB : (W9.alloc (.cells #[] 112)).heap[W9.heap.size]? = some (.cells #[] 112) := World.alloc_heap_new _ _
      have hrow := (HR.out.1 _ hCa.bel).ou
      obtain ⟨x0, x1, x2, x3, x4, x5, x6, x7⟩ := bx8 hCa.b0
      have hsz := hC.siz
      go_upto_region 11 with (first | (at_builtin; refine wpList_cpyOu (base := (w.heap.size + 3)) (by rfl) _ _ rfl rfl rfl hB hrow (by omega) hsz ?_; intro O0 O1 wq hown hg; have hbq : Below (w.heap.size + 3) (W9.alloc (.cells #[] 112)) wq := grow_belowB hg hCa.siz hsz; have hCq := hCa.below hbq; obtain ⟨y0, y1, y2, y3, y4, y5, y6, y7⟩ := bx8 hCq.b2; have fz := fz8 hCq.b2; have K10 : Hid (C13 w (wq.setCell ⟨w.heap.size + 1 + 1, 7, none⟩ (.slice O0 g.outs.length O1)) #[.string g.name, .int .i64 g.day, (.slice a0 g.ptns.length c0), (.slice a1 g.crss.length c1), (.slice a2 g.book.stocks.length c2), (.slice a3 g.book.lines.length c3), (.slice a4 g.dffs.length c4), (.slice a5 g.outs.length c5)] #[.string g.name, .int .i64 g.day, (.slice Q0 qs.length Q1), (.slice C0 g.crss.length C1), (.slice S0 g.book.stocks.length S1), (.slice L0 g.book.lines.length L1), (.slice D0 g.dffs.length D1), (.slice O0 g.outs.length O1)] ∧ OwnP (w.heap.size + 3) (wq.setCell ⟨w.heap.size + 1 + 1, 7, none⟩ (.slice O0 g.outs.length O1)) (.slice Q0 qs.length Q1) qs ∧ (wq.setCell ⟨w.heap.size + 1 + 1, 7, none⟩ (.slice O0 g.outs.length O1)).ownsRow (w.heap.size + 3) 106 3 (.slice C0 g.crss.length C1) g.crss.length (clCss g.crss) ∧ (wq.setCell ⟨w.heap.size + 1 + 1, 7, none⟩ (.slice O0 g.outs.length O1)).ownsRow (w.heap.size + 3) 145 2 (.slice S0 g.book.stocks.length S1) g.book.stocks.length (clSts g.book.stocks) ∧ (wq.setCell ⟨w.heap.size + 1 + 1, 7, none⟩ (.slice O0 g.outs.length O1)).ownsRow (w.heap.size + 3) 151 8 (.slice L0 g.book.lines.length L1) g.book.lines.length (clOls g.book.lines) ∧ (wq.setCell ⟨w.heap.size + 1 + 1, 7, none⟩ (.slice O0 g.outs.length O1)).ownsRow (w.heap.size + 3) 110 6 (.slice D0 g.dffs.length D1) g.dffs.length (clDfs g.dffs) ∧ (wq.setCell ⟨w.heap.size + 1 + 1, 7, none⟩ (.slice O0 g.outs.length O1)).ownsRow (w.heap.size + 3) 112 5 (.slice O0 g.outs.length O1) g.outs.length (clOus g.outs)) := ⟨hCq.set 7 _ (st8_7 _ hCq.b2), (((H9.out.2.1).below ha).keepG hg ⟨_, _, hB, by decide, by decide⟩).setB (by omega) _ _, own_setB (own_keep (own_belowP H9.out.2.2.1 ha) hg (.inr ⟨_, _, hB, by decide⟩)) (by omega) _ _, own_setB (own_keep (own_belowP H9.out.2.2.2.1 ha) hg (.inr ⟨_, _, hB, by decide⟩)) (by omega) _ _, own_setB (own_keep (own_belowP H9.out.2.2.2.2.1 ha) hg (.inr ⟨_, _, hB, by decide⟩)) (by omega) _ _, own_setB (own_keep (own_belowP H9.out.2.2.2.2.2 ha) hg (.inr ⟨_, _, hB, by decide⟩)) (by omega) _ _, own_setB hown (by omega) _ _⟩; clear hown hg hbq hCq))
      obtain ⟨W10, hWn⟩ : ∃ W10, wq.setCell ⟨w.heap.size + 1 + 1, 7, none⟩ (.slice O0 g.outs.length O1) = W10 := ⟨_, rfl⟩
      have H10 : Hid (C13 w W10 #[.string g.name, .int .i64 g.day, (.slice a0 g.ptns.length c0), (.slice a1 g.crss.length c1), (.slice a2 g.book.stocks.length c2), (.slice a3 g.book.lines.length c3), (.slice a4 g.dffs.length c4), (.slice a5 g.outs.length c5)] #[.string g.name, .int .i64 g.day, (.slice Q0 qs.length Q1), (.slice C0 g.crss.length C1), (.slice S0 g.book.stocks.length S1), (.slice L0 g.book.lines.length L1), (.slice D0 g.dffs.length D1), (.slice O0 g.outs.length O1)] ∧ OwnP (w.heap.size + 3) W10 (.slice Q0 qs.length Q1) qs ∧ W10.ownsRow (w.heap.size + 3) 106 3 (.slice C0 g.crss.length C1) g.crss.length (clCss g.crss) ∧ W10.ownsRow (w.heap.size + 3) 145 2 (.slice S0 g.book.stocks.length S1) g.book.stocks.length (clSts g.book.stocks) ∧ W10.ownsRow (w.heap.size + 3) 151 8 (.slice L0 g.book.lines.length L1) g.book.lines.length (clOls g.book.lines) ∧ W10.ownsRow (w.heap.size + 3) 110 6 (.slice D0 g.dffs.length D1) g.dffs.length (clDfs g.dffs) ∧ W10.ownsRow (w.heap.size + 3) 112 5 (.slice O0 g.outs.length O1) g.outs.length (clOus g.outs)) := by rw [← hWn]; exact K10.out
      try rw [hWn]
      clear hWn K10 hC ha hCa hB hrow x0 x1 x2 x3 x4 x5 x6 x7 y0 y1 y2 y3 y4 y5 y6 y7 hsz fz H9
      have hC := H10.out.1
      obtain ⟨y0, y1, y2, y3, y4, y5, y6, y7⟩ := bx8 hC.b2
      obtain ⟨r0, r1, r2, r3, r4, r5, r6, r7⟩ := bx8 hC.b1
      have fz := fz8 hC.b1
      go_wp2
      have hz := hC.siz
      have stp : ∀ (W : World) (j : Nat) (x : Value), (Below w.heap.size w W ∧ OwnP (w.heap.size + 3) W (.slice Q0 qs.length Q1) qs ∧ W.ownsRow (w.heap.size + 3) 106 3 (.slice C0 g.crss.length C1) g.crss.length (clCss g.crss) ∧ W.ownsRow (w.heap.size + 3) 145 2 (.slice S0 g.book.stocks.length S1) g.book.stocks.length (clSts g.book.stocks) ∧ W.ownsRow (w.heap.size + 3) 151 8 (.slice L0 g.book.lines.length L1) g.book.lines.length (clOls g.book.lines) ∧ W.ownsRow (w.heap.size + 3) 110 6 (.slice D0 g.dffs.length D1) g.dffs.length (clDfs g.dffs) ∧ W.ownsRow (w.heap.size + 3) 112 5 (.slice O0 g.outs.length O1) g.outs.length (clOus g.outs)) → (Below w.heap.size w (W.setCell ⟨w.heap.size + 1, j, none⟩ x) ∧ OwnP (w.heap.size + 3) (W.setCell ⟨w.heap.size + 1, j, none⟩ x) (.slice Q0 qs.length Q1) qs ∧ (W.setCell ⟨w.heap.size + 1, j, none⟩ x).ownsRow (w.heap.size + 3) 106 3 (.slice C0 g.crss.length C1) g.crss.length (clCss g.crss) ∧ (W.setCell ⟨w.heap.size + 1, j, none⟩ x).ownsRow (w.heap.size + 3) 145 2 (.slice S0 g.book.stocks.length S1) g.book.stocks.length (clSts g.book.stocks) ∧ (W.setCell ⟨w.heap.size + 1, j, none⟩ x).ownsRow (w.heap.size + 3) 151 8 (.slice L0 g.book.lines.length L1) g.book.lines.length (clOls g.book.lines) ∧ (W.setCell ⟨w.heap.size + 1, j, none⟩ x).ownsRow (w.heap.size + 3) 110 6 (.slice D0 g.dffs.length D1) g.dffs.length (clDfs g.dffs) ∧ (W.setCell ⟨w.heap.size + 1, j, none⟩ x).ownsRow (w.heap.size + 3) 112 5 (.slice O0 g.outs.length O1) g.outs.length (clOus g.outs)) := fun W j x ⟨m, m0, m1, m2, m3, m4, m5⟩ => ⟨m.setCell (Nat.le_succ _) x, m0.setB (by omega) _ _, own_setB m1 (by omega) _ _, own_setB m2 (by omega) _ _, own_setB m3 (by omega) _ _, own_setB m4 (by omega) _ _, own_setB m5 (by omega) _ _⟩
      have hF := stp _ 7 (.slice O0 g.outs.length O1) (stp _ 6 (.slice D0 g.dffs.length D1) (stp _ 5 (.slice L0 g.book.lines.length L1) (stp _ 4 (.slice S0 g.book.stocks.length S1) (stp _ 3 (.slice C0 g.crss.length C1) (stp _ 2 (.slice Q0 qs.length Q1) (stp _ 1 (.int .i64 g.day) (stp _ 0 (.string g.name) ⟨hC.bel, H10.out.2⟩)))))))
      have hqe := HQ.out
      have hql2 : qs.length = g.ptns.length := by rw [← hqe, List.length_map]
      have hbc := bdc HR.out.2.1
      have hbs := HR.out.2.1.2.2.2.1.1
      have hbl := HR.out.2.1.2.2.2.1.2
      have hbd := bdd HR.out.2.1
      have hbo := bdo HR.out.2.1
      have lz : ∀ W, RowPt W (.slice Q0 qs.length Q1) (qs.map Prod.fst) → RowPt W (.slice Q0 g.ptns.length Q1) g.ptns := fun W hW => by
        rw [hqe, hql2] at hW
        exact hW
      have lR : ∀ W : World, (OwnP (w.heap.size + 3) W (.slice Q0 qs.length Q1) qs ∧ W.ownsRow (w.heap.size + 3) 106 3 (.slice C0 g.crss.length C1) g.crss.length (clCss g.crss) ∧ W.ownsRow (w.heap.size + 3) 145 2 (.slice S0 g.book.stocks.length S1) g.book.stocks.length (clSts g.book.stocks) ∧ W.ownsRow (w.heap.size + 3) 151 8 (.slice L0 g.book.lines.length L1) g.book.lines.length (clOls g.book.lines) ∧ W.ownsRow (w.heap.size + 3) 110 6 (.slice D0 g.dffs.length D1) g.dffs.length (clDfs g.dffs) ∧ W.ownsRow (w.heap.size + 3) 112 5 (.slice O0 g.outs.length O1) g.outs.length (clOus g.outs)) → RGt W (.slice Q0 g.ptns.length Q1) (.slice C0 g.crss.length C1) (.slice S0 g.book.stocks.length S1) (.slice L0 g.book.lines.length L1) (.slice D0 g.dffs.length D1) (.slice O0 g.outs.length O1) g := fun W hF => by
        obtain ⟨_, _, l1⟩ := LCs.of_owns hF.2.1 (by omega) (fun i c hi => by have := hbc.2 c (List.mem_of_getElem? hi); omega)
        obtain ⟨_, _, l2⟩ := LSt.of_owns hF.2.2.1 (by have := hbs.1; omega) (fun i c hi => by have := hbs.2 i c hi; omega)
        obtain ⟨_, _, l3⟩ := LOl.of_owns hF.2.2.2.1 (by have := hbl.1; omega) (fun i c hi => by have := hbl.2 i c hi; omega)
        obtain ⟨_, _, l4⟩ := LDf.of_owns hF.2.2.2.2.1 (by omega) (fun i c hi => by have := hbd.2 c (List.mem_of_getElem? hi); omega)
        obtain ⟨_, _, l5⟩ := LOu.of_owns hF.2.2.2.2.2 (by omega) (fun i c hi => by have := hbo.2 c (List.mem_of_getElem? hi); omega)
        have l0 := lz _ (hF.1.rows (by omega) (fun q hq => by
          have := HP1.out.2 q.1 (by rw [← hqe]; exact List.mem_map_of_mem hq)
          omega))
        exact ⟨HR.out.2.2, l0, l1.row, ⟨l2.row, l3.row⟩, l4.row, l5.row⟩
      refine bodyPost_ret (v := .agg #[.string g.name, .int .i64 g.day, (.slice Q0 qs.length Q1), (.slice C0 g.crss.length C1), (.slice S0 g.book.stocks.length S1), (.slice L0 g.book.lines.length L1), (.slice D0 g.dffs.length D1), (.slice O0 g.outs.length O1)]) (by simp [results, Tryz.results21, go_sem, r0, r1, r2, r3, r4, r5, r6, r7]) rfl ⟨Q0, Q1, _, _, _, _, _, _, _, _, _, _, by rw [hql2], ⟨fun W => OwnP (w.heap.size + 3) W (.slice Q0 qs.length Q1) qs ∧ W.ownsRow (w.heap.size + 3) 106 3 (.slice C0 g.crss.length C1) g.crss.length (clCss g.crss) ∧ W.ownsRow (w.heap.size + 3) 145 2 (.slice S0 g.book.stocks.length S1) g.book.stocks.length (clSts g.book.stocks) ∧ W.ownsRow (w.heap.size + 3) 151 8 (.slice L0 g.book.lines.length L1) g.book.lines.length (clOls g.book.lines) ∧ W.ownsRow (w.heap.size + 3) 110 6 (.slice D0 g.dffs.length D1) g.dffs.length (clDfs g.dffs) ∧ W.ownsRow (w.heap.size + 3) 112 5 (.slice O0 g.outs.length O1) g.outs.length (clOus g.outs), hF.2, fun W W' ⟨m0, m1, m2, m3, m4, m5⟩ hb => ⟨m0.below hb, own_belowP m1 hb, own_belowP m2 hb, own_belowP m3 hb, own_belowP m4 hb, own_belowP m5 hb⟩, fun W B i x ⟨m0, m1, m2, m3, m4, m5⟩ hB => ⟨m0.setB hB _ _, own_setB m1 hB _ _, own_setB m2 hB _ _, own_setB m3 hB _ _, own_setB m4 hB _ _, own_setB m5 hB _ _⟩, lR⟩, ?_⟩
      exact hF.1
end Go.Proofs.YtkgkahlhekecmaaGreat
