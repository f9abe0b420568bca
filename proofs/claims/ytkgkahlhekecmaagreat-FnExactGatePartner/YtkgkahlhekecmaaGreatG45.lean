/- Texts of ours put together: CpS, AppYCs, AppYDf, AppYOu. -/
import Derived.Test.YtkgkahlhekecmaaGreatG44
import Derived.Test.YtkgkahlhekecmaaGreatG01
import Derived.Test.YtkgkahlhekecmaaGreatG23
import Derived.Deep.RegionLaw
import Derived.Deep.RegionHeld3
import Derived.Test.YtkgkahlhekecmaaGreatG20
import Derived.Deep.AppendLies
import Derived.BigFrame
import Derived.Test.YtkgkahlhekecmaaGreatG26
namespace Go.Proofs.YtkgkahlhekecmaaGreat
open Go.ChangeShapes Go.WideShapes Go.ChangeAt Go.RowKit
theorem cell_al {W : World} {b i : Nat} {v : Value} (h : W.cell? ⟨b, i, none⟩ = some v) (o : Obj) : (W.alloc o).cell? ⟨b, i, none⟩ = some v := (World.cell?_alloc_lt _ _ _ (cell_lt h)).trans h
theorem bel_alloc {W0 X : World} (h : Below W0.heap.size W0 X) (o : Obj) : Below W0.heap.size W0 (X.alloc o) := h.alloc h.size o
theorem bel_drew {W0 X : World} (h : Below W0.heap.size W0 X) : Below W0.heap.size W0 X.drew := h.drew
theorem hp_new {X : World} {o : Obj} {b : Nat} (h : b = X.heap.size) : (X.alloc o).heap[b]? = some o := by rw [h]; exact World.alloc_heap_new X o
theorem hp_old {X : World} {o : Obj} {b : Nat} (h : X.heap[b]? = some o) (o' : Obj) : (X.alloc o').heap[b]? = some o := (((Below.refl _ X).alloc (Nat.le_refl _) o').block b (Array.getElem?_eq_some_iff.1 h).1).trans h
theorem gbk {X w' : World} {b c : Nat} {o : Obj} (hg : X.grownBy w' (some c)) (h : X.heap[b]? = some o) (hne : b ≠ c) : w'.heap[b]? = some o := (hg.block b (Array.getElem?_eq_some_iff.1 h).1 (by simp; exact hne)).trans h
theorem hp_drew {X : World} {o : Obj} {b : Nat} (h : X.heap[b]? = some o) : X.drew.heap[b]? = some o := h
theorem owns_drew {X : World} {base : Nat} {e : TypeId} {size : Nat} {v : Value} {k : Nat} {xs : List Value} (h : X.ownsRow base e size v k xs) : X.drew.ownsRow base e size v k xs := h
theorem cp_below {W0 X w' : World} {b : Nat} (h : Below W0.heap.size W0 X) (hg : X.grownBy w' (some b)) (hb : W0.heap.size ≤ b) : Below W0.heap.size W0 w' :=
  h.trans ⟨hg.os, hg.tape, hg.output, hg.size, fun j hj => hg.block j (by have := h.size; omega) (by simp; omega)⟩
/-- A row of another type is not touched. -/
theorem kr {X w' : World} {base b : Nat} {e e' : TypeId} {size : Nat} {v : Value} {k : Nat} {xs : List Value} (h : X.ownsRow base e size v k xs) (hb : X.heap[b]? = some (.cells #[] e')) (hne : e ≠ e') (hg : X.grownBy w' (some b)) : w'.ownsRow base e size v k xs := by
  refine h.kept hg ?_
  rcases h.2 with ⟨e1, _⟩ | ⟨g, cap, cur, e1, _, h2, _⟩
  · exact .inl (by rw [e1]; rfl)
  · refine .inr ?_
    rw [e1]
    intro e2
    simp only [Value.ownBlock, Option.some.injEq] at e2
    rw [e2, hb] at h2
    simp only [Option.some.injEq, Obj.cells.injEq] at h2
    exact hne h2.2.1.symm
theorem cp_set2 {W : World} {base c : Nat} {e : TypeId} {size : Nat} {v x y : Value} {k : Nat} {xs : List Value} (h : W.ownsRow base e size v k xs) (hc : c < base) : ((W.setCell ⟨c, 0, none⟩ x).setCell ⟨c, 1, none⟩ y).ownsRow base e size v k xs := by
  refine h.kept (row := some c) ⟨rfl, rfl, rfl, by simp, fun j hj hne => (setNe y (fun e => hne (by rw [e]))).trans (setNe x (fun e => hne (by rw [e])))⟩ ?_
  rcases h.2 with ⟨e1, _⟩ | ⟨g, cap, cur, e1, h1, _⟩
  · exact .inl (by rw [e1]; rfl)
  · refine .inr ?_
    rw [e1]
    simp [Value.ownBlock]
    omega
set_option maxRecDepth 20000 in
set_option maxHeartbeats 16000000 in
theorem l10Copy_any (p : Bk) (us ul : Value) (w : World) (h : RBk w us ul p) (hP : BdBk 1048576 p) : Calls Tryz.prog 55 #[.agg #[us, ul]] w fun e w' => ∃ us' ul', e = .returned (.agg #[us', ul']) ∧ w'.ownsRow (w.heap.size + 2) 145 2 us' p.stocks.length (clSts p.stocks) ∧ w'.ownsRow (w.heap.size + 2) 151 8 ul' p.lines.length (clOls p.lines) ∧ Below w.heap.size w w' := by
  obtain ⟨a, c, a', c', rfl, rfl⟩ := h.val
  have hl0' := hP.1.len
  have hl1' := hP.2.len
  have hl0 : p.stocks.length ≤ 2000000 := by omega
  have hl1 : p.lines.length ≤ 2000000 := by omega
  obtain ⟨W0, hW0⟩ : ∃ W0, (w.alloc (.cells #[.slice a p.stocks.length c, .slice a' p.lines.length c'] 38)).alloc (.cells #[.slice none 0 0, .slice none 0 0] 38) = W0 := ⟨_, rfl⟩
  have hb0 : Below w.heap.size w W0 := by rw [← hW0]; exact ((Below.refl _ _).alloc (Nat.le_refl _) _).alloc (by simp) _
  obtain ⟨x0, x1⟩ := fl_two w (.cells #[.slice a p.stocks.length c, .slice a' p.lines.length c'] 38) (.cells #[.slice none 0 0, .slice none 0 0] 38)
  rw [hW0] at x0 x1
  have hs0 : W0.heap.size = w.heap.size + 2 := by rw [← hW0]; simp
  have H0 : Hid (Below w.heap.size w W0 ∧ RBk W0 (.slice a p.stocks.length c) (.slice a' p.lines.length c') p ∧ W0.heap[w.heap.size]? = some (.cells #[.slice a p.stocks.length c, .slice a' p.lines.length c'] 38) ∧ W0.heap[w.heap.size + 1]? = some (.cells #[.slice none 0 0, .slice none 0 0] 38) ∧ W0.heap.size = w.heap.size + 2) := ⟨hb0, h.below hb0, x0, x1, hs0⟩
  obtain ⟨c0, c1⟩ := box2 x0
  have hlt0 := (Array.getElem?_eq_some_iff.1 x0).1
  have hlt1 := (Array.getElem?_eq_some_iff.1 x1).1
  have HR : Hid (∀ W, Below W0.heap.size W0 W → RBk W (.slice a p.stocks.length c) (.slice a' p.lines.length c') p) := fun W hW => H0.out.2.1.below hW
  have e0 := cell_al c0
  have e1 := cell_al c1
  have e2 := fun o o' => cell_al (cell_al c0 o) o'
  have e3 := fun o o' => cell_al (cell_al c1 o) o'
  clear h hb0 x0 x1 hP hs0 hl0' hl1'
  go_enter Tryz.func55, Tryz.ntmps55
  go_upto_region 1 with fail
  try rw [hW0]
  clear hW0
  go_region_held3 (fun W => W.cell? ⟨w.heap.size, 0, none⟩ = some (.slice a p.stocks.length c) ∧ W.cell? ⟨w.heap.size, 1, none⟩ = some (.slice a' p.lines.length c')) (go_keep) (first | (have _g := ho5; refine step_cpyOl (base := W0.heap.size) (ms := p.lines) (by rfl) _ _ (by rfl) (by rfl) (by rfl) (by with_reducible repeat (first | exact hp_new rfl | exact hp_new (World.size_alloc _ _).symm | refine gbk hg5 ?_ (Nat.succ_ne_self _) | refine gbk hg5 ?_ (Nat.succ_ne_self _).symm | refine hp_old ?_ _ | refine hp_drew ?_)) (HR.out _ (by with_reducible repeat (first | exact hb5 | exact hb9 | exact Below.refl _ _ | refine bel_alloc ?_ _ | refine bel_drew ?_))).ln hl1 (by with_reducible first | exact Nat.le_refl _ | exact Nat.le_succ _ | exact hb5.size | exact hb9.size | fail) ?_; intro A9 C9 w9 ho9 hg9; have hb9 : Below W0.heap.size W0 w9 := cp_below (by with_reducible repeat (first | exact hb5 | exact hb9 | exact Below.refl _ _ | refine bel_alloc ?_ _ | refine bel_drew ?_)) hg9 (by with_reducible first | exact Nat.le_refl _ | exact Nat.le_succ _ | exact hb5.size | exact hb9.size | fail); have ho59 : w9.ownsRow W0.heap.size 145 2 (.slice A5 p.stocks.length C5) p.stocks.length (clSts p.stocks) := kr (by with_reducible repeat (first | exact ho5 | refine World.ownsRow.alloc ?_ _ | refine owns_drew ?_)) (by with_reducible repeat (first | exact hp_new rfl | exact hp_new (World.size_alloc _ _).symm | refine gbk hg5 ?_ (Nat.succ_ne_self _) | refine gbk hg5 ?_ (Nat.succ_ne_self _).symm | refine hp_old ?_ _ | refine hp_drew ?_)) (by decide) hg9; have HE : Hid (Below W0.heap.size W0 w9 ∧ w9.ownsRow W0.heap.size 145 2 (.slice A5 p.stocks.length C5) p.stocks.length (clSts p.stocks) ∧ w9.ownsRow W0.heap.size 151 8 (.slice A9 p.lines.length C9) p.lines.length (clOls p.lines)) := ⟨hb9, ho59, ho9⟩; have zr := (hb9.block _ hlt1).trans H0.out.2.2.2.1; obtain ⟨z0, z1⟩ := box2 zr; have zf := frz2 zr; clear zr; obtain ⟨t0, t1⟩ := box2 ((hb9.block _ hlt0).trans H0.out.2.2.1); clear hg9 ho59 _g; try dsimp only) | (refine step_cpySt (base := W0.heap.size) (ms := p.stocks) (by rfl) _ _ (by rfl) (by rfl) (by rfl) (by with_reducible repeat (first | exact hp_new rfl | exact hp_new (World.size_alloc _ _).symm | refine gbk hg5 ?_ (Nat.succ_ne_self _) | refine gbk hg5 ?_ (Nat.succ_ne_self _).symm | refine hp_old ?_ _ | refine hp_drew ?_)) (HR.out _ (by with_reducible repeat (first | exact hb5 | exact hb9 | exact Below.refl _ _ | refine bel_alloc ?_ _ | refine bel_drew ?_))).st hl0 (by with_reducible first | exact Nat.le_refl _ | exact Nat.le_succ _ | exact hb5.size | exact hb9.size | fail) ?_; intro A5 C5 w5 ho5 hg5; have hb5 : Below W0.heap.size W0 w5 := cp_below (by with_reducible repeat (first | exact hb5 | exact hb9 | exact Below.refl _ _ | refine bel_alloc ?_ _ | refine bel_drew ?_)) hg5 (by with_reducible first | exact Nat.le_refl _ | exact Nat.le_succ _ | exact hb5.size | exact hb9.size | fail); obtain ⟨v0, v1⟩ := box2 ((hb5.block _ hlt0).trans H0.out.2.2.1); have v2 := cell_al v0; have v3 := cell_al v1; try dsimp only) | fail)
  all_goals
    try go_wp2
    obtain ⟨k1, k2, k3⟩ := HE.out
    have s0 := H0.out.2.2.2.2
    refine bodyPost_ret (v := .agg #[.slice A5 p.stocks.length C5, .slice A9 p.lines.length C9]) (by simp [results, Tryz.results55, go_sem, z0, z1]) rfl ⟨_, _, rfl, ?_, ?_, ?_⟩
    · exact cp_set2 (s0 ▸ k2) (by omega)
    · exact cp_set2 (s0 ▸ k3) (by omega)
    · exact ((H0.out.1.trans (k1.mono (by omega))).setCell (show w.heap.size ≤ w.heap.size + 1 by omega) _).setCell (show w.heap.size ≤ w.heap.size + 1 by omega) _
end Go.Proofs.YtkgkahlhekecmaaGreat
namespace Go.Proofs.YtkgkahlhekecmaaGreat
open Go.ChangeShapes Go.WideShapes Go.ChangeAt Go.RowKit
theorem own0yCs {W : World} {B b : Nat} (hb : W.heap[b]? = some (.cells #[] 106)) (hB : B ≤ b) : W.ownsRow B 106 3 (.slice (some ⟨b, 0, none⟩) 0 0) 0 [] :=
  ⟨rfl, .inr ⟨b, 0, #[], rfl, hB, hb, Nat.le_refl _, Nat.zero_le _, rfl, rfl⟩⟩
theorem run_append_yCs (W : World) (b ty c : Nat) (a : Option Addr) : (Builtin.append_ #[34, 34] ty #[.slice (some ⟨b, 0, none⟩) 0 0, .slice a 0 c]).run Tryz.prog W = .ok (.slice (some ⟨b, 0, none⟩) 0 0) W := by
  obtain ⟨i0, hi, hz0, hz1, hz2⟩ := info_parts infoCsA
  cases a with
  | none => simp [Builtin.append_, run_underlying Tryz.underlying34, sizeOf, typeInfo, hi, Builtin.lenOf, Builtin.firstCells, storeCells]
  | some a => simp [Builtin.append_, run_underlying Tryz.underlying34, sizeOf, typeInfo, hi, Builtin.lenOf, Builtin.firstCells, storeCells, loadCells, loadCellsFrom]
theorem wp_cpyCs {o : Oper} {a : Act} {K : Act → World → Prop} {Q : Exit → Act → World → Prop} {W : World} {base b : Nat} {xv : Value} {ms : List Crs} (s x : Operand)
    (ho : o.op = .call { callee := .builtin .append, args := #[s, x], argTypes := #[34, 34] })
    (hs : a.eval s = .slice (some ⟨b, 0, none⟩) 0 0) (hx : a.eval x = xv) (hB : W.heap[b]? = some (.cells #[] 106)) (hr : RowCs W xv ms) (hl : ms.length ≤ 2000000) (hbase : base ≤ b)
    (k : ∀ A C w', w'.ownsRow base 106 3 (.slice A ms.length C) ms.length (clCss ms) → W.grownBy w' (some b) → K (a.put o.dst (.slice A ms.length C)) w') : o.wp Tryz.prog a W K Q := by
  have hown := own0yCs hB hbase
  have hlt := (Array.getElem?_eq_some_iff.1 hB).1
  obtain ⟨i0, hi, hz0, hz1, hz2⟩ := info_parts infoCsA
  obtain ⟨A, C, rfl⟩ := hr.val
  rcases Nat.eq_zero_or_pos ms.length with h0 | h0
  · obtain rfl : ms = [] := List.eq_nil_of_length_eq_zero h0
    have hrun := run_append_yCs W b o.type C A
    have hk := k (some ⟨b, 0, none⟩) 0 W (by simpa [clCss] using hown) ⟨rfl, rfl, rfl, Nat.le_refl _, fun _ _ _ => rfl⟩
    unfold Oper.wp
    simp only [List.length_nil] at hx hk
    simp [execOp, ho, resolve, invoke, builtin, hs, hx, hrun, Result.andThen]
    exact hk
  · obtain ⟨A', C', e, hc⟩ := hr.shape
    simp only [Value.slice.injEq, true_and] at e
    obtain ⟨rfl, rfl⟩ := e
    obtain ⟨b', o', rfl, hcell⟩ := hc (by intro e2; rw [e2] at h0; simp at h0)
    refine wp_append_lies W s x 34 ho base 106 i0 (.agg #[.string ⟨#[]⟩, .string ⟨#[]⟩, .string ⟨#[]⟩]) 3 48 Tryz.underlying34 hi hz0 hz1 hz2 rfl (by decide) _ 0 [] hs hown ⟨b', o', none⟩ ms.length C (clCss ms) hx (clCss_len ms) (fun j u hu => ?_) (fun u hu => ?_) h0 (by unfold maxLen; omega) (by omega) (by omega) _ rfl ?_
    · obtain ⟨i, g, hg', ho'⟩ := clCss_get hu
      obtain ⟨q0, q1, q2⟩ := hcell i g hg'
      rw [fl_addr]
      rcases ho' with ⟨rfl, rfl⟩ | ⟨rfl, rfl⟩ | ⟨rfl, rfl⟩
      · first | exact q0 | (rw [← q0]; congr 2; omega)
      · first | exact q1 | (rw [← q1]; congr 2; omega)
      · first | exact q2 | (rw [← q2]; congr 2; omega)
    · obtain ⟨j, hj⟩ := List.getElem?_of_mem hu
      obtain ⟨i, g, _, ho'⟩ := clCss_get hj
      rcases ho' with ⟨_, rfl⟩ | ⟨_, rfl⟩ | ⟨_, rfl⟩ <;> rfl
    · intro gg cap w' hown' hgrow _ _
      have hown2 : w'.ownsRow base 106 3 (.slice (some ⟨gg, 0, none⟩) ms.length cap) ms.length (clCss ms) := by
        have := hown'
        rw [Nat.zero_add, List.nil_append] at this
        exact this
      have := k (some ⟨gg, 0, none⟩) cap w' hown2 hgrow
      rw [Nat.zero_add]
      exact this
theorem step_cpyCs {ops : Array Oper} {o : Oper} {a : Act} {K : Act → World → Prop} {Q : Exit → Act → World → Prop} {E : Prop} {W : World} {base b : Nat} {xv : Value} {ms : List Crs} (hw : Region.wanted o (yielded ops a.tmps) = true) (s x : Operand)
    (ho : o.op = .call { callee := .builtin .append, args := #[s, x], argTypes := #[34, 34] })
    (hs : a.eval s = .slice (some ⟨b, 0, none⟩) 0 0) (hx : a.eval x = xv) (hB : W.heap[b]? = some (.cells #[] 106)) (hr : RowCs W xv ms) (hl : ms.length ≤ 2000000) (hbase : base ≤ b)
    (k : ∀ A C w', w'.ownsRow base 106 3 (.slice A ms.length C) ms.length (clCss ms) → W.grownBy w' (some b) → K (a.put o.dst (.slice A ms.length C)) w') : if Region.wanted o (yielded ops a.tmps) = true then o.wp Tryz.prog a W K Q else E := by
  rw [if_pos hw]
  exact wp_cpyCs s x ho hs hx hB hr hl hbase k
theorem wpList_cpyCs {ops : Array Oper} {rest : List Oper} {o : Oper} {a : Act} {Q : Exit → Act → World → Prop} {W : World} {base b : Nat} {xv : Value} {ms : List Crs} (hw : Region.wanted o (yielded ops a.tmps) = true) (s x : Operand)
    (ho : o.op = .call { callee := .builtin .append, args := #[s, x], argTypes := #[34, 34] })
    (hs : a.eval s = .slice (some ⟨b, 0, none⟩) 0 0) (hx : a.eval x = xv) (hB : W.heap[b]? = some (.cells #[] 106)) (hr : RowCs W xv ms) (hl : ms.length ≤ 2000000) (hbase : base ≤ b)
    (k : ∀ A C w', w'.ownsRow base 106 3 (.slice A ms.length C) ms.length (clCss ms) → W.grownBy w' (some b) → wpList Tryz.prog ops Q rest (a.put o.dst (.slice A ms.length C)) w') : wpList Tryz.prog ops Q (o :: rest) a W :=
  BigFrame.wpList_want hw fun _ hK => wp_cpyCs s x ho hs hx hB hr hl hbase fun A C w' h1 h2 => hK _ _ (k A C w' h1 h2)
end Go.Proofs.YtkgkahlhekecmaaGreat
namespace Go.Proofs.YtkgkahlhekecmaaGreat
open Go.ChangeShapes Go.WideShapes Go.ChangeAt Go.RowKit
theorem own0yDf {W : World} {B b : Nat} (hb : W.heap[b]? = some (.cells #[] 110)) (hB : B ≤ b) : W.ownsRow B 110 6 (.slice (some ⟨b, 0, none⟩) 0 0) 0 [] :=
  ⟨rfl, .inr ⟨b, 0, #[], rfl, hB, hb, Nat.le_refl _, Nat.zero_le _, rfl, rfl⟩⟩
theorem run_append_yDf (W : World) (b ty c : Nat) (a : Option Addr) : (Builtin.append_ #[39, 39] ty #[.slice (some ⟨b, 0, none⟩) 0 0, .slice a 0 c]).run Tryz.prog W = .ok (.slice (some ⟨b, 0, none⟩) 0 0) W := by
  obtain ⟨i0, hi, hz0, hz1, hz2⟩ := info_parts infoDfA
  cases a with
  | none => simp [Builtin.append_, run_underlying Tryz.underlying39, sizeOf, typeInfo, hi, Builtin.lenOf, Builtin.firstCells, storeCells]
  | some a => simp [Builtin.append_, run_underlying Tryz.underlying39, sizeOf, typeInfo, hi, Builtin.lenOf, Builtin.firstCells, storeCells, loadCells, loadCellsFrom]
theorem wp_cpyDf {o : Oper} {a : Act} {K : Act → World → Prop} {Q : Exit → Act → World → Prop} {W : World} {base b : Nat} {xv : Value} {ms : List Dff} (s x : Operand)
    (ho : o.op = .call { callee := .builtin .append, args := #[s, x], argTypes := #[39, 39] })
    (hs : a.eval s = .slice (some ⟨b, 0, none⟩) 0 0) (hx : a.eval x = xv) (hB : W.heap[b]? = some (.cells #[] 110)) (hr : RowDf W xv ms) (hl : ms.length ≤ 2000000) (hbase : base ≤ b)
    (k : ∀ A C w', w'.ownsRow base 110 6 (.slice A ms.length C) ms.length (clDfs ms) → W.grownBy w' (some b) → K (a.put o.dst (.slice A ms.length C)) w') : o.wp Tryz.prog a W K Q := by
  have hown := own0yDf hB hbase
  have hlt := (Array.getElem?_eq_some_iff.1 hB).1
  obtain ⟨i0, hi, hz0, hz1, hz2⟩ := info_parts infoDfA
  obtain ⟨A, C, rfl⟩ := hr.val
  rcases Nat.eq_zero_or_pos ms.length with h0 | h0
  · obtain rfl : ms = [] := List.eq_nil_of_length_eq_zero h0
    have hrun := run_append_yDf W b o.type C A
    have hk := k (some ⟨b, 0, none⟩) 0 W (by simpa [clDfs] using hown) ⟨rfl, rfl, rfl, Nat.le_refl _, fun _ _ _ => rfl⟩
    unfold Oper.wp
    simp only [List.length_nil] at hx hk
    simp [execOp, ho, resolve, invoke, builtin, hs, hx, hrun, Result.andThen]
    exact hk
  · obtain ⟨A', C', e, hc⟩ := hr.shape
    simp only [Value.slice.injEq, true_and] at e
    obtain ⟨rfl, rfl⟩ := e
    obtain ⟨b', o', rfl, hcell⟩ := hc (by intro e2; rw [e2] at h0; simp at h0)
    refine wp_append_lies W s x 39 ho base 110 i0 (.agg #[.int .i64 0, .string ⟨#[]⟩, .string ⟨#[]⟩, .int .i64 0, .string ⟨#[]⟩, .int .i64 0]) 6 72 Tryz.underlying39 hi hz0 hz1 hz2 rfl (by decide) _ 0 [] hs hown ⟨b', o', none⟩ ms.length C (clDfs ms) hx (clDfs_len ms) (fun j u hu => ?_) (fun u hu => ?_) h0 (by unfold maxLen; omega) (by omega) (by omega) _ rfl ?_
    · obtain ⟨i, g, hg', ho'⟩ := clDfs_get hu
      obtain ⟨q0, q1, q2, q3, q4, q5⟩ := hcell i g hg'
      rw [fl_addr]
      rcases ho' with ⟨rfl, rfl⟩ | ⟨rfl, rfl⟩ | ⟨rfl, rfl⟩ | ⟨rfl, rfl⟩ | ⟨rfl, rfl⟩ | ⟨rfl, rfl⟩
      · first | exact q0 | (rw [← q0]; congr 2; omega)
      · first | exact q1 | (rw [← q1]; congr 2; omega)
      · first | exact q2 | (rw [← q2]; congr 2; omega)
      · first | exact q3 | (rw [← q3]; congr 2; omega)
      · first | exact q4 | (rw [← q4]; congr 2; omega)
      · first | exact q5 | (rw [← q5]; congr 2; omega)
    · obtain ⟨j, hj⟩ := List.getElem?_of_mem hu
      obtain ⟨i, g, _, ho'⟩ := clDfs_get hj
      rcases ho' with ⟨_, rfl⟩ | ⟨_, rfl⟩ | ⟨_, rfl⟩ | ⟨_, rfl⟩ | ⟨_, rfl⟩ | ⟨_, rfl⟩ <;> rfl
    · intro gg cap w' hown' hgrow _ _
      have hown2 : w'.ownsRow base 110 6 (.slice (some ⟨gg, 0, none⟩) ms.length cap) ms.length (clDfs ms) := by
        have := hown'
        rw [Nat.zero_add, List.nil_append] at this
        exact this
      have := k (some ⟨gg, 0, none⟩) cap w' hown2 hgrow
      rw [Nat.zero_add]
      exact this
theorem step_cpyDf {ops : Array Oper} {o : Oper} {a : Act} {K : Act → World → Prop} {Q : Exit → Act → World → Prop} {E : Prop} {W : World} {base b : Nat} {xv : Value} {ms : List Dff} (hw : Region.wanted o (yielded ops a.tmps) = true) (s x : Operand)
    (ho : o.op = .call { callee := .builtin .append, args := #[s, x], argTypes := #[39, 39] })
    (hs : a.eval s = .slice (some ⟨b, 0, none⟩) 0 0) (hx : a.eval x = xv) (hB : W.heap[b]? = some (.cells #[] 110)) (hr : RowDf W xv ms) (hl : ms.length ≤ 2000000) (hbase : base ≤ b)
    (k : ∀ A C w', w'.ownsRow base 110 6 (.slice A ms.length C) ms.length (clDfs ms) → W.grownBy w' (some b) → K (a.put o.dst (.slice A ms.length C)) w') : if Region.wanted o (yielded ops a.tmps) = true then o.wp Tryz.prog a W K Q else E := by
  rw [if_pos hw]
  exact wp_cpyDf s x ho hs hx hB hr hl hbase k
theorem wpList_cpyDf {ops : Array Oper} {rest : List Oper} {o : Oper} {a : Act} {Q : Exit → Act → World → Prop} {W : World} {base b : Nat} {xv : Value} {ms : List Dff} (hw : Region.wanted o (yielded ops a.tmps) = true) (s x : Operand)
    (ho : o.op = .call { callee := .builtin .append, args := #[s, x], argTypes := #[39, 39] })
    (hs : a.eval s = .slice (some ⟨b, 0, none⟩) 0 0) (hx : a.eval x = xv) (hB : W.heap[b]? = some (.cells #[] 110)) (hr : RowDf W xv ms) (hl : ms.length ≤ 2000000) (hbase : base ≤ b)
    (k : ∀ A C w', w'.ownsRow base 110 6 (.slice A ms.length C) ms.length (clDfs ms) → W.grownBy w' (some b) → wpList Tryz.prog ops Q rest (a.put o.dst (.slice A ms.length C)) w') : wpList Tryz.prog ops Q (o :: rest) a W :=
  BigFrame.wpList_want hw fun _ hK => wp_cpyDf s x ho hs hx hB hr hl hbase fun A C w' h1 h2 => hK _ _ (k A C w' h1 h2)
end Go.Proofs.YtkgkahlhekecmaaGreat
namespace Go.Proofs.YtkgkahlhekecmaaGreat
open Go.ChangeShapes Go.WideShapes Go.ChangeAt Go.RowKit
theorem own0yOu {W : World} {B b : Nat} (hb : W.heap[b]? = some (.cells #[] 112)) (hB : B ≤ b) : W.ownsRow B 112 5 (.slice (some ⟨b, 0, none⟩) 0 0) 0 [] :=
  ⟨rfl, .inr ⟨b, 0, #[], rfl, hB, hb, Nat.le_refl _, Nat.zero_le _, rfl, rfl⟩⟩
theorem run_append_yOu (W : World) (b ty c : Nat) (a : Option Addr) : (Builtin.append_ #[40, 40] ty #[.slice (some ⟨b, 0, none⟩) 0 0, .slice a 0 c]).run Tryz.prog W = .ok (.slice (some ⟨b, 0, none⟩) 0 0) W := by
  obtain ⟨i0, hi, hz0, hz1, hz2⟩ := info_parts infoOuA
  cases a with
  | none => simp [Builtin.append_, run_underlying Tryz.underlying40, sizeOf, typeInfo, hi, Builtin.lenOf, Builtin.firstCells, storeCells]
  | some a => simp [Builtin.append_, run_underlying Tryz.underlying40, sizeOf, typeInfo, hi, Builtin.lenOf, Builtin.firstCells, storeCells, loadCells, loadCellsFrom]
theorem wp_cpyOu {o : Oper} {a : Act} {K : Act → World → Prop} {Q : Exit → Act → World → Prop} {W : World} {base b : Nat} {xv : Value} {ms : List OutR} (s x : Operand)
    (ho : o.op = .call { callee := .builtin .append, args := #[s, x], argTypes := #[40, 40] })
    (hs : a.eval s = .slice (some ⟨b, 0, none⟩) 0 0) (hx : a.eval x = xv) (hB : W.heap[b]? = some (.cells #[] 112)) (hr : RowOu W xv ms) (hl : ms.length ≤ 2000000) (hbase : base ≤ b)
    (k : ∀ A C w', w'.ownsRow base 112 5 (.slice A ms.length C) ms.length (clOus ms) → W.grownBy w' (some b) → K (a.put o.dst (.slice A ms.length C)) w') : o.wp Tryz.prog a W K Q := by
  have hown := own0yOu hB hbase
  have hlt := (Array.getElem?_eq_some_iff.1 hB).1
  obtain ⟨i0, hi, hz0, hz1, hz2⟩ := info_parts infoOuA
  obtain ⟨A, C, rfl⟩ := hr.val
  rcases Nat.eq_zero_or_pos ms.length with h0 | h0
  · obtain rfl : ms = [] := List.eq_nil_of_length_eq_zero h0
    have hrun := run_append_yOu W b o.type C A
    have hk := k (some ⟨b, 0, none⟩) 0 W (by simpa [clOus] using hown) ⟨rfl, rfl, rfl, Nat.le_refl _, fun _ _ _ => rfl⟩
    unfold Oper.wp
    simp only [List.length_nil] at hx hk
    simp [execOp, ho, resolve, invoke, builtin, hs, hx, hrun, Result.andThen]
    exact hk
  · obtain ⟨A', C', e, hc⟩ := hr.shape
    simp only [Value.slice.injEq, true_and] at e
    obtain ⟨rfl, rfl⟩ := e
    obtain ⟨b', o', rfl, hcell⟩ := hc (by intro e2; rw [e2] at h0; simp at h0)
    refine wp_append_lies W s x 40 ho base 112 i0 (.agg #[.string ⟨#[]⟩, .int .i64 0, .string ⟨#[]⟩, .int .i64 0, .int .i64 0]) 5 56 Tryz.underlying40 hi hz0 hz1 hz2 rfl (by decide) _ 0 [] hs hown ⟨b', o', none⟩ ms.length C (clOus ms) hx (clOus_len ms) (fun j u hu => ?_) (fun u hu => ?_) h0 (by unfold maxLen; omega) (by omega) (by omega) _ rfl ?_
    · obtain ⟨i, g, hg', ho'⟩ := clOus_get hu
      obtain ⟨q0, q1, q2, q3, q4⟩ := hcell i g hg'
      rw [fl_addr]
      rcases ho' with ⟨rfl, rfl⟩ | ⟨rfl, rfl⟩ | ⟨rfl, rfl⟩ | ⟨rfl, rfl⟩ | ⟨rfl, rfl⟩
      · first | exact q0 | (rw [← q0]; congr 2; omega)
      · first | exact q1 | (rw [← q1]; congr 2; omega)
      · first | exact q2 | (rw [← q2]; congr 2; omega)
      · first | exact q3 | (rw [← q3]; congr 2; omega)
      · first | exact q4 | (rw [← q4]; congr 2; omega)
    · obtain ⟨j, hj⟩ := List.getElem?_of_mem hu
      obtain ⟨i, g, _, ho'⟩ := clOus_get hj
      rcases ho' with ⟨_, rfl⟩ | ⟨_, rfl⟩ | ⟨_, rfl⟩ | ⟨_, rfl⟩ | ⟨_, rfl⟩ <;> rfl
    · intro gg cap w' hown' hgrow _ _
      have hown2 : w'.ownsRow base 112 5 (.slice (some ⟨gg, 0, none⟩) ms.length cap) ms.length (clOus ms) := by
        have := hown'
        rw [Nat.zero_add, List.nil_append] at this
        exact this
      have := k (some ⟨gg, 0, none⟩) cap w' hown2 hgrow
      rw [Nat.zero_add]
      exact this
theorem step_cpyOu {ops : Array Oper} {o : Oper} {a : Act} {K : Act → World → Prop} {Q : Exit → Act → World → Prop} {E : Prop} {W : World} {base b : Nat} {xv : Value} {ms : List OutR} (hw : Region.wanted o (yielded ops a.tmps) = true) (s x : Operand)
    (ho : o.op = .call { callee := .builtin .append, args := #[s, x], argTypes := #[40, 40] })
    (hs : a.eval s = .slice (some ⟨b, 0, none⟩) 0 0) (hx : a.eval x = xv) (hB : W.heap[b]? = some (.cells #[] 112)) (hr : RowOu W xv ms) (hl : ms.length ≤ 2000000) (hbase : base ≤ b)
    (k : ∀ A C w', w'.ownsRow base 112 5 (.slice A ms.length C) ms.length (clOus ms) → W.grownBy w' (some b) → K (a.put o.dst (.slice A ms.length C)) w') : if Region.wanted o (yielded ops a.tmps) = true then o.wp Tryz.prog a W K Q else E := by
  rw [if_pos hw]
  exact wp_cpyOu s x ho hs hx hB hr hl hbase k
theorem wpList_cpyOu {ops : Array Oper} {rest : List Oper} {o : Oper} {a : Act} {Q : Exit → Act → World → Prop} {W : World} {base b : Nat} {xv : Value} {ms : List OutR} (hw : Region.wanted o (yielded ops a.tmps) = true) (s x : Operand)
    (ho : o.op = .call { callee := .builtin .append, args := #[s, x], argTypes := #[40, 40] })
    (hs : a.eval s = .slice (some ⟨b, 0, none⟩) 0 0) (hx : a.eval x = xv) (hB : W.heap[b]? = some (.cells #[] 112)) (hr : RowOu W xv ms) (hl : ms.length ≤ 2000000) (hbase : base ≤ b)
    (k : ∀ A C w', w'.ownsRow base 112 5 (.slice A ms.length C) ms.length (clOus ms) → W.grownBy w' (some b) → wpList Tryz.prog ops Q rest (a.put o.dst (.slice A ms.length C)) w') : wpList Tryz.prog ops Q (o :: rest) a W :=
  BigFrame.wpList_want hw fun _ hK => wp_cpyOu s x ho hs hx hB hr hl hbase fun A C w' h1 h2 => hK _ _ (k A C w' h1 h2)
end Go.Proofs.YtkgkahlhekecmaaGreat
