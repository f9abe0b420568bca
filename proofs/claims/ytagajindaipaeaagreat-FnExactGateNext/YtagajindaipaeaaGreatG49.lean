/- Texts of ours put together: CopyP, AppYSt. -/
import Derived.Test.YtagajindaipaeaaGreatG48
import Derived.Test.YtagajindaipaeaaGreatG18
import Derived.Test.YtagajindaipaeaaGreatG24
import Derived.Deep.AppendLies
import Derived.BigFrame
namespace Go.Proofs.YtagajindaipaeaaGreat
open Go.ChangeShapes Go.WideShapes Go.ChangeAt Go.RowKit
set_option maxHeartbeats 4000000 in
theorem l07Copy_g (p : Ptn) (v : Value) (w : World) (h : RPt w v p) (hlen : p.seen.length ≤ 1048576) : Calls Tryz.prog 33 #[.agg #[.string p.name, .int .i64 p.low, .int .i64 p.next, v]] w fun e w' => ∃ A C, e = .returned (.agg #[.string p.name, .int .i64 p.low, .int .i64 p.next, .slice A p.seen.length C]) ∧ w'.ownsRow w.heap.size 170 3 (.slice A p.seen.length C) p.seen.length (clSns p.seen) ∧ Below w.heap.size w w' := by
  obtain ⟨A, C, rfl⟩ := h.ls.val
  obtain ⟨W0, hW0⟩ : ∃ W0, (((w.alloc (.cells #[.string p.name, .int .i64 p.low, .int .i64 p.next, .slice A p.seen.length C] 70)).alloc (.cells #[.string ⟨#[]⟩, .int .i64 0, .int .i64 0, .slice none 0 0] 70)).alloc (.cells #[] 170)) = W0 := ⟨_, rfl⟩
  have hb0 : Below w.heap.size w W0 := by rw [← hW0]; exact (((Below.refl _ _).alloc (Nat.le_refl _) _).alloc (by simp) _).alloc (by simp; omega) _
  have hs0 : W0.heap.size = w.heap.size + 3 := by rw [← hW0]; simp
  have h3 := fl_three w (.cells #[.string p.name, .int .i64 p.low, .int .i64 p.next, .slice A p.seen.length C] 70) (.cells #[.string ⟨#[]⟩, .int .i64 0, .int .i64 0, .slice none 0 0] 70) (.cells #[] 170)
  rw [hW0] at h3
  obtain ⟨b1, b2, b3⟩ := h3
  have hown : W0.heap[w.heap.size + 1 + 1]? = some (.cells #[] 170) := b3
  have c3 : W0.cell? ⟨w.heap.size, 3, none⟩ = some (.slice A p.seen.length C) := by simp [World.cell?, b1]
  have hrow : RowSn W0 (.slice A p.seen.length C) p.seen := h.ls.below hb0
  have HB : Hid (Below w.heap.size w W0 ∧ W0.heap[w.heap.size]? = some (.cells #[.string p.name, .int .i64 p.low, .int .i64 p.next, .slice A p.seen.length C] 70) ∧ W0.heap[w.heap.size + 1]? = some (.cells #[.string ⟨#[]⟩, .int .i64 0, .int .i64 0, .slice none 0 0] 70)) := ⟨hb0, b1, b2⟩
  clear h hb0 b1 b2 b3
  have hz0 : ∀ (w4 : World) (g : Option Nat), W0.grownBy w4 g → (∀ j, g = some j → w.heap.size + 2 ≤ j) → w4.heap[w.heap.size]? = some (.cells #[.string p.name, .int .i64 p.low, .int .i64 p.next, .slice A p.seen.length C] 70) ∧ w4.heap[w.heap.size + 1]? = some (.cells #[.string ⟨#[]⟩, .int .i64 0, .int .i64 0, .slice none 0 0] 70) ∧ Below w.heap.size w w4 := fun w4 g hg hj => by
    have hne : ∀ k, k < w.heap.size + 2 → some k ≠ g := fun k hk e => by have := hj k e.symm; omega
    exact ⟨(hg.block _ (by omega) (hne _ (by omega))).trans HB.out.2.1, (hg.block _ (by omega) (hne _ (by omega))).trans HB.out.2.2, HB.out.1.trans ⟨hg.os, hg.tape, hg.output, hg.size, fun k hk => hg.block k (by omega) (hne k (by omega))⟩⟩
  have HZ : Hid (∀ (w4 : World) (g : Option Nat), W0.grownBy w4 g → (∀ j, g = some j → w.heap.size + 2 ≤ j) → w4.heap[w.heap.size]? = some (.cells #[.string p.name, .int .i64 p.low, .int .i64 p.next, .slice A p.seen.length C] 70) ∧ w4.heap[w.heap.size + 1]? = some (.cells #[.string ⟨#[]⟩, .int .i64 0, .int .i64 0, .slice none 0 0] 70) ∧ Below w.heap.size w w4) := hz0
  clear hz0
  subst hW0
  go_enter Tryz.func33, Tryz.ntmps33
  go_wp2_with (first | (at_builtin; refine wpList_cpySn (base := w.heap.size + 2) (by rfl) _ _ rfl rfl rfl hown hrow (by omega) (Nat.le_refl _) ?_; intro A4 C4 w4 hown4 hgrow4; obtain ⟨b1, b2, bb⟩ := HZ.out w4 _ hgrow4 (fun j hj => by cases hj; exact Nat.le_refl _); have x0 : w4.cell? ⟨w.heap.size, 0, none⟩ = some (.string p.name) := (by simp [World.cell?, b1]); have x1 : w4.cell? ⟨w.heap.size, 1, none⟩ = some (.int .i64 p.low) := (by simp [World.cell?, b1]); have x2 : w4.cell? ⟨w.heap.size, 2, none⟩ = some (.int .i64 p.next) := (by simp [World.cell?, b1]); have x3 : w4.cell? ⟨w.heap.size, 3, none⟩ = some (.slice A p.seen.length C) := (by simp [World.cell?, b1]); have xf : ∀ o, w4.frozen? ⟨w.heap.size, o, none⟩ = false := (fun o => by simp [World.frozen?, b1]); have y0 : w4.cell? ⟨w.heap.size + 1, 0, none⟩ = some (.string ⟨#[]⟩) := (by simp [World.cell?, b2]); have y1 : w4.cell? ⟨w.heap.size + 1, 1, none⟩ = some (.int .i64 0) := (by simp [World.cell?, b2]); have y2 : w4.cell? ⟨w.heap.size + 1, 2, none⟩ = some (.int .i64 0) := (by simp [World.cell?, b2]); have y3 : w4.cell? ⟨w.heap.size + 1, 3, none⟩ = some (.slice none 0 0) := (by simp [World.cell?, b2]); have yf : ∀ o, w4.frozen? ⟨w.heap.size + 1, o, none⟩ = false := (fun o => by simp [World.frozen?, b2]); have H4 : Hid (w4.ownsRow (w.heap.size + 2) 170 3 (.slice A4 p.seen.length C4) p.seen.length (clSns p.seen) ∧ Below w.heap.size w w4) := ⟨hown4, bb⟩; clear hown4 hgrow4 b1 b2 bb))
  have h4 := H4.out.1
  have h5 : OSn (w.heap.size + 2) w4 (.slice A4 p.seen.length C4) p.seen := h4
  have n1 : ∀ j, (Value.slice A4 p.seen.length C4).ownBlock = some j → j ≠ w.heap.size + 1 := fun j hj => by have := (h5.lt j hj).1; omega
  have n0 : ∀ j, (Value.slice A4 p.seen.length C4).ownBlock = some j → j ≠ w.heap.size := fun j hj => by have := (h5.lt j hj).1; omega
  refine bodyPost_ret (v := .agg #[.string p.name, .int .i64 p.low, .int .i64 p.next, .slice A4 p.seen.length C4]) (by simp [results, Tryz.results33, go_sem, y0, y1, y2, y3]) rfl ⟨_, _, rfl, ?_, ?_⟩
  · exact ownsRow_down (((((h5.set n0 _ _).set n1 _ _).set n1 _ _).set n1 _ _).set n1 _ _) (by omega)
  · exact ((((H4.out.2.setCell (Nat.le_refl _) _).setCell (show w.heap.size ≤ w.heap.size + 1 by omega) _).setCell (show w.heap.size ≤ w.heap.size + 1 by omega) _).setCell (show w.heap.size ≤ w.heap.size + 1 by omega) _).setCell (show w.heap.size ≤ w.heap.size + 1 by omega) _
end Go.Proofs.YtagajindaipaeaaGreat
namespace Go.Proofs.YtagajindaipaeaaGreat
open Go.ChangeShapes Go.WideShapes Go.ChangeAt Go.RowKit
theorem own0ySt {W : World} {B b : Nat} (hb : W.heap[b]? = some (.cells #[] 167)) (hB : B ≤ b) : W.ownsRow B 167 2 (.slice (some ⟨b, 0, none⟩) 0 0) 0 [] :=
  ⟨rfl, .inr ⟨b, 0, #[], rfl, hB, hb, Nat.le_refl _, Nat.zero_le _, rfl, rfl⟩⟩
theorem run_append_ySt (W : World) (b ty c : Nat) (a : Option Addr) : (Builtin.append_ #[35, 35] ty #[.slice (some ⟨b, 0, none⟩) 0 0, .slice a 0 c]).run Tryz.prog W = .ok (.slice (some ⟨b, 0, none⟩) 0 0) W := by
  obtain ⟨i0, hi, hz0, hz1, hz2⟩ := info_parts infoStA
  cases a with
  | none => simp [Builtin.append_, run_underlying Tryz.underlying35, sizeOf, typeInfo, hi, Builtin.lenOf, Builtin.firstCells, storeCells]
  | some a => simp [Builtin.append_, run_underlying Tryz.underlying35, sizeOf, typeInfo, hi, Builtin.lenOf, Builtin.firstCells, storeCells, loadCells, loadCellsFrom]
theorem wp_cpySt {o : Oper} {a : Act} {K : Act → World → Prop} {Q : Exit → Act → World → Prop} {W : World} {base b : Nat} {xv : Value} {ms : List Stk} (s x : Operand)
    (ho : o.op = .call { callee := .builtin .append, args := #[s, x], argTypes := #[35, 35] })
    (hs : a.eval s = .slice (some ⟨b, 0, none⟩) 0 0) (hx : a.eval x = xv) (hB : W.heap[b]? = some (.cells #[] 167)) (hr : RowSt W xv ms) (hl : ms.length ≤ 2000000) (hbase : base ≤ b)
    (k : ∀ A C w', w'.ownsRow base 167 2 (.slice A ms.length C) ms.length (clSts ms) → W.grownBy w' (some b) → K (a.put o.dst (.slice A ms.length C)) w') : o.wp Tryz.prog a W K Q := by
  have hown := own0ySt hB hbase
  have hlt := (Array.getElem?_eq_some_iff.1 hB).1
  obtain ⟨i0, hi, hz0, hz1, hz2⟩ := info_parts infoStA
  obtain ⟨A, C, rfl⟩ := hr.val
  rcases Nat.eq_zero_or_pos ms.length with h0 | h0
  · obtain rfl : ms = [] := List.eq_nil_of_length_eq_zero h0
    have hrun := run_append_ySt W b o.type C A
    have hk := k (some ⟨b, 0, none⟩) 0 W (by simpa [clSts] using hown) ⟨rfl, rfl, rfl, Nat.le_refl _, fun _ _ _ => rfl⟩
    unfold Oper.wp
    simp only [List.length_nil] at hx hk
    simp [execOp, ho, resolve, invoke, builtin, hs, hx, hrun, Result.andThen]
    exact hk
  · obtain ⟨A', C', e, hc⟩ := hr.shape
    simp only [Value.slice.injEq, true_and] at e
    obtain ⟨rfl, rfl⟩ := e
    obtain ⟨b', o', rfl, hcell⟩ := hc (by intro e2; rw [e2] at h0; simp at h0)
    refine wp_append_lies W s x 35 ho base 167 i0 (.agg #[.string ⟨#[]⟩, .int .i64 0]) 2 24 Tryz.underlying35 hi hz0 hz1 hz2 rfl (by decide) _ 0 [] hs hown ⟨b', o', none⟩ ms.length C (clSts ms) hx (clSts_len ms) (fun j u hu => ?_) (fun u hu => ?_) h0 (by unfold maxLen; omega) (by omega) (by omega) _ rfl ?_
    · obtain ⟨i, g, hg', ho'⟩ := clSts_get hu
      obtain ⟨q0, q1⟩ := hcell i g hg'
      rw [fl_addr]
      rcases ho' with ⟨rfl, rfl⟩ | ⟨rfl, rfl⟩
      · first | exact q0 | (rw [← q0]; congr 2; omega)
      · first | exact q1 | (rw [← q1]; congr 2; omega)
    · obtain ⟨j, hj⟩ := List.getElem?_of_mem hu
      obtain ⟨i, g, _, ho'⟩ := clSts_get hj
      rcases ho' with ⟨_, rfl⟩ | ⟨_, rfl⟩ <;> rfl
    · intro gg cap w' hown' hgrow _ _
      have hown2 : w'.ownsRow base 167 2 (.slice (some ⟨gg, 0, none⟩) ms.length cap) ms.length (clSts ms) := by
        have := hown'
        rw [Nat.zero_add, List.nil_append] at this
        exact this
      have := k (some ⟨gg, 0, none⟩) cap w' hown2 hgrow
      rw [Nat.zero_add]
      exact this
theorem step_cpySt {ops : Array Oper} {o : Oper} {a : Act} {K : Act → World → Prop} {Q : Exit → Act → World → Prop} {E : Prop} {W : World} {base b : Nat} {xv : Value} {ms : List Stk} (hw : Region.wanted o (yielded ops a.tmps) = true) (s x : Operand)
    (ho : o.op = .call { callee := .builtin .append, args := #[s, x], argTypes := #[35, 35] })
    (hs : a.eval s = .slice (some ⟨b, 0, none⟩) 0 0) (hx : a.eval x = xv) (hB : W.heap[b]? = some (.cells #[] 167)) (hr : RowSt W xv ms) (hl : ms.length ≤ 2000000) (hbase : base ≤ b)
    (k : ∀ A C w', w'.ownsRow base 167 2 (.slice A ms.length C) ms.length (clSts ms) → W.grownBy w' (some b) → K (a.put o.dst (.slice A ms.length C)) w') : if Region.wanted o (yielded ops a.tmps) = true then o.wp Tryz.prog a W K Q else E := by
  rw [if_pos hw]
  exact wp_cpySt s x ho hs hx hB hr hl hbase k
theorem wpList_cpySt {ops : Array Oper} {rest : List Oper} {o : Oper} {a : Act} {Q : Exit → Act → World → Prop} {W : World} {base b : Nat} {xv : Value} {ms : List Stk} (hw : Region.wanted o (yielded ops a.tmps) = true) (s x : Operand)
    (ho : o.op = .call { callee := .builtin .append, args := #[s, x], argTypes := #[35, 35] })
    (hs : a.eval s = .slice (some ⟨b, 0, none⟩) 0 0) (hx : a.eval x = xv) (hB : W.heap[b]? = some (.cells #[] 167)) (hr : RowSt W xv ms) (hl : ms.length ≤ 2000000) (hbase : base ≤ b)
    (k : ∀ A C w', w'.ownsRow base 167 2 (.slice A ms.length C) ms.length (clSts ms) → W.grownBy w' (some b) → wpList Tryz.prog ops Q rest (a.put o.dst (.slice A ms.length C)) w') : wpList Tryz.prog ops Q (o :: rest) a W :=
  BigFrame.wpList_want hw fun _ hK => wp_cpySt s x ho hs hx hB hr hl hbase fun A C w' h1 h2 => hK _ _ (k A C w' h1 h2)
end Go.Proofs.YtagajindaipaeaaGreat
