/- Texts of ours put together: OSn, AppYSn, CopyP, AppYSt, AppYOl. -/
import Derived.Test.YtkgkahlhekecmaaGreatG16
import Derived.Deep.AppendLies
import Derived.BigFrame
import Derived.Test.YtkgkahlhekecmaaGreatG21
namespace Go.Proofs.YtkgkahlhekecmaaGreat
open Go.ChangeShapes Go.WideShapes Go.ChangeAt Go.RowKit
def OSn (n0 : Nat) (W : World) (v : Value) (rs : List Sn) : Prop := W.ownsRow n0 148 3 v rs.length (clSns rs)
theorem OSn.lt {n0 : Nat} {W : World} {v : Value} {rs : List Sn} (h : OSn n0 W v rs) (j : Nat) (hj : v.ownBlock = some j) : n0 ≤ j ∧ j < W.heap.size := World.ownsRow.lt h j hj
theorem OSn.kept {n0 : Nat} {W W' : World} {v : Value} {rs : List Sn} (h : OSn n0 W v rs) {O : Nat} (hg : W.grownBy W' (some O)) (hne : ∀ j, v.ownBlock = some j → j ≠ O) : OSn n0 W' v rs :=
  World.ownsRow.kept h hg (by
    cases hv : v.ownBlock with
    | none => exact .inl rfl
    | some j => exact .inr (fun e => hne j hv (Option.some.inj e)))
theorem OSn.set {n0 : Nat} {W : World} {v : Value} {rs : List Sn} (h : OSn n0 W v rs) {O : Nat} (hne : ∀ j, v.ownBlock = some j → j ≠ O) (i : Nat) (x : Value) : OSn n0 (W.setCell ⟨O, i, none⟩ x) v rs :=
  h.kept (O := O) ⟨rfl, rfl, rfl, by simp [World.setCell], fun k _ hk => Below.heap_setCell _ _ _ _ (fun e => hk (by rw [show k = O from e]))⟩ hne
theorem OSn.below {n0 : Nat} {W W' : World} {v : Value} {rs : List Sn} (h : OSn n0 W v rs) (hb : Below W.heap.size W W') : OSn n0 W' v rs :=
  h.kept (O := W.heap.size) ⟨hb.os, hb.tape, hb.output, hb.size, fun k hk _ => hb.block k hk⟩ (fun j hj => by have := (h.lt j hj).2; omega)
theorem OSn.nil (n0 : Nat) (W : World) : OSn n0 W (.slice none 0 0) [] := ⟨rfl, .inl ⟨rfl, rfl⟩⟩
theorem OSn.val {n0 : Nat} {W : World} {v : Value} {rs : List Sn} (h : OSn n0 W v rs) : ∃ A C, v = .slice A rs.length C := by
  rcases h.2 with ⟨rfl, h0⟩ | ⟨b, cap, cur, rfl, _⟩
  · exact ⟨none, 0, by rw [h0]⟩
  · exact ⟨_, _, rfl⟩
theorem OSn.lsn {n0 : Nat} {W : World} {v : Value} {rs : List Sn} (h : OSn n0 W v rs) (hl : rs.length ≤ 9223372036854775807) : ∃ b, n0 ≤ b ∧ LSn b W v rs := LSn.of_owns h hl
theorem set3_osn {n0 : Nat} {W : World} {O : Nat} {u : Value} {l : List Sn} (h : OSn n0 W u l) (hne : ∀ j, u.ownBlock = some j → j ≠ O) (x0 x1 x2 : Value) : OSn n0 (((W.setCell ⟨O, 5, none⟩ x0).setCell ⟨O, 6, none⟩ x1).setCell ⟨O, 7, none⟩ x2) u l :=
  ((h.set hne _ _).set hne _ _).set hne _ _
theorem set312_osn {n0 : Nat} {W : World} {O : Nat} {u : Value} {l : List Sn} (h : OSn n0 W u l) (hne : ∀ j, u.ownBlock = some j → j ≠ O) (x0 x1 x2 : Value) : OSn n0 (((W.setCell ⟨O, 3, none⟩ x0).setCell ⟨O, 1, none⟩ x1).setCell ⟨O, 2, none⟩ x2) u l :=
  ((h.set hne _ _).set hne _ _).set hne _ _
theorem set9_osn {n0 : Nat} {W : World} {O : Nat} {u : Value} {l : List Sn} (h : OSn n0 W u l) (hne : ∀ j, u.ownBlock = some j → j ≠ O) (x0 x1 x2 x3 x4 x5 x6 x7 x8 : Value) : OSn n0 (((((((((W.setCell ⟨O, 0, none⟩ x0).setCell ⟨O, 1, none⟩ x1).setCell ⟨O, 2, none⟩ x2).setCell ⟨O, 3, none⟩ x3).setCell ⟨O, 4, none⟩ x4).setCell ⟨O, 5, none⟩ x5).setCell ⟨O, 6, none⟩ x6).setCell ⟨O, 7, none⟩ x7).setCell ⟨O, 8, none⟩ x8) u l :=
  ((((((((h.set hne _ _).set hne _ _).set hne _ _).set hne _ _).set hne _ _).set hne _ _).set hne _ _).set hne _ _).set hne _ _
end Go.Proofs.YtkgkahlhekecmaaGreat
namespace Go.Proofs.YtkgkahlhekecmaaGreat
open Go.ChangeShapes Go.WideShapes Go.ChangeAt Go.RowKit
theorem own0ySn {W : World} {B b : Nat} (hb : W.heap[b]? = some (.cells #[] 148)) (hB : B ≤ b) : W.ownsRow B 148 3 (.slice (some ⟨b, 0, none⟩) 0 0) 0 [] :=
  ⟨rfl, .inr ⟨b, 0, #[], rfl, hB, hb, Nat.le_refl _, Nat.zero_le _, rfl, rfl⟩⟩
theorem run_append_ySn (W : World) (b ty c : Nat) (a : Option Addr) : (Builtin.append_ #[61, 61] ty #[.slice (some ⟨b, 0, none⟩) 0 0, .slice a 0 c]).run Tryz.prog W = .ok (.slice (some ⟨b, 0, none⟩) 0 0) W := by
  obtain ⟨i0, hi, hz0, hz1, hz2⟩ := info_parts infoSnA
  cases a with
  | none => simp [Builtin.append_, run_underlying Tryz.underlying61, sizeOf, typeInfo, hi, Builtin.lenOf, Builtin.firstCells, storeCells]
  | some a => simp [Builtin.append_, run_underlying Tryz.underlying61, sizeOf, typeInfo, hi, Builtin.lenOf, Builtin.firstCells, storeCells, loadCells, loadCellsFrom]
theorem wp_cpySn {o : Oper} {a : Act} {K : Act → World → Prop} {Q : Exit → Act → World → Prop} {W : World} {base b : Nat} {xv : Value} {ms : List Sn} (s x : Operand)
    (ho : o.op = .call { callee := .builtin .append, args := #[s, x], argTypes := #[61, 61] })
    (hs : a.eval s = .slice (some ⟨b, 0, none⟩) 0 0) (hx : a.eval x = xv) (hB : W.heap[b]? = some (.cells #[] 148)) (hr : RowSn W xv ms) (hl : ms.length ≤ 2000000) (hbase : base ≤ b)
    (k : ∀ A C w', w'.ownsRow base 148 3 (.slice A ms.length C) ms.length (clSns ms) → W.grownBy w' (some b) → K (a.put o.dst (.slice A ms.length C)) w') : o.wp Tryz.prog a W K Q := by
  have hown := own0ySn hB hbase
  have hlt := (Array.getElem?_eq_some_iff.1 hB).1
  obtain ⟨i0, hi, hz0, hz1, hz2⟩ := info_parts infoSnA
  obtain ⟨A, C, rfl⟩ := hr.val
  rcases Nat.eq_zero_or_pos ms.length with h0 | h0
  · obtain rfl : ms = [] := List.eq_nil_of_length_eq_zero h0
    have hrun := run_append_ySn W b o.type C A
    have hk := k (some ⟨b, 0, none⟩) 0 W (by simpa [clSns] using hown) ⟨rfl, rfl, rfl, Nat.le_refl _, fun _ _ _ => rfl⟩
    unfold Oper.wp
    simp only [List.length_nil] at hx hk
    simp [execOp, ho, resolve, invoke, builtin, hs, hx, hrun, Result.andThen]
    exact hk
  · obtain ⟨A', C', e, hc⟩ := hr.shape
    simp only [Value.slice.injEq, true_and] at e
    obtain ⟨rfl, rfl⟩ := e
    obtain ⟨b', o', rfl, hcell⟩ := hc (by intro e2; rw [e2] at h0; simp at h0)
    refine wp_append_lies W s x 61 ho base 148 i0 (.agg #[.int .i64 0, .int .i64 0, .int .i64 0]) 3 24 Tryz.underlying61 hi hz0 hz1 hz2 rfl (by decide) _ 0 [] hs hown ⟨b', o', none⟩ ms.length C (clSns ms) hx (clSns_len ms) (fun j u hu => ?_) (fun u hu => ?_) h0 (by unfold maxLen; omega) (by omega) (by omega) _ rfl ?_
    · obtain ⟨i, g, hg', ho'⟩ := clSns_get hu
      obtain ⟨q0, q1, q2⟩ := hcell i g hg'
      rw [fl_addr]
      rcases ho' with ⟨rfl, rfl⟩ | ⟨rfl, rfl⟩ | ⟨rfl, rfl⟩
      · first | exact q0 | (rw [← q0]; congr 2; omega)
      · first | exact q1 | (rw [← q1]; congr 2; omega)
      · first | exact q2 | (rw [← q2]; congr 2; omega)
    · obtain ⟨j, hj⟩ := List.getElem?_of_mem hu
      obtain ⟨i, g, _, ho'⟩ := clSns_get hj
      rcases ho' with ⟨_, rfl⟩ | ⟨_, rfl⟩ | ⟨_, rfl⟩ <;> rfl
    · intro gg cap w' hown' hgrow _ _
      have hown2 : w'.ownsRow base 148 3 (.slice (some ⟨gg, 0, none⟩) ms.length cap) ms.length (clSns ms) := by
        have := hown'
        rw [Nat.zero_add, List.nil_append] at this
        exact this
      have := k (some ⟨gg, 0, none⟩) cap w' hown2 hgrow
      rw [Nat.zero_add]
      exact this
theorem step_cpySn {ops : Array Oper} {o : Oper} {a : Act} {K : Act → World → Prop} {Q : Exit → Act → World → Prop} {E : Prop} {W : World} {base b : Nat} {xv : Value} {ms : List Sn} (hw : Region.wanted o (yielded ops a.tmps) = true) (s x : Operand)
    (ho : o.op = .call { callee := .builtin .append, args := #[s, x], argTypes := #[61, 61] })
    (hs : a.eval s = .slice (some ⟨b, 0, none⟩) 0 0) (hx : a.eval x = xv) (hB : W.heap[b]? = some (.cells #[] 148)) (hr : RowSn W xv ms) (hl : ms.length ≤ 2000000) (hbase : base ≤ b)
    (k : ∀ A C w', w'.ownsRow base 148 3 (.slice A ms.length C) ms.length (clSns ms) → W.grownBy w' (some b) → K (a.put o.dst (.slice A ms.length C)) w') : if Region.wanted o (yielded ops a.tmps) = true then o.wp Tryz.prog a W K Q else E := by
  rw [if_pos hw]
  exact wp_cpySn s x ho hs hx hB hr hl hbase k
theorem wpList_cpySn {ops : Array Oper} {rest : List Oper} {o : Oper} {a : Act} {Q : Exit → Act → World → Prop} {W : World} {base b : Nat} {xv : Value} {ms : List Sn} (hw : Region.wanted o (yielded ops a.tmps) = true) (s x : Operand)
    (ho : o.op = .call { callee := .builtin .append, args := #[s, x], argTypes := #[61, 61] })
    (hs : a.eval s = .slice (some ⟨b, 0, none⟩) 0 0) (hx : a.eval x = xv) (hB : W.heap[b]? = some (.cells #[] 148)) (hr : RowSn W xv ms) (hl : ms.length ≤ 2000000) (hbase : base ≤ b)
    (k : ∀ A C w', w'.ownsRow base 148 3 (.slice A ms.length C) ms.length (clSns ms) → W.grownBy w' (some b) → wpList Tryz.prog ops Q rest (a.put o.dst (.slice A ms.length C)) w') : wpList Tryz.prog ops Q (o :: rest) a W :=
  BigFrame.wpList_want hw fun _ hK => wp_cpySn s x ho hs hx hB hr hl hbase fun A C w' h1 h2 => hK _ _ (k A C w' h1 h2)
end Go.Proofs.YtkgkahlhekecmaaGreat
namespace Go.Proofs.YtkgkahlhekecmaaGreat
open Go.ChangeShapes Go.WideShapes Go.ChangeAt Go.RowKit
set_option maxHeartbeats 4000000 in
theorem l07Copy_g (p : Ptn) (v : Value) (w : World) (h : RPt w v p) (hlen : p.seen.length ≤ 1048576) : Calls Tryz.prog 23 #[.agg #[.string p.name, .int .i64 p.low, .int .i64 p.next, v]] w fun e w' => ∃ A C, e = .returned (.agg #[.string p.name, .int .i64 p.low, .int .i64 p.next, .slice A p.seen.length C]) ∧ w'.ownsRow w.heap.size 148 3 (.slice A p.seen.length C) p.seen.length (clSns p.seen) ∧ Below w.heap.size w w' := by
  obtain ⟨A, C, rfl⟩ := h.ls.val
  obtain ⟨W0, hW0⟩ : ∃ W0, (((w.alloc (.cells #[.string p.name, .int .i64 p.low, .int .i64 p.next, .slice A p.seen.length C] 63)).alloc (.cells #[.string ⟨#[]⟩, .int .i64 0, .int .i64 0, .slice none 0 0] 63)).alloc (.cells #[] 148)) = W0 := ⟨_, rfl⟩
  have hb0 : Below w.heap.size w W0 := by rw [← hW0]; exact (((Below.refl _ _).alloc (Nat.le_refl _) _).alloc (by simp) _).alloc (by simp; omega) _
  have hs0 : W0.heap.size = w.heap.size + 3 := by rw [← hW0]; simp
  have h3 := fl_three w (.cells #[.string p.name, .int .i64 p.low, .int .i64 p.next, .slice A p.seen.length C] 63) (.cells #[.string ⟨#[]⟩, .int .i64 0, .int .i64 0, .slice none 0 0] 63) (.cells #[] 148)
  rw [hW0] at h3
  obtain ⟨b1, b2, b3⟩ := h3
  have hown : W0.heap[w.heap.size + 1 + 1]? = some (.cells #[] 148) := b3
  have c3 : W0.cell? ⟨w.heap.size, 3, none⟩ = some (.slice A p.seen.length C) := by simp [World.cell?, b1]
  have hrow : RowSn W0 (.slice A p.seen.length C) p.seen := h.ls.below hb0
  have HB : Hid (Below w.heap.size w W0 ∧ W0.heap[w.heap.size]? = some (.cells #[.string p.name, .int .i64 p.low, .int .i64 p.next, .slice A p.seen.length C] 63) ∧ W0.heap[w.heap.size + 1]? = some (.cells #[.string ⟨#[]⟩, .int .i64 0, .int .i64 0, .slice none 0 0] 63)) := ⟨hb0, b1, b2⟩
  clear h hb0 b1 b2 b3
  have hz0 : ∀ (w4 : World) (g : Option Nat), W0.grownBy w4 g → (∀ j, g = some j → w.heap.size + 2 ≤ j) → w4.heap[w.heap.size]? = some (.cells #[.string p.name, .int .i64 p.low, .int .i64 p.next, .slice A p.seen.length C] 63) ∧ w4.heap[w.heap.size + 1]? = some (.cells #[.string ⟨#[]⟩, .int .i64 0, .int .i64 0, .slice none 0 0] 63) ∧ Below w.heap.size w w4 := fun w4 g hg hj => by
    have hne : ∀ k, k < w.heap.size + 2 → some k ≠ g := fun k hk e => by have := hj k e.symm; omega
    exact ⟨(hg.block _ (by omega) (hne _ (by omega))).trans HB.out.2.1, (hg.block _ (by omega) (hne _ (by omega))).trans HB.out.2.2, HB.out.1.trans ⟨hg.os, hg.tape, hg.output, hg.size, fun k hk => hg.block k (by omega) (hne k (by omega))⟩⟩
  have HZ : Hid (∀ (w4 : World) (g : Option Nat), W0.grownBy w4 g → (∀ j, g = some j → w.heap.size + 2 ≤ j) → w4.heap[w.heap.size]? = some (.cells #[.string p.name, .int .i64 p.low, .int .i64 p.next, .slice A p.seen.length C] 63) ∧ w4.heap[w.heap.size + 1]? = some (.cells #[.string ⟨#[]⟩, .int .i64 0, .int .i64 0, .slice none 0 0] 63) ∧ Below w.heap.size w w4) := hz0
  clear hz0
  subst hW0
  go_enter Tryz.func23, Tryz.ntmps23
  go_wp2_with (first | (at_builtin; refine wpList_cpySn (base := w.heap.size + 2) (by rfl) _ _ rfl rfl rfl hown hrow (by omega) (Nat.le_refl _) ?_; intro A4 C4 w4 hown4 hgrow4; obtain ⟨b1, b2, bb⟩ := HZ.out w4 _ hgrow4 (fun j hj => by cases hj; exact Nat.le_refl _); have x0 : w4.cell? ⟨w.heap.size, 0, none⟩ = some (.string p.name) := (by simp [World.cell?, b1]); have x1 : w4.cell? ⟨w.heap.size, 1, none⟩ = some (.int .i64 p.low) := (by simp [World.cell?, b1]); have x2 : w4.cell? ⟨w.heap.size, 2, none⟩ = some (.int .i64 p.next) := (by simp [World.cell?, b1]); have x3 : w4.cell? ⟨w.heap.size, 3, none⟩ = some (.slice A p.seen.length C) := (by simp [World.cell?, b1]); have xf : ∀ o, w4.frozen? ⟨w.heap.size, o, none⟩ = false := (fun o => by simp [World.frozen?, b1]); have y0 : w4.cell? ⟨w.heap.size + 1, 0, none⟩ = some (.string ⟨#[]⟩) := (by simp [World.cell?, b2]); have y1 : w4.cell? ⟨w.heap.size + 1, 1, none⟩ = some (.int .i64 0) := (by simp [World.cell?, b2]); have y2 : w4.cell? ⟨w.heap.size + 1, 2, none⟩ = some (.int .i64 0) := (by simp [World.cell?, b2]); have y3 : w4.cell? ⟨w.heap.size + 1, 3, none⟩ = some (.slice none 0 0) := (by simp [World.cell?, b2]); have yf : ∀ o, w4.frozen? ⟨w.heap.size + 1, o, none⟩ = false := (fun o => by simp [World.frozen?, b2]); have H4 : Hid (w4.ownsRow (w.heap.size + 2) 148 3 (.slice A4 p.seen.length C4) p.seen.length (clSns p.seen) ∧ Below w.heap.size w w4) := ⟨hown4, bb⟩; clear hown4 hgrow4 b1 b2 bb))
  have h4 := H4.out.1
  have h5 : OSn (w.heap.size + 2) w4 (.slice A4 p.seen.length C4) p.seen := h4
  have n1 : ∀ j, (Value.slice A4 p.seen.length C4).ownBlock = some j → j ≠ w.heap.size + 1 := fun j hj => by have := (h5.lt j hj).1; omega
  have n0 : ∀ j, (Value.slice A4 p.seen.length C4).ownBlock = some j → j ≠ w.heap.size := fun j hj => by have := (h5.lt j hj).1; omega
  refine bodyPost_ret (v := .agg #[.string p.name, .int .i64 p.low, .int .i64 p.next, .slice A4 p.seen.length C4]) (by simp [results, Tryz.results23, go_sem, y0, y1, y2, y3]) rfl ⟨_, _, rfl, ?_, ?_⟩
  · exact ownsRow_down (((((h5.set n0 _ _).set n1 _ _).set n1 _ _).set n1 _ _).set n1 _ _) (by omega)
  · exact ((((H4.out.2.setCell (Nat.le_refl _) _).setCell (show w.heap.size ≤ w.heap.size + 1 by omega) _).setCell (show w.heap.size ≤ w.heap.size + 1 by omega) _).setCell (show w.heap.size ≤ w.heap.size + 1 by omega) _).setCell (show w.heap.size ≤ w.heap.size + 1 by omega) _
end Go.Proofs.YtkgkahlhekecmaaGreat
namespace Go.Proofs.YtkgkahlhekecmaaGreat
open Go.ChangeShapes Go.WideShapes Go.ChangeAt Go.RowKit
theorem own0ySt {W : World} {B b : Nat} (hb : W.heap[b]? = some (.cells #[] 145)) (hB : B ≤ b) : W.ownsRow B 145 2 (.slice (some ⟨b, 0, none⟩) 0 0) 0 [] :=
  ⟨rfl, .inr ⟨b, 0, #[], rfl, hB, hb, Nat.le_refl _, Nat.zero_le _, rfl, rfl⟩⟩
theorem run_append_ySt (W : World) (b ty c : Nat) (a : Option Addr) : (Builtin.append_ #[35, 35] ty #[.slice (some ⟨b, 0, none⟩) 0 0, .slice a 0 c]).run Tryz.prog W = .ok (.slice (some ⟨b, 0, none⟩) 0 0) W := by
  obtain ⟨i0, hi, hz0, hz1, hz2⟩ := info_parts infoStA
  cases a with
  | none => simp [Builtin.append_, run_underlying Tryz.underlying35, sizeOf, typeInfo, hi, Builtin.lenOf, Builtin.firstCells, storeCells]
  | some a => simp [Builtin.append_, run_underlying Tryz.underlying35, sizeOf, typeInfo, hi, Builtin.lenOf, Builtin.firstCells, storeCells, loadCells, loadCellsFrom]
theorem wp_cpySt {o : Oper} {a : Act} {K : Act → World → Prop} {Q : Exit → Act → World → Prop} {W : World} {base b : Nat} {xv : Value} {ms : List Stk} (s x : Operand)
    (ho : o.op = .call { callee := .builtin .append, args := #[s, x], argTypes := #[35, 35] })
    (hs : a.eval s = .slice (some ⟨b, 0, none⟩) 0 0) (hx : a.eval x = xv) (hB : W.heap[b]? = some (.cells #[] 145)) (hr : RowSt W xv ms) (hl : ms.length ≤ 2000000) (hbase : base ≤ b)
    (k : ∀ A C w', w'.ownsRow base 145 2 (.slice A ms.length C) ms.length (clSts ms) → W.grownBy w' (some b) → K (a.put o.dst (.slice A ms.length C)) w') : o.wp Tryz.prog a W K Q := by
  have hown := own0ySt hB hbase
  have hlt := (Array.getElem?_eq_some_iff.1 hB).1
  obtain ⟨i0, hi, hz0, hz1, hz2⟩ := info_parts infoStA
  obtain ⟨A, C, rfl⟩ := hr.val
  rcases Nat.eq_zero_or_pos ms.length with h0 | h0
  · obtain rfl : ms = [] := List.eq_nil_of_length_eq_zero h0
    have hrun := run_append_ySt W b o.type C A
    have hk := k (some ⟨b, 0, none⟩) 0 W (by simpa [clSts] using hown) ⟨rfl, rfl, rfl, Nat.le_refl _, fun _ _ _ => rfl⟩
    unfold Oper.wp
    simp only [List.length_nil] at hx hk
    simp [execOp, ho, resolve, invoke, builtin, hs, hx, hrun, Result.andThen]
    exact hk
  · obtain ⟨A', C', e, hc⟩ := hr.shape
    simp only [Value.slice.injEq, true_and] at e
    obtain ⟨rfl, rfl⟩ := e
    obtain ⟨b', o', rfl, hcell⟩ := hc (by intro e2; rw [e2] at h0; simp at h0)
    refine wp_append_lies W s x 35 ho base 145 i0 (.agg #[.string ⟨#[]⟩, .int .i64 0]) 2 24 Tryz.underlying35 hi hz0 hz1 hz2 rfl (by decide) _ 0 [] hs hown ⟨b', o', none⟩ ms.length C (clSts ms) hx (clSts_len ms) (fun j u hu => ?_) (fun u hu => ?_) h0 (by unfold maxLen; omega) (by omega) (by omega) _ rfl ?_
    · obtain ⟨i, g, hg', ho'⟩ := clSts_get hu
      obtain ⟨q0, q1⟩ := hcell i g hg'
      rw [fl_addr]
      rcases ho' with ⟨rfl, rfl⟩ | ⟨rfl, rfl⟩
      · first | exact q0 | (rw [← q0]; congr 2; omega)
      · first | exact q1 | (rw [← q1]; congr 2; omega)
    · obtain ⟨j, hj⟩ := List.getElem?_of_mem hu
      obtain ⟨i, g, _, ho'⟩ := clSts_get hj
      rcases ho' with ⟨_, rfl⟩ | ⟨_, rfl⟩ <;> rfl
    · intro gg cap w' hown' hgrow _ _
      have hown2 : w'.ownsRow base 145 2 (.slice (some ⟨gg, 0, none⟩) ms.length cap) ms.length (clSts ms) := by
        have := hown'
        rw [Nat.zero_add, List.nil_append] at this
        exact this
      have := k (some ⟨gg, 0, none⟩) cap w' hown2 hgrow
      rw [Nat.zero_add]
      exact this
theorem step_cpySt {ops : Array Oper} {o : Oper} {a : Act} {K : Act → World → Prop} {Q : Exit → Act → World → Prop} {E : Prop} {W : World} {base b : Nat} {xv : Value} {ms : List Stk} (hw : Region.wanted o (yielded ops a.tmps) = true) (s x : Operand)
    (ho : o.op = .call { callee := .builtin .append, args := #[s, x], argTypes := #[35, 35] })
    (hs : a.eval s = .slice (some ⟨b, 0, none⟩) 0 0) (hx : a.eval x = xv) (hB : W.heap[b]? = some (.cells #[] 145)) (hr : RowSt W xv ms) (hl : ms.length ≤ 2000000) (hbase : base ≤ b)
    (k : ∀ A C w', w'.ownsRow base 145 2 (.slice A ms.length C) ms.length (clSts ms) → W.grownBy w' (some b) → K (a.put o.dst (.slice A ms.length C)) w') : if Region.wanted o (yielded ops a.tmps) = true then o.wp Tryz.prog a W K Q else E := by
  rw [if_pos hw]
  exact wp_cpySt s x ho hs hx hB hr hl hbase k
theorem wpList_cpySt {ops : Array Oper} {rest : List Oper} {o : Oper} {a : Act} {Q : Exit → Act → World → Prop} {W : World} {base b : Nat} {xv : Value} {ms : List Stk} (hw : Region.wanted o (yielded ops a.tmps) = true) (s x : Operand)
    (ho : o.op = .call { callee := .builtin .append, args := #[s, x], argTypes := #[35, 35] })
    (hs : a.eval s = .slice (some ⟨b, 0, none⟩) 0 0) (hx : a.eval x = xv) (hB : W.heap[b]? = some (.cells #[] 145)) (hr : RowSt W xv ms) (hl : ms.length ≤ 2000000) (hbase : base ≤ b)
    (k : ∀ A C w', w'.ownsRow base 145 2 (.slice A ms.length C) ms.length (clSts ms) → W.grownBy w' (some b) → wpList Tryz.prog ops Q rest (a.put o.dst (.slice A ms.length C)) w') : wpList Tryz.prog ops Q (o :: rest) a W :=
  BigFrame.wpList_want hw fun _ hK => wp_cpySt s x ho hs hx hB hr hl hbase fun A C w' h1 h2 => hK _ _ (k A C w' h1 h2)
end Go.Proofs.YtkgkahlhekecmaaGreat
namespace Go.Proofs.YtkgkahlhekecmaaGreat
open Go.ChangeShapes Go.WideShapes Go.ChangeAt Go.RowKit
theorem own0yOl {W : World} {B b : Nat} (hb : W.heap[b]? = some (.cells #[] 151)) (hB : B ≤ b) : W.ownsRow B 151 8 (.slice (some ⟨b, 0, none⟩) 0 0) 0 [] :=
  ⟨rfl, .inr ⟨b, 0, #[], rfl, hB, hb, Nat.le_refl _, Nat.zero_le _, rfl, rfl⟩⟩
theorem run_append_yOl (W : World) (b ty c : Nat) (a : Option Addr) : (Builtin.append_ #[36, 36] ty #[.slice (some ⟨b, 0, none⟩) 0 0, .slice a 0 c]).run Tryz.prog W = .ok (.slice (some ⟨b, 0, none⟩) 0 0) W := by
  obtain ⟨i0, hi, hz0, hz1, hz2⟩ := info_parts infoOlA
  cases a with
  | none => simp [Builtin.append_, run_underlying Tryz.underlying36, sizeOf, typeInfo, hi, Builtin.lenOf, Builtin.firstCells, storeCells]
  | some a => simp [Builtin.append_, run_underlying Tryz.underlying36, sizeOf, typeInfo, hi, Builtin.lenOf, Builtin.firstCells, storeCells, loadCells, loadCellsFrom]
theorem wp_cpyOl {o : Oper} {a : Act} {K : Act → World → Prop} {Q : Exit → Act → World → Prop} {W : World} {base b : Nat} {xv : Value} {ms : List OLn} (s x : Operand)
    (ho : o.op = .call { callee := .builtin .append, args := #[s, x], argTypes := #[36, 36] })
    (hs : a.eval s = .slice (some ⟨b, 0, none⟩) 0 0) (hx : a.eval x = xv) (hB : W.heap[b]? = some (.cells #[] 151)) (hr : RowOl W xv ms) (hl : ms.length ≤ 2000000) (hbase : base ≤ b)
    (k : ∀ A C w', w'.ownsRow base 151 8 (.slice A ms.length C) ms.length (clOls ms) → W.grownBy w' (some b) → K (a.put o.dst (.slice A ms.length C)) w') : o.wp Tryz.prog a W K Q := by
  have hown := own0yOl hB hbase
  have hlt := (Array.getElem?_eq_some_iff.1 hB).1
  obtain ⟨i0, hi, hz0, hz1, hz2⟩ := info_parts infoOlA
  obtain ⟨A, C, rfl⟩ := hr.val
  rcases Nat.eq_zero_or_pos ms.length with h0 | h0
  · obtain rfl : ms = [] := List.eq_nil_of_length_eq_zero h0
    have hrun := run_append_yOl W b o.type C A
    have hk := k (some ⟨b, 0, none⟩) 0 W (by simpa [clOls] using hown) ⟨rfl, rfl, rfl, Nat.le_refl _, fun _ _ _ => rfl⟩
    unfold Oper.wp
    simp only [List.length_nil] at hx hk
    simp [execOp, ho, resolve, invoke, builtin, hs, hx, hrun, Result.andThen]
    exact hk
  · obtain ⟨A', C', e, hc⟩ := hr.shape
    simp only [Value.slice.injEq, true_and] at e
    obtain ⟨rfl, rfl⟩ := e
    obtain ⟨b', o', rfl, hcell⟩ := hc (by intro e2; rw [e2] at h0; simp at h0)
    refine wp_append_lies W s x 36 ho base 151 i0 (.agg #[.string ⟨#[]⟩, .string ⟨#[]⟩, .int .i64 0, .string ⟨#[]⟩, .int .i64 0, .int .i64 0, .int .i64 0, .int .i64 0]) 8 88 Tryz.underlying36 hi hz0 hz1 hz2 rfl (by decide) _ 0 [] hs hown ⟨b', o', none⟩ ms.length C (clOls ms) hx (clOls_len ms) (fun j u hu => ?_) (fun u hu => ?_) h0 (by unfold maxLen; omega) (by omega) (by omega) _ rfl ?_
    · obtain ⟨i, g, hg', ho'⟩ := clOls_get hu
      obtain ⟨q0, q1, q2, q3, q4, q5, q6, q7⟩ := hcell i g hg'
      rw [fl_addr]
      rcases ho' with ⟨rfl, rfl⟩ | ⟨rfl, rfl⟩ | ⟨rfl, rfl⟩ | ⟨rfl, rfl⟩ | ⟨rfl, rfl⟩ | ⟨rfl, rfl⟩ | ⟨rfl, rfl⟩ | ⟨rfl, rfl⟩
      · first | exact q0 | (rw [← q0]; congr 2; omega)
      · first | exact q1 | (rw [← q1]; congr 2; omega)
      · first | exact q2 | (rw [← q2]; congr 2; omega)
      · first | exact q3 | (rw [← q3]; congr 2; omega)
      · first | exact q4 | (rw [← q4]; congr 2; omega)
      · first | exact q5 | (rw [← q5]; congr 2; omega)
      · first | exact q6 | (rw [← q6]; congr 2; omega)
      · first | exact q7 | (rw [← q7]; congr 2; omega)
    · obtain ⟨j, hj⟩ := List.getElem?_of_mem hu
      obtain ⟨i, g, _, ho'⟩ := clOls_get hj
      rcases ho' with ⟨_, rfl⟩ | ⟨_, rfl⟩ | ⟨_, rfl⟩ | ⟨_, rfl⟩ | ⟨_, rfl⟩ | ⟨_, rfl⟩ | ⟨_, rfl⟩ | ⟨_, rfl⟩ <;> rfl
    · intro gg cap w' hown' hgrow _ _
      have hown2 : w'.ownsRow base 151 8 (.slice (some ⟨gg, 0, none⟩) ms.length cap) ms.length (clOls ms) := by
        have := hown'
        rw [Nat.zero_add, List.nil_append] at this
        exact this
      have := k (some ⟨gg, 0, none⟩) cap w' hown2 hgrow
      rw [Nat.zero_add]
      exact this
theorem step_cpyOl {ops : Array Oper} {o : Oper} {a : Act} {K : Act → World → Prop} {Q : Exit → Act → World → Prop} {E : Prop} {W : World} {base b : Nat} {xv : Value} {ms : List OLn} (hw : Region.wanted o (yielded ops a.tmps) = true) (s x : Operand)
    (ho : o.op = .call { callee := .builtin .append, args := #[s, x], argTypes := #[36, 36] })
    (hs : a.eval s = .slice (some ⟨b, 0, none⟩) 0 0) (hx : a.eval x = xv) (hB : W.heap[b]? = some (.cells #[] 151)) (hr : RowOl W xv ms) (hl : ms.length ≤ 2000000) (hbase : base ≤ b)
    (k : ∀ A C w', w'.ownsRow base 151 8 (.slice A ms.length C) ms.length (clOls ms) → W.grownBy w' (some b) → K (a.put o.dst (.slice A ms.length C)) w') : if Region.wanted o (yielded ops a.tmps) = true then o.wp Tryz.prog a W K Q else E := by
  rw [if_pos hw]
  exact wp_cpyOl s x ho hs hx hB hr hl hbase k
theorem wpList_cpyOl {ops : Array Oper} {rest : List Oper} {o : Oper} {a : Act} {Q : Exit → Act → World → Prop} {W : World} {base b : Nat} {xv : Value} {ms : List OLn} (hw : Region.wanted o (yielded ops a.tmps) = true) (s x : Operand)
    (ho : o.op = .call { callee := .builtin .append, args := #[s, x], argTypes := #[36, 36] })
    (hs : a.eval s = .slice (some ⟨b, 0, none⟩) 0 0) (hx : a.eval x = xv) (hB : W.heap[b]? = some (.cells #[] 151)) (hr : RowOl W xv ms) (hl : ms.length ≤ 2000000) (hbase : base ≤ b)
    (k : ∀ A C w', w'.ownsRow base 151 8 (.slice A ms.length C) ms.length (clOls ms) → W.grownBy w' (some b) → wpList Tryz.prog ops Q rest (a.put o.dst (.slice A ms.length C)) w') : wpList Tryz.prog ops Q (o :: rest) a W :=
  BigFrame.wpList_want hw fun _ hK => wp_cpyOl s x ho hs hx hB hr hl hbase fun A C w' h1 h2 => hK _ _ (k A C w' h1 h2)
end Go.Proofs.YtkgkahlhekecmaaGreat
