/- Texts of ours put together: OSn, AppYSn. -/
import Derived.Test.YtagajindaipaeaaGreatG17
import Derived.Deep.AppendLies
import Derived.BigFrame
namespace Go.Proofs.YtagajindaipaeaaGreat
open Go.ChangeShapes Go.WideShapes Go.ChangeAt Go.RowKit
def OSn (n0 : Nat) (W : World) (v : Value) (rs : List Sn) : Prop := W.ownsRow n0 170 3 v rs.length (clSns rs)
theorem OSn.lt {n0 : Nat} {W : World} {v : Value} {rs : List Sn} (h : OSn n0 W v rs) (j : Nat) (hj : v.ownBlock = some j) : n0 ≤ j ∧ j < W.heap.size := World.ownsRow.lt h j hj
theorem OSn.kept {n0 : Nat} {W W' : World} {v : Value} {rs : List Sn} (h : OSn n0 W v rs) {O : Nat} (hg : W.grownBy W' (some O)) (hne : ∀ j, v.ownBlock = some j → j ≠ O) : OSn n0 W' v rs :=
  World.ownsRow.kept h hg (by
    cases hv : v.ownBlock with
    | none => exact .inl rfl
    | some j => exact .inr (fun e => hne j hv (Option.some.inj e)))
theorem OSn.set {n0 : Nat} {W : World} {v : Value} {rs : List Sn} (h : OSn n0 W v rs) {O : Nat} (hne : ∀ j, v.ownBlock = some j → j ≠ O) (i : Nat) (x : Value) : OSn n0 (W.setCell ⟨O, i, none⟩ x) v rs :=
  h.kept (O := O) ⟨rfl, rfl, rfl, by simp [World.setCell], fun k _ hk => Below.heap_setCell _ _ _ _ (fun e => hk (by rw [show k = O from e]))⟩ hne
theorem OSn.below {n0 : Nat} {W W' : World} {v : Value} {rs : List Sn} (h : OSn n0 W v rs) (hb : Below W.heap.size W W') : OSn n0 W' v rs :=
  h.kept (O := W.heap.size) ⟨hb.os, hb.tape, hb.output, hb.size, fun k hk _ => hb.block k hk⟩ (fun j hj => by have := (h.lt j hj).2; omega)
theorem OSn.nil (n0 : Nat) (W : World) : OSn n0 W (.slice none 0 0) [] := ⟨rfl, .inl ⟨rfl, rfl⟩⟩
theorem OSn.val {n0 : Nat} {W : World} {v : Value} {rs : List Sn} (h : OSn n0 W v rs) : ∃ A C, v = .slice A rs.length C := by
  rcases h.2 with ⟨rfl, h0⟩ | ⟨b, cap, cur, rfl, _⟩
  · exact ⟨none, 0, by rw [h0]⟩
  · exact ⟨_, _, rfl⟩
theorem OSn.lsn {n0 : Nat} {W : World} {v : Value} {rs : List Sn} (h : OSn n0 W v rs) (hl : rs.length ≤ 9223372036854775807) : ∃ b, n0 ≤ b ∧ LSn b W v rs := LSn.of_owns h hl
theorem set3_osn {n0 : Nat} {W : World} {O : Nat} {u : Value} {l : List Sn} (h : OSn n0 W u l) (hne : ∀ j, u.ownBlock = some j → j ≠ O) (x0 x1 x2 : Value) : OSn n0 (((W.setCell ⟨O, 5, none⟩ x0).setCell ⟨O, 6, none⟩ x1).setCell ⟨O, 7, none⟩ x2) u l :=
  ((h.set hne _ _).set hne _ _).set hne _ _
theorem set312_osn {n0 : Nat} {W : World} {O : Nat} {u : Value} {l : List Sn} (h : OSn n0 W u l) (hne : ∀ j, u.ownBlock = some j → j ≠ O) (x0 x1 x2 : Value) : OSn n0 (((W.setCell ⟨O, 3, none⟩ x0).setCell ⟨O, 1, none⟩ x1).setCell ⟨O, 2, none⟩ x2) u l :=
  ((h.set hne _ _).set hne _ _).set hne _ _
theorem set9_osn {n0 : Nat} {W : World} {O : Nat} {u : Value} {l : List Sn} (h : OSn n0 W u l) (hne : ∀ j, u.ownBlock = some j → j ≠ O) (x0 x1 x2 x3 x4 x5 x6 x7 x8 : Value) : OSn n0 (((((((((W.setCell ⟨O, 0, none⟩ x0).setCell ⟨O, 1, none⟩ x1).setCell ⟨O, 2, none⟩ x2).setCell ⟨O, 3, none⟩ x3).setCell ⟨O, 4, none⟩ x4).setCell ⟨O, 5, none⟩ x5).setCell ⟨O, 6, none⟩ x6).setCell ⟨O, 7, none⟩ x7).setCell ⟨O, 8, none⟩ x8) u l :=
  ((((((((h.set hne _ _).set hne _ _).set hne _ _).set hne _ _).set hne _ _).set hne _ _).set hne _ _).set hne _ _).set hne _ _
end Go.Proofs.YtagajindaipaeaaGreat
namespace Go.Proofs.YtagajindaipaeaaGreat
open Go.ChangeShapes Go.WideShapes Go.ChangeAt Go.RowKit
theorem own0ySn {W : World} {B b : Nat} (hb : W.heap[b]? = some (.cells #[] 170)) (hB : B ≤ b) : W.ownsRow B 170 3 (.slice (some ⟨b, 0, none⟩) 0 0) 0 [] :=
  ⟨rfl, .inr ⟨b, 0, #[], rfl, hB, hb, Nat.le_refl _, Nat.zero_le _, rfl, rfl⟩⟩
theorem run_append_ySn (W : World) (b ty c : Nat) (a : Option Addr) : (Builtin.append_ #[68, 68] ty #[.slice (some ⟨b, 0, none⟩) 0 0, .slice a 0 c]).run Tryz.prog W = .ok (.slice (some ⟨b, 0, none⟩) 0 0) W := by
  obtain ⟨i0, hi, hz0, hz1, hz2⟩ := info_parts infoSnA
  cases a with
  | none => simp [Builtin.append_, run_underlying Tryz.underlying68, sizeOf, typeInfo, hi, Builtin.lenOf, Builtin.firstCells, storeCells]
  | some a => simp [Builtin.append_, run_underlying Tryz.underlying68, sizeOf, typeInfo, hi, Builtin.lenOf, Builtin.firstCells, storeCells, loadCells, loadCellsFrom]
theorem wp_cpySn {o : Oper} {a : Act} {K : Act → World → Prop} {Q : Exit → Act → World → Prop} {W : World} {base b : Nat} {xv : Value} {ms : List Sn} (s x : Operand)
    (ho : o.op = .call { callee := .builtin .append, args := #[s, x], argTypes := #[68, 68] })
    (hs : a.eval s = .slice (some ⟨b, 0, none⟩) 0 0) (hx : a.eval x = xv) (hB : W.heap[b]? = some (.cells #[] 170)) (hr : RowSn W xv ms) (hl : ms.length ≤ 2000000) (hbase : base ≤ b)
    (k : ∀ A C w', w'.ownsRow base 170 3 (.slice A ms.length C) ms.length (clSns ms) → W.grownBy w' (some b) → K (a.put o.dst (.slice A ms.length C)) w') : o.wp Tryz.prog a W K Q := by
  have hown := own0ySn hB hbase
  have hlt := (Array.getElem?_eq_some_iff.1 hB).1
  obtain ⟨i0, hi, hz0, hz1, hz2⟩ := info_parts infoSnA
  obtain ⟨A, C, rfl⟩ := hr.val
  rcases Nat.eq_zero_or_pos ms.length with h0 | h0
  · obtain rfl : ms = [] := List.eq_nil_of_length_eq_zero h0
    have hrun := run_append_ySn W b o.type C A
    have hk := k (some ⟨b, 0, none⟩) 0 W (by simpa [clSns] using hown) ⟨rfl, rfl, rfl, Nat.le_refl _, fun _ _ _ => rfl⟩
    unfold Oper.wp
    simp only [List.length_nil] at hx hk
    simp [execOp, ho, resolve, invoke, builtin, hs, hx, hrun, Result.andThen]
    exact hk
  · obtain ⟨A', C', e, hc⟩ := hr.shape
    simp only [Value.slice.injEq, true_and] at e
    obtain ⟨rfl, rfl⟩ := e
    obtain ⟨b', o', rfl, hcell⟩ := hc (by intro e2; rw [e2] at h0; simp at h0)
    refine wp_append_lies W s x 68 ho base 170 i0 (.agg #[.int .i64 0, .int .i64 0, .int .i64 0]) 3 24 Tryz.underlying68 hi hz0 hz1 hz2 rfl (by decide) _ 0 [] hs hown ⟨b', o', none⟩ ms.length C (clSns ms) hx (clSns_len ms) (fun j u hu => ?_) (fun u hu => ?_) h0 (by unfold maxLen; omega) (by omega) (by omega) _ rfl ?_
    · obtain ⟨i, g, hg', ho'⟩ := clSns_get hu
      obtain ⟨q0, q1, q2⟩ := hcell i g hg'
      rw [fl_addr]
      rcases ho' with ⟨rfl, rfl⟩ | ⟨rfl, rfl⟩ | ⟨rfl, rfl⟩
      · first | exact q0 | (rw [← q0]; congr 2; omega)
      · first | exact q1 | (rw [← q1]; congr 2; omega)
      · first | exact q2 | (rw [← q2]; congr 2; omega)
    · obtain ⟨j, hj⟩ := List.getElem?_of_mem hu
      obtain ⟨i, g, _, ho'⟩ := clSns_get hj
      rcases ho' with ⟨_, rfl⟩ | ⟨_, rfl⟩ | ⟨_, rfl⟩ <;> rfl
    · intro gg cap w' hown' hgrow _ _
      have hown2 : w'.ownsRow base 170 3 (.slice (some ⟨gg, 0, none⟩) ms.length cap) ms.length (clSns ms) := by
        have := hown'
        rw [Nat.zero_add, List.nil_append] at this
        exact this
      have := k (some ⟨gg, 0, none⟩) cap w' hown2 hgrow
      rw [Nat.zero_add]
      exact this
theorem step_cpySn {ops : Array Oper} {o : Oper} {a : Act} {K : Act → World → Prop} {Q : Exit → Act → World → Prop} {E : Prop} {W : World} {base b : Nat} {xv : Value} {ms : List Sn} (hw : Region.wanted o (yielded ops a.tmps) = true) (s x : Operand)
    (ho : o.op = .call { callee := .builtin .append, args := #[s, x], argTypes := #[68, 68] })
    (hs : a.eval s = .slice (some ⟨b, 0, none⟩) 0 0) (hx : a.eval x = xv) (hB : W.heap[b]? = some (.cells #[] 170)) (hr : RowSn W xv ms) (hl : ms.length ≤ 2000000) (hbase : base ≤ b)
    (k : ∀ A C w', w'.ownsRow base 170 3 (.slice A ms.length C) ms.length (clSns ms) → W.grownBy w' (some b) → K (a.put o.dst (.slice A ms.length C)) w') : if Region.wanted o (yielded ops a.tmps) = true then o.wp Tryz.prog a W K Q else E := by
  rw [if_pos hw]
  exact wp_cpySn s x ho hs hx hB hr hl hbase k
theorem wpList_cpySn {ops : Array Oper} {rest : List Oper} {o : Oper} {a : Act} {Q : Exit → Act → World → Prop} {W : World} {base b : Nat} {xv : Value} {ms : List Sn} (hw : Region.wanted o (yielded ops a.tmps) = true) (s x : Operand)
    (ho : o.op = .call { callee := .builtin .append, args := #[s, x], argTypes := #[68, 68] })
    (hs : a.eval s = .slice (some ⟨b, 0, none⟩) 0 0) (hx : a.eval x = xv) (hB : W.heap[b]? = some (.cells #[] 170)) (hr : RowSn W xv ms) (hl : ms.length ≤ 2000000) (hbase : base ≤ b)
    (k : ∀ A C w', w'.ownsRow base 170 3 (.slice A ms.length C) ms.length (clSns ms) → W.grownBy w' (some b) → wpList Tryz.prog ops Q rest (a.put o.dst (.slice A ms.length C)) w') : wpList Tryz.prog ops Q (o :: rest) a W :=
  BigFrame.wpList_want hw fun _ hK => wp_cpySn s x ho hs hx hB hr hl hbase fun A C w' h1 h2 => hK _ _ (k A C w' h1 h2)
end Go.Proofs.YtagajindaipaeaaGreat
