/- Texts of ours put together: AppNSn, ShClone. -/
import Derived.Test.YtagajindaipaeaaGreatG19
import Derived.Deep.AppendLies
import Derived.BigFrame
import Derived.Shelf.LaysM
import Derived.Shelf.Strconv.Clone
import Derived.Test.YtagajindaipaeaaGreatG00
namespace Go.Proofs.YtagajindaipaeaaGreat
open Go.ChangeShapes Go.WideShapes Go.ChangeAt Go.RowKit
theorem run_append_nilSn (W : World) (ty c : Nat) (a : Option Addr) : (Builtin.append_ #[68, 68] ty #[.slice none 0 0, .slice a 0 c]).run Tryz.prog W = .ok (.slice none 0 0) W := by
  obtain ⟨i0, hi, hz0, hz1, hz2⟩ := info_parts infoSnA
  cases a with
  | none => simp [Builtin.append_, run_underlying Tryz.underlying68, sizeOf, typeInfo, hi, Builtin.lenOf, Builtin.firstCells]
  | some a => simp [Builtin.append_, run_underlying Tryz.underlying68, sizeOf, typeInfo, hi, Builtin.lenOf, Builtin.firstCells, loadCells, loadCellsFrom]
theorem wp_nilSn {o : Oper} {a : Act} {K : Act → World → Prop} {Q : Exit → Act → World → Prop} {W : World} {base : Nat} {xv : Value} {ms : List Sn} (s x : Operand)
    (ho : o.op = .call { callee := .builtin .append, args := #[s, x], argTypes := #[68, 68] })
    (hs : a.eval s = .slice none 0 0) (hx : a.eval x = xv) (hr : RowSn W xv ms) (hl : ms.length ≤ 2000000) (hbase : base ≤ W.heap.size)
    (k : ∀ A C w', w'.ownsRow base 170 3 (.slice A ms.length C) ms.length (clSns ms) → W.grownBy w' none → (∀ g, (Value.slice A ms.length C).ownBlock = some g → W.heap.size ≤ g) → K (a.put o.dst (.slice A ms.length C)) w') : o.wp Tryz.prog a W K Q := by
  obtain ⟨i0, hi, hz0, hz1, hz2⟩ := info_parts infoSnA
  obtain ⟨A, C, rfl⟩ := hr.val
  rcases Nat.eq_zero_or_pos ms.length with h0 | h0
  · obtain rfl : ms = [] := List.eq_nil_of_length_eq_zero h0
    have hrun := run_append_nilSn W o.type C A
    have hk := k none 0 W (World.ownsRow_nil W base 170 3) ⟨rfl, rfl, rfl, Nat.le_refl _, fun _ _ _ => rfl⟩ (fun g h => by simp [Value.ownBlock] at h)
    unfold Oper.wp
    simp only [List.length_nil] at hx hk
    simp [execOp, ho, resolve, invoke, builtin, hs, hx, hrun, Result.andThen]
    exact hk
  · obtain ⟨A', C', e, hc⟩ := hr.shape
    simp only [Value.slice.injEq, true_and] at e
    obtain ⟨rfl, rfl⟩ := e
    obtain ⟨b', o', rfl, hcell⟩ := hc (by intro e2; rw [e2] at h0; simp at h0)
    refine wp_append_lies W s x 68 ho base 170 i0 (.agg #[.int .i64 0, .int .i64 0, .int .i64 0]) 3 24 Tryz.underlying68 hi hz0 hz1 hz2 rfl (by decide) _ 0 [] hs (World.ownsRow_nil W base 170 3) ⟨b', o', none⟩ ms.length C (clSns ms) hx (clSns_len ms) (fun j u hu => ?_) (fun u hu => ?_) h0 (by unfold maxLen; omega) (by omega) hbase _ rfl ?_
    · obtain ⟨i, g, hg', ho'⟩ := clSns_get hu
      obtain ⟨q0, q1, q2⟩ := hcell i g hg'
      rw [fl_addr]
      rcases ho' with ⟨rfl, rfl⟩ | ⟨rfl, rfl⟩ | ⟨rfl, rfl⟩
      · first | exact q0 | (rw [← q0]; congr 2; omega)
      · first | exact q1 | (rw [← q1]; congr 2; omega)
      · first | exact q2 | (rw [← q2]; congr 2; omega)
    · obtain ⟨j, hj⟩ := List.getElem?_of_mem hu
      obtain ⟨i, g, _, ho'⟩ := clSns_get hj
      rcases ho' with ⟨_, rfl⟩ | ⟨_, rfl⟩ | ⟨_, rfl⟩ <;> rfl
    · intro gg cap w' hown' hgrow hat _
      have hown2 : w'.ownsRow base 170 3 (.slice (some ⟨gg, 0, none⟩) ms.length cap) ms.length (clSns ms) := by
        have := hown'
        rw [Nat.zero_add, List.nil_append] at this
        exact this
      have := k (some ⟨gg, 0, none⟩) cap w' hown2 hgrow (fun g h => by
        simp [Value.ownBlock] at h
        subst h
        rcases hat with h | h
        · simp [Value.ownBlock] at h
        · omega)
      rw [Nat.zero_add]
      exact this
theorem step_nilSn {ops : Array Oper} {o : Oper} {a : Act} {K : Act → World → Prop} {Q : Exit → Act → World → Prop} {E : Prop} {W : World} {base : Nat} {xv : Value} {ms : List Sn} (hw : Region.wanted o (yielded ops a.tmps) = true) (s x : Operand)
    (ho : o.op = .call { callee := .builtin .append, args := #[s, x], argTypes := #[68, 68] })
    (hs : a.eval s = .slice none 0 0) (hx : a.eval x = xv) (hr : RowSn W xv ms) (hl : ms.length ≤ 2000000) (hbase : base ≤ W.heap.size)
    (k : ∀ A C w', w'.ownsRow base 170 3 (.slice A ms.length C) ms.length (clSns ms) → W.grownBy w' none → (∀ g, (Value.slice A ms.length C).ownBlock = some g → W.heap.size ≤ g) → K (a.put o.dst (.slice A ms.length C)) w') : if Region.wanted o (yielded ops a.tmps) = true then o.wp Tryz.prog a W K Q else E := by
  rw [if_pos hw]
  exact wp_nilSn s x ho hs hx hr hl hbase k
end Go.Proofs.YtagajindaipaeaaGreat
namespace Go.Proofs.YtagajindaipaeaaGreat
open Go.Shelf Go.RowKit
def renClone : Go.Shelf.Ren := ⟨fun | 316 => 147 | n => n, fun | 9 => 9 | 3 => 3 | 4 => 4 | 37 => 191 | 0 => 0 | 127 => 227 | 5 => 5 | n => n, fun | n => n⟩
theorem laysClone : Go.Proofs.LaysM.n316 Tryz.prog renClone := {
  mixed := by kernel_rfl
  f316 := Tryz.func147.trans (congrArg some (by kernel_rfl))
  t0 := Tryz.underlying0
  a0 := Tryz.isAgg0
  z0 := Tryz.sizeOf0
  v0 := Tryz.zeroValue0
  t3 := Tryz.underlying3
  a3 := Tryz.isAgg3
  z3 := Tryz.sizeOf3
  v3 := Tryz.zeroValue3
  t4 := Tryz.underlying4
  a4 := Tryz.isAgg4
  z4 := Tryz.sizeOf4
  v4 := Tryz.zeroValue4
  t9 := Tryz.underlying9
  a9 := Tryz.isAgg9
  z9 := Tryz.sizeOf9
  v9 := Tryz.zeroValue9
  t37 := Tryz.underlying191
  a37 := Tryz.isAgg191
  z37 := Tryz.sizeOf191
  v37 := Tryz.zeroValue191
  t127 := Tryz.underlying227
  a127 := Tryz.isAgg227
  z127 := Tryz.sizeOf227
  v127 := Tryz.zeroValue227
  t5 := Tryz.underlying5
  a5 := Tryz.isAgg5
  z5 := Tryz.sizeOf5
  v5 := Tryz.zeroValue5
  i0 := by kernel_rfl
  i3 := by kernel_rfl
  i4 := by kernel_rfl
  i5 := by kernel_rfl
  i9 := by kernel_rfl
  i37 := by kernel_rfl
  i127 := by kernel_rfl }
theorem cloneLite (s : ByteArray) (w : World) (hlim : s.size ≤ 281474976710656) : Calls Tryz.prog 147 #[.string s] w fun e w' => e = .returned (.string s) ∧ Below w.heap.size w w' := Any.stringslite_Clone laysClone s w hlim
theorem clone_any (s : ByteArray) (w : World) (hlim : s.size ≤ 281474976710656) : Calls Tryz.prog 107 #[.string s] w fun e w' => e = .returned (.string s) ∧ Below w.heap.size w w' := by
  go_enter Tryz.func107, Tryz.ntmps107
  go_wp2_with fail
  refine (cloneLite s _ hlim).mono ?_
  rintro e w1 ⟨rfl, hb⟩
  go_wp2
  go_ret
  exact ⟨rfl, hb⟩
end Go.Proofs.YtagajindaipaeaaGreat
