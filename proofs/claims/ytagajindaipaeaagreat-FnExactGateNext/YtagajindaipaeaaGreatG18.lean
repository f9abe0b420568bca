/- Texts of ours put together: PtP, AppNSn, ShClone. -/
import Derived.Test.YtagajindaipaeaaGreatG17
import Derived.Test.YtagajindaipaeaaGreatG00
import Derived.Deep.AppendLies
import Derived.BigFrame
import Derived.Shelf.LaysM
import Derived.Shelf.Strconv.Clone
namespace Go.Proofs.YtagajindaipaeaaGreat
open Go.ChangeShapes Go.WideShapes Go.ChangeAt Go.RowKit
theorem infoPtA : (Tryz.prog.info? 70).map (fun i => (i.zero, i.size, i.bytes)) = some (some (.agg #[.string ⟨#[]⟩, .int .i64 0, .int .i64 0, .slice none 0 0]), 4, 56) := by kernel_rfl
def clP (q : Ptn × Value) : List Value := [.string q.1.name, .int .i64 q.1.low, .int .i64 q.1.next, q.2]
def clPs (qs : List (Ptn × Value)) : List Value := qs.flatMap clP
theorem clPs_len (qs : List (Ptn × Value)) : (clPs qs).length = qs.length * 4 := by
  induction qs with
  | nil => rfl
  | cons q r ih =>
    have : clPs (q :: r) = clP q ++ clPs r := rfl
    rw [this, List.length_append, ih]
    simp only [clP, List.length_cons, List.length_nil]
    omega
theorem clPs_app (qs : List (Ptn × Value)) (q : Ptn × Value) : clPs (qs ++ [q]) = clPs qs ++ clP q := by simp [clPs]
theorem clPs_at : ∀ {qs : List (Ptn × Value)} {i : Nat} {q : Ptn × Value}, qs[i]? = some q → (clPs qs)[i * 4]? = some (.string q.1.name) ∧ (clPs qs)[i * 4 + 1]? = some (.int .i64 q.1.low) ∧ (clPs qs)[i * 4 + 2]? = some (.int .i64 q.1.next) ∧ (clPs qs)[i * 4 + 3]? = some q.2
  | [], i, q, h => by simp at h
  | x :: r, 0, q, h => by
    simp at h
    subst h
    exact ⟨rfl, rfl, rfl, rfl⟩
  | x :: r, i + 1, q, h => by
    have hc : clPs (x :: r) = clP x ++ clPs r := rfl
    have hl : (clP x).length = 4 := rfl
    obtain ⟨e0, e1, e2, e3⟩ := clPs_at (qs := r) (i := i) (q := q) (by simpa using h)
    refine ⟨?_, ?_, ?_, ?_⟩
    · rw [hc, List.getElem?_append_right (by omega), hl, ← e0]
      congr 1
      omega
    · rw [hc, List.getElem?_append_right (by omega), hl, ← e1]
      congr 1
      omega
    · rw [hc, List.getElem?_append_right (by omega), hl, ← e2]
      congr 1
      omega
    · rw [hc, List.getElem?_append_right (by omega), hl, ← e3]
      congr 1
      omega
/-- A list of partners in memory of the call's own: its row, and each one's list in a block for itself. -/
structure OwnP (base : Nat) (W : World) (v : Value) (qs : List (Ptn × Value)) : Prop where
  row : W.ownsRow base 70 4 v qs.length (clPs qs)
  sn : ∀ q ∈ qs, W.ownsRow base 170 3 q.2 q.1.seen.length (clSns q.1.seen)
  ap : qs.Pairwise fun a b => ∀ g, a.2.ownBlock = some g → b.2.ownBlock ≠ some g
theorem OwnP.nil (base : Nat) (W : World) : OwnP base W (.slice none 0 0) [] := ⟨World.ownsRow_nil W base 70 4, fun q hq => by simp at hq, List.Pairwise.nil⟩
theorem own_belowP {W W' : World} {base : Nat} {e : TypeId} {size : Nat} {v : Value} {n : Nat} {xs : List Value} (h : W.ownsRow base e size v n xs) (hb : Below W.heap.size W W') : W'.ownsRow base e size v n xs := by
  refine h.kept (row := none) ⟨hb.os, hb.tape, hb.output, hb.size, fun j hj _ => hb.block j hj⟩ ?_
  rcases h.2 with ⟨e, _⟩ | ⟨g, cap, cur, e, _⟩
  · exact .inl (by rw [e]; rfl)
  · exact .inr (by rw [e]; simp [Value.ownBlock])
theorem OwnP.below {base : Nat} {W W' : World} {v : Value} {qs : List (Ptn × Value)} (h : OwnP base W v qs) (hb : Below W.heap.size W W') : OwnP base W' v qs := ⟨own_belowP h.row hb, fun q hq => own_belowP (h.sn q hq) hb, h.ap⟩
theorem OwnP.down {base base' : Nat} {W : World} {v : Value} {qs : List (Ptn × Value)} (h : OwnP base W v qs) (hb : base' ≤ base) : OwnP base' W v qs := ⟨ownsRow_down h.row hb, fun q hq => ownsRow_down (h.sn q hq) hb, h.ap⟩
/-- Blocks of unlike types are not one. -/
theorem own_ne {W : World} {b1 b2 e1 e2 s1 s2 : Nat} {v1 v2 : Value} {n1 n2 : Nat} {x1 x2 : List Value} (h1 : W.ownsRow b1 e1 s1 v1 n1 x1) (h2 : W.ownsRow b2 e2 s2 v2 n2 x2) (hne : e1 ≠ e2) : v1.ownBlock = none ∨ v1.ownBlock ≠ v2.ownBlock := by
  rcases h1.2 with ⟨rfl, _⟩ | ⟨g, cap, cur, rfl, _, hg, _⟩
  · exact .inl rfl
  · refine .inr ?_
    rcases h2.2 with ⟨rfl, _⟩ | ⟨g', cap', cur', rfl, _, hg', _⟩
    · simp [Value.ownBlock]
    · simp only [Value.ownBlock, ne_eq, Option.some.injEq]
      intro e
      subst e
      rw [hg] at hg'
      simp at hg'
      exact hne hg'.2
theorem OwnP.rows {base : Nat} {W : World} {v : Value} {qs : List (Ptn × Value)} (h : OwnP base W v qs) (hl : qs.length ≤ 9223372036854775807) (hz : ∀ q ∈ qs, q.1.name.size ≤ 9223372036854775807 ∧ q.1.seen.length ≤ 9223372036854775807) : RowPt W v (qs.map Prod.fst) := by
  rcases h.row.2 with ⟨rfl, h0⟩ | ⟨b, cap, cur, rfl, hb, hh, hc, hm, hs, ht⟩
  · have : qs = [] := List.eq_nil_of_length_eq_zero h0
    subst this
    exact ⟨⟨none, 0, rfl, fun hn => absurd rfl hn⟩, by simp⟩
  · refine ⟨⟨_, cap, by rw [List.length_map], fun _ => ⟨b, 0, rfl, fun i p hi => ?_⟩⟩, by simpa using hl⟩
    rw [List.getElem?_map] at hi
    obtain ⟨q, hq, rfl⟩ := Option.map_eq_some_iff.1 hi
    obtain ⟨e0, e1, e2, e3⟩ := clPs_at hq
    have hlt := (List.getElem?_eq_some_iff.1 hq).1
    rw [← ht] at e0 e1 e2 e3
    have get : ∀ (j : Nat) (x : Value), j < qs.length * 4 → (cur.toList.take (qs.length * 4))[j]? = some x → W.cell? ⟨b, j, none⟩ = some x := fun j x hj hx => by
      rw [List.getElem?_take_of_lt hj, Array.getElem?_toList] at hx
      simp [World.cell?, hh, hx]
    have hm := List.mem_of_getElem? hq
    obtain ⟨c, _, hL⟩ := LSn.of_owns (h.sn q hm) (hz q hm).2
    rw [Nat.zero_add]
    exact ⟨q.2, ⟨get _ _ (by omega) e0, get _ _ (by omega) e1, get _ _ (by omega) e2, get _ _ (by omega) e3⟩, ⟨hL.row, (hz q hm).1⟩⟩
/-- An append of one, at the list of a plain region's operations. -/
theorem wpList_appP {ops : Array Oper} {rest : List Oper} {o : Oper} {a : Act} {Q : Exit → Act → World → Prop} {W : World} {base c C : Nat} {lv : Value} {qs : List (Ptn × Value)} {q : Ptn × Value} (hgd : o.guard = none) (s x : Operand)
    (ho : o.op = .call { callee := .builtin .append, args := #[s, x], argTypes := #[33, 33] })
    (hs' : a.eval s = lv) (hx : a.eval x = .slice (some ⟨c, 0, none⟩) 1 C) (h : OwnP base W lv qs) (hg : W.cell? ⟨c, 0, none⟩ = some (.string q.1.name) ∧ W.cell? ⟨c, 1, none⟩ = some (.int .i64 q.1.low) ∧ W.cell? ⟨c, 2, none⟩ = some (.int .i64 q.1.next) ∧ W.cell? ⟨c, 3, none⟩ = some q.2)
    (hq : W.ownsRow base 170 3 q.2 q.1.seen.length (clSns q.1.seen)) (ha : ∀ y ∈ qs, ∀ g, y.2.ownBlock = some g → q.2.ownBlock ≠ some g) (hone : q.2.oneCell' = true) (hl : qs.length + 1 ≤ 2000000) (hbase : base ≤ W.heap.size)
    (k : ∀ v' w', OwnP base w' v' (qs ++ [q]) → W.grownBy w' lv.ownBlock → (∃ A C, v' = .slice A (qs ++ [q]).length C) → wpList Tryz.prog ops Q rest (a.put o.dst v') w') : wpList Tryz.prog ops Q (o :: rest) a W := by
  obtain ⟨i0, hi, hz0, hz1, hz2⟩ := info_parts infoPtA
  obtain ⟨q0, q1, q2, q3⟩ := hg
  refine wpList_append_own W hgd s x 33 ho base 70 i0 (.agg #[.string ⟨#[]⟩, .int .i64 0, .int .i64 0, .slice none 0 0]) 4 56 Tryz.underlying33 hi hz0 hz1 hz2 rfl (by decide) lv qs.length (clPs qs) hs' h.row ⟨c, 0, none⟩ 1 C (clP q) hx rfl (fun j u hu => ?_) (fun u hu => ?_) (by unfold maxLen; omega) (by omega) hbase ?_
  · rw [fl_addr]
    have hj := (List.getElem?_eq_some_iff.1 hu).1
    have hj3 : j < 4 := hj
    match j, hj3 with
    | 0, _ =>
      cases hu
      simpa using q0
    | 1, _ =>
      cases hu
      simpa using q1
    | 2, _ =>
      cases hu
      simpa using q2
    | 3, _ =>
      cases hu
      simpa using q3
  · simp only [clP, List.mem_cons, List.not_mem_nil, or_false] at hu
    rcases hu with rfl | rfl | rfl | rfl
    · rfl
    · rfl
    · rfl
    · exact hone
  · intro v' w' hown hgrow hnil
    have e1 : (qs ++ [q]).length = qs.length + 1 := by simp
    have hown' : w'.ownsRow base 70 4 v' (qs ++ [q]).length (clPs (qs ++ [q])) := by
      rw [e1, clPs_app]
      exact hown
    have hne : 170 ≠ 70 := by decide
    refine k v' w' ⟨hown', fun y hy => ?_, ?_⟩ hgrow ?_
    · rcases List.mem_append.1 hy with hy | hy
      · exact (h.sn y hy).kept hgrow (own_ne (h.sn y hy) h.row hne)
      · rw [List.mem_singleton] at hy
        subst hy
        exact hq.kept hgrow (own_ne hq h.row hne)
    · rw [List.pairwise_append]
      refine ⟨h.ap, List.pairwise_singleton _ _, fun y hy z hz => ?_⟩
      rw [List.mem_singleton] at hz
      subst hz
      exact ha y hy
    · rcases hown'.2 with ⟨rfl, h0⟩ | ⟨b, cap, cur, rfl, _⟩
      · exact ⟨none, 0, by rw [h0]⟩
      · exact ⟨_, _, rfl⟩
end Go.Proofs.YtagajindaipaeaaGreat
namespace Go.Proofs.YtagajindaipaeaaGreat
open Go.ChangeShapes Go.WideShapes Go.ChangeAt Go.RowKit
theorem run_append_nilSn (W : World) (ty c : Nat) (a : Option Addr) : (Builtin.append_ #[68, 68] ty #[.slice none 0 0, .slice a 0 c]).run Tryz.prog W = .ok (.slice none 0 0) W := by
  obtain ⟨i0, hi, hz0, hz1, hz2⟩ := info_parts infoSnA
  cases a with
  | none => simp [Builtin.append_, run_underlying Tryz.underlying68, sizeOf, typeInfo, hi, Builtin.lenOf, Builtin.firstCells]
  | some a => simp [Builtin.append_, run_underlying Tryz.underlying68, sizeOf, typeInfo, hi, Builtin.lenOf, Builtin.firstCells, loadCells, loadCellsFrom]
theorem wp_nilSn {o : Oper} {a : Act} {K : Act → World → Prop} {Q : Exit → Act → World → Prop} {W : World} {base : Nat} {xv : Value} {ms : List Sn} (s x : Operand)
    (ho : o.op = .call { callee := .builtin .append, args := #[s, x], argTypes := #[68, 68] })
    (hs : a.eval s = .slice none 0 0) (hx : a.eval x = xv) (hr : RowSn W xv ms) (hl : ms.length ≤ 2000000) (hbase : base ≤ W.heap.size)
    (k : ∀ A C w', w'.ownsRow base 170 3 (.slice A ms.length C) ms.length (clSns ms) → W.grownBy w' none → (∀ g, (Value.slice A ms.length C).ownBlock = some g → W.heap.size ≤ g) → K (a.put o.dst (.slice A ms.length C)) w') : o.wp Tryz.prog a W K Q := by
  obtain ⟨i0, hi, hz0, hz1, hz2⟩ := info_parts infoSnA
  obtain ⟨A, C, rfl⟩ := hr.val
  rcases Nat.eq_zero_or_pos ms.length with h0 | h0
  · obtain rfl : ms = [] := List.eq_nil_of_length_eq_zero h0
    have hrun := run_append_nilSn W o.type C A
    have hk := k none 0 W (World.ownsRow_nil W base 170 3) ⟨rfl, rfl, rfl, Nat.le_refl _, fun _ _ _ => rfl⟩ (fun g h => by simp [Value.ownBlock] at h)
    unfold Oper.wp
    simp only [List.length_nil] at hx hk
    simp [execOp, ho, resolve, invoke, builtin, hs, hx, hrun, Result.andThen]
    exact hk
  · obtain ⟨A', C', e, hc⟩ := hr.shape
    simp only [Value.slice.injEq, true_and] at e
    obtain ⟨rfl, rfl⟩ := e
    obtain ⟨b', o', rfl, hcell⟩ := hc (by intro e2; rw [e2] at h0; simp at h0)
    refine wp_append_lies W s x 68 ho base 170 i0 (.agg #[.int .i64 0, .int .i64 0, .int .i64 0]) 3 24 Tryz.underlying68 hi hz0 hz1 hz2 rfl (by decide) _ 0 [] hs (World.ownsRow_nil W base 170 3) ⟨b', o', none⟩ ms.length C (clSns ms) hx (clSns_len ms) (fun j u hu => ?_) (fun u hu => ?_) h0 (by unfold maxLen; omega) (by omega) hbase _ rfl ?_
    · obtain ⟨i, g, hg', ho'⟩ := clSns_get hu
      obtain ⟨q0, q1, q2⟩ := hcell i g hg'
      rw [fl_addr]
      rcases ho' with ⟨rfl, rfl⟩ | ⟨rfl, rfl⟩ | ⟨rfl, rfl⟩
      · first | exact q0 | (rw [← q0]; congr 2; omega)
      · first | exact q1 | (rw [← q1]; congr 2; omega)
      · first | exact q2 | (rw [← q2]; congr 2; omega)
    · obtain ⟨j, hj⟩ := List.getElem?_of_mem hu
      obtain ⟨i, g, _, ho'⟩ := clSns_get hj
      rcases ho' with ⟨_, rfl⟩ | ⟨_, rfl⟩ | ⟨_, rfl⟩ <;> rfl
    · intro gg cap w' hown' hgrow hat _
      have hown2 : w'.ownsRow base 170 3 (.slice (some ⟨gg, 0, none⟩) ms.length cap) ms.length (clSns ms) := by
        have := hown'
        rw [Nat.zero_add, List.nil_append] at this
        exact this
      have := k (some ⟨gg, 0, none⟩) cap w' hown2 hgrow (fun g h => by
        simp [Value.ownBlock] at h
        subst h
        rcases hat with h | h
        · simp [Value.ownBlock] at h
        · omega)
      rw [Nat.zero_add]
      exact this
theorem step_nilSn {ops : Array Oper} {o : Oper} {a : Act} {K : Act → World → Prop} {Q : Exit → Act → World → Prop} {E : Prop} {W : World} {base : Nat} {xv : Value} {ms : List Sn} (hw : Region.wanted o (yielded ops a.tmps) = true) (s x : Operand)
    (ho : o.op = .call { callee := .builtin .append, args := #[s, x], argTypes := #[68, 68] })
    (hs : a.eval s = .slice none 0 0) (hx : a.eval x = xv) (hr : RowSn W xv ms) (hl : ms.length ≤ 2000000) (hbase : base ≤ W.heap.size)
    (k : ∀ A C w', w'.ownsRow base 170 3 (.slice A ms.length C) ms.length (clSns ms) → W.grownBy w' none → (∀ g, (Value.slice A ms.length C).ownBlock = some g → W.heap.size ≤ g) → K (a.put o.dst (.slice A ms.length C)) w') : if Region.wanted o (yielded ops a.tmps) = true then o.wp Tryz.prog a W K Q else E := by
  rw [if_pos hw]
  exact wp_nilSn s x ho hs hx hr hl hbase k
end Go.Proofs.YtagajindaipaeaaGreat
namespace Go.Proofs.YtagajindaipaeaaGreat
open Go.Shelf Go.RowKit
def renClone : Go.Shelf.Ren := ⟨fun | 316 => 147 | n => n, fun | 9 => 9 | 3 => 3 | 4 => 4 | 37 => 191 | 0 => 0 | 127 => 227 | 5 => 5 | n => n, fun | n => n⟩
theorem laysClone : Go.Proofs.LaysM.n316 Tryz.prog renClone := {
  mixed := by kernel_rfl
  f316 := Tryz.func147.trans (congrArg some (by kernel_rfl))
  t0 := Tryz.underlying0
  a0 := Tryz.isAgg0
  z0 := Tryz.sizeOf0
  v0 := Tryz.zeroValue0
  t3 := Tryz.underlying3
  a3 := Tryz.isAgg3
  z3 := Tryz.sizeOf3
  v3 := Tryz.zeroValue3
  t4 := Tryz.underlying4
  a4 := Tryz.isAgg4
  z4 := Tryz.sizeOf4
  v4 := Tryz.zeroValue4
  t9 := Tryz.underlying9
  a9 := Tryz.isAgg9
  z9 := Tryz.sizeOf9
  v9 := Tryz.zeroValue9
  t37 := Tryz.underlying191
  a37 := Tryz.isAgg191
  z37 := Tryz.sizeOf191
  v37 := Tryz.zeroValue191
  t127 := Tryz.underlying227
  a127 := Tryz.isAgg227
  z127 := Tryz.sizeOf227
  v127 := Tryz.zeroValue227
  t5 := Tryz.underlying5
  a5 := Tryz.isAgg5
  z5 := Tryz.sizeOf5
  v5 := Tryz.zeroValue5
  i0 := by kernel_rfl
  i3 := by kernel_rfl
  i4 := by kernel_rfl
  i5 := by kernel_rfl
  i9 := by kernel_rfl
  i37 := by kernel_rfl
  i127 := by kernel_rfl }
theorem cloneLite (s : ByteArray) (w : World) (hlim : s.size ≤ 281474976710656) : Calls Tryz.prog 147 #[.string s] w fun e w' => e = .returned (.string s) ∧ Below w.heap.size w w' := Any.stringslite_Clone laysClone s w hlim
theorem clone_any (s : ByteArray) (w : World) (hlim : s.size ≤ 281474976710656) : Calls Tryz.prog 107 #[.string s] w fun e w' => e = .returned (.string s) ∧ Below w.heap.size w w' := by
  go_enter Tryz.func107, Tryz.ntmps107
  go_wp2_with fail
  refine (cloneLite s _ hlim).mono ?_
  rintro e w1 ⟨rfl, hb⟩
  go_wp2
  go_ret
  exact ⟨rfl, hb⟩
end Go.Proofs.YtagajindaipaeaaGreat
