/- Texts of ours put together: OuA. -/
import Derived.Test.YtiakkpglnijapaaG14
import Derived.Laws.CopyRow
import Derived.Lib.AppendZerosOnto
import Derived.Lib.Overlaps
import Derived.Laws.AppendOwn
namespace Go.Proofs.Ytiakkpglnijapaa
open Go.ChangeShapes Go.WideShapes Go.ChangeAt Go.RowKit
theorem clOus_take : ∀ (rs : List OutR) (i : Nat), clOus (rs.take i) = (clOus rs).take (i * 5)
  | [], i => by simp [clOus]
  | x :: r, 0 => by simp [clOus]
  | x :: r, i + 1 => by
    have e1 : clOus ((x :: r).take (i + 1)) = clOu x ++ clOus (r.take i) := rfl
    have e2 : clOus (x :: r) = clOu x ++ clOus r := rfl
    have hl : (clOu x).length = 5 := rfl
    have h3 : (clOu x).take ((i + 1) * 5) = clOu x := List.take_of_length_le (by omega)
    rw [e1, e2, clOus_take r i, List.take_append, hl, h3, show (i + 1) * 5 - 5 = i * 5 by omega]
theorem clOus_drop : ∀ (rs : List OutR) (i : Nat), clOus (rs.drop i) = (clOus rs).drop (i * 5)
  | [], i => by simp [clOus]
  | x :: r, 0 => by simp
  | x :: r, i + 1 => by
    have e1 : clOus ((x :: r).drop (i + 1)) = clOus (r.drop i) := rfl
    have e2 : clOus (x :: r) = clOu x ++ clOus r := rfl
    have hl : (clOu x).length = 5 := rfl
    have h3 : (clOu x).drop ((i + 1) * 5) = [] := List.drop_of_length_le (by omega)
    rw [e1, e2, clOus_drop r i, List.drop_append, hl, h3, show (i + 1) * 5 - 5 = i * 5 by omega, List.nil_append]
theorem clOus_one {rs : List OutR} : ∀ v ∈ clOus rs, v.oneCell' = true := fun v hv => by
  obtain ⟨j, hj⟩ := List.getElem?_of_mem hv
  obtain ⟨i, g, _, ho⟩ := clOus_get hj
  rcases ho with ⟨_, rfl⟩ | ⟨_, rfl⟩ | ⟨_, rfl⟩ | ⟨_, rfl⟩ | ⟨_, rfl⟩ <;> rfl
/-- A list put together: what stands ahead of i, one more, what stands from i on. -/
def insT (rs : List OutR) (i : Nat) (l : OutR) : List OutR := rs.take i ++ l :: rs.drop i
theorem insT_cells (rs : List OutR) (i : Nat) (l : OutR) : clOus (insT rs i l) = (clOus rs).take (i * 5) ++ (clOu l ++ (clOus rs).drop (i * 5)) := by
  have e : clOus (insT rs i l) = clOus (rs.take i) ++ (clOu l ++ clOus (rs.drop i)) := by simp [insT, clOus]
  rw [e, clOus_take, clOus_drop]
theorem insT_len (rs : List OutR) (i : Nat) (l : OutR) (hi : i ≤ rs.length) : (insT rs i l).length = rs.length + 1 := by
  simp [insT]
  omega
theorem insT_mem {rs : List OutR} {i : Nat} {l x : OutR} (h : x ∈ insT rs i l) : x = l ∨ x ∈ rs := by
  rcases List.mem_append.1 h with h | h
  · exact .inr (List.mem_of_mem_take h)
  · rcases List.mem_cons.1 h with h | h
    · exact .inl h
    · exact .inr (List.mem_of_mem_drop h)
theorem rowOu_block {W : World} {G C : Nat} {cur : Array Value} {L : List OutR} (h : W.heap[G]? = some (.cells cur 25)) (hc : cur.toList.take (L.length * 5) = clOus L) (hl : L.length ≤ 1000000) (hz : ∀ (i : Nat) (g : OutR), L[i]? = some g → g.partner.size ≤ 9223372036854775807 ∧ g.text.size ≤ 9223372036854775807) : RowOu W (.slice (some ⟨G, 0, none⟩) L.length C) L := by
  refine ⟨⟨_, _, rfl, fun _ => ⟨G, 0, rfl, fun i g hi => ?_⟩⟩, by omega, hz⟩
  have hlt := (List.getElem?_eq_some_iff.1 hi).1
  obtain ⟨e0, e1, e2, e3, e4⟩ := clOus_at hi
  rw [← hc] at e0 e1 e2 e3 e4
  have get : ∀ (j : Nat) (x : Value), j < L.length * 5 → (cur.toList.take (L.length * 5))[j]? = some x → W.cell? ⟨G, j, none⟩ = some x := fun j x hj hx => by
    rw [List.getElem?_take_of_lt hj, Array.getElem?_toList] at hx
    simp [World.cell?, h, hx]
  refine ⟨?_, ?_, ?_, ?_, ?_⟩
  · rw [Nat.zero_add]
    exact get _ _ (by omega) e0
  · rw [Nat.zero_add]
    exact get _ _ (by omega) e1
  · rw [Nat.zero_add]
    exact get _ _ (by omega) e2
  · rw [Nat.zero_add]
    exact get _ _ (by omega) e3
  · rw [Nat.zero_add]
    exact get _ _ (by omega) e4
theorem info5 : (Try.prog.info? 25).map (·.size) = some 5 := by kernel_rfl
theorem run_copy5 (w : World) (ty g o dLen dCap : Nat) (a : Addr) (sLen sCap : Nat) (cur : Array Value) (cs : List Value)
    (hg : w.heap[g]? = some (.cells cur 25)) (hn : cs.length = Nat.min sLen dLen * 5) (hsrc : ∀ j v, cs[j]? = some v → w.cell? (a.add j) = some v) (hfit : o + cs.length ≤ cur.size) (h1 : ∀ v ∈ cs, v.oneCell' = true) :
    (Builtin.copy_ #[23, 23] ty #[.slice (some ⟨g, o, none⟩) dLen dCap, .slice (some a) sLen sCap]).run Try.prog w =
      .ok (goInt (Nat.min sLen dLen)) (w.setRow g (cur.toList.take o ++ cs ++ cur.toList.drop (o + cs.length)).toArray) := by
  have hl := run_loadCells_list (P := Try.prog) w a cs hsrc
  have hst := run_storeCells_at Try.prog g o 25 cs 0 cur w hg (by simpa using hfit) h1
  have hs := info5
  cases hq : Try.prog.info? 25 with
  | none => simp [hq] at hs
  | some i =>
    have hi : i.size = 5 := by simpa [hq] using hs
    simp [Builtin.copy_, run_underlying Try.underlying23, Builtin.lenOf, Builtin.firstCells, sizeOf, typeInfo, hq, hi, ← hn, hl, hst]
theorem wpList_copyR {ops : Array Oper} {rest : List Oper} {o : Oper} {a : Act} {Q : Exit → Act → World → Prop} {w : World} (hgd : o.guard = none) (d s : Operand)
    (ho : o.op = .call { callee := .builtin .copy, args := #[d, s], argTypes := #[23, 23] }) (v u : Value) (hd : a.eval d = v) (hs : a.eval s = u) {v' : Value} {w' : World}
    (hr : (Builtin.copy_ #[23, 23] o.type #[v, u]).run Try.prog w = .ok v' w') (h : wpList Try.prog ops Q rest (a.put o.dst v') w') : wpList Try.prog ops Q (o :: rest) a w :=
  wpList_plain hgd fun _ hK => by
    unfold Oper.wp execOp
    simp only [ho, resolve, invoke, builtin, Sem.run_bind, Sem.run_pure, Result.andThen_ok, List.map_toArray, List.map_cons, List.map_nil, hd, hs, hr]
    exact hK _ _ h
theorem step_copyR {ops : Array Oper} {o : Oper} {a : Act} {w : World} {K : Act → World → Prop} {Q : Exit → Act → World → Prop} {E : Prop} (hgd : o.guard = none) (d s : Operand)
    (ho : o.op = .call { callee := .builtin .copy, args := #[d, s], argTypes := #[23, 23] }) (v u : Value) (hd : a.eval d = v) (hs : a.eval s = u) {v' : Value} {w' : World}
    (hr : (Builtin.copy_ #[23, 23] o.type #[v, u]).run Try.prog w = .ok v' w') (h : K (a.put o.dst v') w') : if Region.wanted o (yielded ops a.tmps) = true then Oper.wp Try.prog o a w K Q else E := by
  have hw : Region.wanted o (yielded ops a.tmps) = true := by simp [Region.wanted, hgd]
  rw [if_pos hw]
  unfold Oper.wp
  simp [execOp, ho, resolve, invoke, builtin, hd, hs, hr, Result.andThen]
  exact h
theorem wpList_appR {ops : Array Oper} {rest : List Oper} {o : Oper} {a : Act} {Q : Exit → Act → World → Prop} {w : World} (hgd : o.guard = none) (d s : Operand)
    (ho : o.op = .call { callee := .builtin .append, args := #[d, s], argTypes := #[23, 3] }) (v u : Value) (hd : a.eval d = v) (hs : a.eval s = u) {v' : Value} {w' : World}
    (hr : (Builtin.append_ #[23, 3] o.type #[v, u]).run Try.prog w = .ok v' w') (h : wpList Try.prog ops Q rest (a.put o.dst v') w') : wpList Try.prog ops Q (o :: rest) a w :=
  wpList_plain hgd fun _ hK => by
    unfold Oper.wp execOp
    simp only [ho, resolve, invoke, builtin, Sem.run_bind, Sem.run_pure, Result.andThen_ok, List.map_toArray, List.map_cons, List.map_nil, hd, hs, hr]
    exact hK _ _ h
theorem size_zeroCells (z : Array Value) (n : Nat) : (Builtin.zeroCells z n).size = n * z.size := by simp [Builtin.zeroCells]
/-- append(s[:i], make(S, k)...) where there is no room. -/
theorem run_appZ (w : World) (ty g i k C : Nat) (rs : List OutR) (hc : ∀ j v, (clOus rs)[j]? = some v → w.cell? ⟨g, j, none⟩ = some v) (hi : i ≤ rs.length) (hk : 0 < k) (hC : C < i + k) (hb : i + k ≤ 100000) :
    ∃ (cap : Nat) (R : Array Value), i + k ≤ cap ∧ R.size = cap * 5 ∧ R.toList.take (i * 5) = (clOus rs).take (i * 5) ∧ (Builtin.append_ #[23, 3] ty #[.slice (some ⟨g, 0, none⟩) i C, .int .i64 (k : Int)]).run Try.prog w = .ok (.slice (some ⟨w.heap.size, 0, none⟩) (i + k) cap) (w.drew.alloc (.cells R 25)) := by
  obtain ⟨i0, hi0, hz0, hz1, hz2⟩ := info_parts infoOuA
  have hlen : ((clOus rs).take (i * 5)).length = i * 5 := by rw [List.length_take, clOus_len]; omega
  have hold : (Builtin.firstCells i0.size i (.slice (some ⟨g, 0, none⟩) i C)).run Try.prog w.drew = .ok ((clOus rs).take (i * 5)).toArray w.drew := by
    have := run_loadCells_list (P := Try.prog) w.drew ⟨g, 0, none⟩ ((clOus rs).take (i * 5)) (fun j v hj => by
      rw [fl_addr, Nat.zero_add]
      rw [List.getElem?_take] at hj
      split at hj
      · exact hc j v hj
      · cases hj)
    rw [hlen] at this
    rw [hz1]
    exact this
  have hnx : Builtin.nextslicecap (i + k) C * i0.bytes ≤ 281474976710656 := by
    rw [hz2]
    have := nextslicecap_le hC
    omega
  have hr := Lib.run_append_grow_zeros (P := Try.prog) w 23 3 ty 25 i0 (.agg #[.string ⟨#[]⟩, .int .i64 0, .string ⟨#[]⟩, .int .i64 0, .int .i64 0]) .i64 .i64 Try.underlying23 Try.underlying3 hi0 hz0 (some ⟨g, 0, none⟩) i C ((clOus rs).take (i * 5)) hold k hk (by rw [hz1]; omega) hC (by omega) (by rw [hz2]; omega) hnx
  refine ⟨_, _, grownCap_ge w (i + k) C 25, ?_, ?_, hr⟩
  · have hge := grownCap_ge w (i + k) C 25
    simp only [Array.size_append, size_zeroCells, List.size_toArray, hlen]
    have e8 : (Value.agg #[.string ⟨#[]⟩, .int .i64 0, .string ⟨#[]⟩, .int .i64 0, .int .i64 0]).cells.size = 5 := rfl
    rw [e8]
    omega
  · simp only [Array.toList_append]
    rw [List.append_assoc, List.take_append_of_le_length (by omega), List.take_of_length_le (by omega)]
end Go.Proofs.Ytiakkpglnijapaa
