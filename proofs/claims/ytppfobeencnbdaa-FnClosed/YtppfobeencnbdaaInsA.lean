/- Lists of order lines as rows of cells: cut, copied, laid. -/
import Derived.Test.YtppfobeencnbdaaAppZOl
import Derived.Laws.CopyRow
import Derived.Lib.AppendZerosOnto
import Derived.Lib.Overlaps
import Derived.Laws.AppendOwn
namespace Go.Proofs.Ytppfobeencnbdaa
open Go.ChangeShapes Go.WideShapes Go.ChangeAt Go.RowKit
theorem clOls_take : ∀ (rs : List OLn) (i : Nat), clOls (rs.take i) = (clOls rs).take (i * 8)
  | [], i => by simp [clOls]
  | x :: r, 0 => by simp [clOls]
  | x :: r, i + 1 => by
    have e1 : clOls ((x :: r).take (i + 1)) = clOl x ++ clOls (r.take i) := rfl
    have e2 : clOls (x :: r) = clOl x ++ clOls r := rfl
    have hl : (clOl x).length = 8 := rfl
    have h3 : (clOl x).take ((i + 1) * 8) = clOl x := List.take_of_length_le (by omega)
    rw [e1, e2, clOls_take r i, List.take_append, hl, h3, show (i + 1) * 8 - 8 = i * 8 by omega]
theorem clOls_drop : ∀ (rs : List OLn) (i : Nat), clOls (rs.drop i) = (clOls rs).drop (i * 8)
  | [], i => by simp [clOls]
  | x :: r, 0 => by simp
  | x :: r, i + 1 => by
    have e1 : clOls ((x :: r).drop (i + 1)) = clOls (r.drop i) := rfl
    have e2 : clOls (x :: r) = clOl x ++ clOls r := rfl
    have hl : (clOl x).length = 8 := rfl
    have h3 : (clOl x).drop ((i + 1) * 8) = [] := List.drop_of_length_le (by omega)
    rw [e1, e2, clOls_drop r i, List.drop_append, hl, h3, show (i + 1) * 8 - 8 = i * 8 by omega, List.nil_append]
theorem clOls_one {rs : List OLn} : ∀ v ∈ clOls rs, v.oneCell' = true := fun v hv => by
  obtain ⟨j, hj⟩ := List.getElem?_of_mem hv
  obtain ⟨i, g, _, ho⟩ := clOls_get hj
  rcases ho with ⟨_, rfl⟩ | ⟨_, rfl⟩ | ⟨_, rfl⟩ | ⟨_, rfl⟩ | ⟨_, rfl⟩ | ⟨_, rfl⟩ | ⟨_, rfl⟩ | ⟨_, rfl⟩ <;> rfl
/-- A list put together: what stands ahead of i, one more, what stands from i on. -/
def insT (rs : List OLn) (i : Nat) (l : OLn) : List OLn := rs.take i ++ l :: rs.drop i
theorem insT_cells (rs : List OLn) (i : Nat) (l : OLn) : clOls (insT rs i l) = (clOls rs).take (i * 8) ++ (clOl l ++ (clOls rs).drop (i * 8)) := by
  have e : clOls (insT rs i l) = clOls (rs.take i) ++ (clOl l ++ clOls (rs.drop i)) := by simp [insT, clOls]
  rw [e, clOls_take, clOls_drop]
theorem insT_len (rs : List OLn) (i : Nat) (l : OLn) (hi : i ≤ rs.length) : (insT rs i l).length = rs.length + 1 := by
  simp [insT]
  omega
theorem insT_mem {rs : List OLn} {i : Nat} {l x : OLn} (h : x ∈ insT rs i l) : x = l ∨ x ∈ rs := by
  rcases List.mem_append.1 h with h | h
  · exact .inr (List.mem_of_mem_take h)
  · rcases List.mem_cons.1 h with h | h
    · exact .inl h
    · exact .inr (List.mem_of_mem_drop h)
theorem rowOl_block {W : World} {G C : Nat} {cur : Array Value} {L : List OLn} (h : W.heap[G]? = some (.cells cur 31)) (hc : cur.toList.take (L.length * 8) = clOls L) (hl : L.length ≤ 1000000) (hz : ∀ (i : Nat) (g : OLn), L[i]? = some g → g.partner.size ≤ 9223372036854775807 ∧ g.ref.size ≤ 9223372036854775807 ∧ g.item.size ≤ 9223372036854775807) : RowOl W (.slice (some ⟨G, 0, none⟩) L.length C) L := by
  refine ⟨⟨_, _, rfl, fun _ => ⟨G, 0, rfl, fun i g hi => ?_⟩⟩, by omega, hz⟩
  have hlt := (List.getElem?_eq_some_iff.1 hi).1
  obtain ⟨e0, e1, e2, e3, e4, e5, e6, e7⟩ := clOls_at hi
  rw [← hc] at e0 e1 e2 e3 e4 e5 e6 e7
  have get : ∀ (j : Nat) (x : Value), j < L.length * 8 → (cur.toList.take (L.length * 8))[j]? = some x → W.cell? ⟨G, j, none⟩ = some x := fun j x hj hx => by
    rw [List.getElem?_take_of_lt hj, Array.getElem?_toList] at hx
    simp [World.cell?, h, hx]
  refine ⟨?_, ?_, ?_, ?_, ?_, ?_, ?_, ?_⟩
  · rw [Nat.zero_add]
    exact get _ _ (by omega) e0
  · rw [Nat.zero_add]
    exact get _ _ (by omega) e1
  · rw [Nat.zero_add]
    exact get _ _ (by omega) e2
  · rw [Nat.zero_add]
    exact get _ _ (by omega) e3
  · rw [Nat.zero_add]
    exact get _ _ (by omega) e4
  · rw [Nat.zero_add]
    exact get _ _ (by omega) e5
  · rw [Nat.zero_add]
    exact get _ _ (by omega) e6
  · rw [Nat.zero_add]
    exact get _ _ (by omega) e7
theorem info8 : (Try.prog.info? 31).map (·.size) = some 8 := by kernel_rfl
theorem run_copy8 (w : World) (ty g o dLen dCap : Nat) (a : Addr) (sLen sCap : Nat) (cur : Array Value) (cs : List Value)
    (hg : w.heap[g]? = some (.cells cur 31)) (hn : cs.length = Nat.min sLen dLen * 8) (hsrc : ∀ j v, cs[j]? = some v → w.cell? (a.add j) = some v) (hfit : o + cs.length ≤ cur.size) (h1 : ∀ v ∈ cs, v.oneCell' = true) :
    (Builtin.copy_ #[23, 23] ty #[.slice (some ⟨g, o, none⟩) dLen dCap, .slice (some a) sLen sCap]).run Try.prog w =
      .ok (goInt (Nat.min sLen dLen)) (w.setRow g (cur.toList.take o ++ cs ++ cur.toList.drop (o + cs.length)).toArray) := by
  have hl := run_loadCells_list (P := Try.prog) w a cs hsrc
  have hst := run_storeCells_at Try.prog g o 31 cs 0 cur w hg (by simpa using hfit) h1
  have hs := info8
  cases hq : Try.prog.info? 31 with
  | none => simp [hq] at hs
  | some i =>
    have hi : i.size = 8 := by simpa [hq] using hs
    simp [Builtin.copy_, run_underlying Try.underlying23, Builtin.lenOf, Builtin.firstCells, sizeOf, typeInfo, hq, hi, ← hn, hl, hst]
theorem wpList_copyR {ops : Array Oper} {rest : List Oper} {o : Oper} {a : Act} {Q : Exit → Act → World → Prop} {w : World} (hgd : o.guard = none) (d s : Operand)
    (ho : o.op = .call { callee := .builtin .copy, args := #[d, s], argTypes := #[23, 23] }) (v u : Value) (hd : a.eval d = v) (hs : a.eval s = u) {v' : Value} {w' : World}
    (hr : (Builtin.copy_ #[23, 23] o.type #[v, u]).run Try.prog w = .ok v' w') (h : wpList Try.prog ops Q rest (a.put o.dst v') w') : wpList Try.prog ops Q (o :: rest) a w :=
  wpList_plain hgd fun _ hK => by
    unfold Oper.wp execOp
    simp only [ho, resolve, invoke, builtin, Sem.run_bind, Sem.run_pure, Result.andThen_ok, List.map_toArray, List.map_cons, List.map_nil, hd, hs, hr]
    exact hK _ _ h
theorem step_copyR {ops : Array Oper} {o : Oper} {a : Act} {w : World} {K : Act → World → Prop} {Q : Exit → Act → World → Prop} {E : Prop} (hgd : o.guard = none) (d s : Operand)
    (ho : o.op = .call { callee := .builtin .copy, args := #[d, s], argTypes := #[23, 23] }) (v u : Value) (hd : a.eval d = v) (hs : a.eval s = u) {v' : Value} {w' : World}
    (hr : (Builtin.copy_ #[23, 23] o.type #[v, u]).run Try.prog w = .ok v' w') (h : K (a.put o.dst v') w') : if Region.wanted o (yielded ops a.tmps) = true then Oper.wp Try.prog o a w K Q else E := by
  have hw : Region.wanted o (yielded ops a.tmps) = true := by simp [Region.wanted, hgd]
  rw [if_pos hw]
  unfold Oper.wp
  simp [execOp, ho, resolve, invoke, builtin, hd, hs, hr, Result.andThen]
  exact h
theorem wpList_appR {ops : Array Oper} {rest : List Oper} {o : Oper} {a : Act} {Q : Exit → Act → World → Prop} {w : World} (hgd : o.guard = none) (d s : Operand)
    (ho : o.op = .call { callee := .builtin .append, args := #[d, s], argTypes := #[23, 3] }) (v u : Value) (hd : a.eval d = v) (hs : a.eval s = u) {v' : Value} {w' : World}
    (hr : (Builtin.append_ #[23, 3] o.type #[v, u]).run Try.prog w = .ok v' w') (h : wpList Try.prog ops Q rest (a.put o.dst v') w') : wpList Try.prog ops Q (o :: rest) a w :=
  wpList_plain hgd fun _ hK => by
    unfold Oper.wp execOp
    simp only [ho, resolve, invoke, builtin, Sem.run_bind, Sem.run_pure, Result.andThen_ok, List.map_toArray, List.map_cons, List.map_nil, hd, hs, hr]
    exact hK _ _ h
theorem size_zeroCells (z : Array Value) (n : Nat) : (Builtin.zeroCells z n).size = n * z.size := by simp [Builtin.zeroCells]
/-- append(s[:i], make(S, k)...) where there is no room. -/
theorem run_appZ (w : World) (ty g i k C : Nat) (rs : List OLn) (hc : ∀ j v, (clOls rs)[j]? = some v → w.cell? ⟨g, j, none⟩ = some v) (hi : i ≤ rs.length) (hk : 0 < k) (hC : C < i + k) (hb : i + k ≤ 100000) :
    ∃ (cap : Nat) (R : Array Value), i + k ≤ cap ∧ R.size = cap * 8 ∧ R.toList.take (i * 8) = (clOls rs).take (i * 8) ∧ (Builtin.append_ #[23, 3] ty #[.slice (some ⟨g, 0, none⟩) i C, .int .i64 (k : Int)]).run Try.prog w = .ok (.slice (some ⟨w.heap.size, 0, none⟩) (i + k) cap) (w.drew.alloc (.cells R 31)) := by
  obtain ⟨i0, hi0, hz0, hz1, hz2⟩ := info_parts infoOlA
  have hlen : ((clOls rs).take (i * 8)).length = i * 8 := by rw [List.length_take, clOls_len]; omega
  have hold : (Builtin.firstCells i0.size i (.slice (some ⟨g, 0, none⟩) i C)).run Try.prog w.drew = .ok ((clOls rs).take (i * 8)).toArray w.drew := by
    have := run_loadCells_list (P := Try.prog) w.drew ⟨g, 0, none⟩ ((clOls rs).take (i * 8)) (fun j v hj => by
      rw [fl_addr, Nat.zero_add]
      rw [List.getElem?_take] at hj
      split at hj
      · exact hc j v hj
      · cases hj)
    rw [hlen] at this
    rw [hz1]
    exact this
  have hnx : Builtin.nextslicecap (i + k) C * i0.bytes ≤ 281474976710656 := by
    rw [hz2]
    have := nextslicecap_le hC
    omega
  have hr := Lib.run_append_grow_zeros (P := Try.prog) w 23 3 ty 31 i0 (.agg #[.string ⟨#[]⟩, .string ⟨#[]⟩, .int .i64 0, .string ⟨#[]⟩, .int .i64 0, .int .i64 0, .int .i64 0, .int .i64 0]) .i64 .i64 Try.underlying23 Try.underlying3 hi0 hz0 (some ⟨g, 0, none⟩) i C ((clOls rs).take (i * 8)) hold k hk (by rw [hz1]; omega) hC (by omega) (by rw [hz2]; omega) hnx
  refine ⟨_, _, grownCap_ge w (i + k) C 31, ?_, ?_, hr⟩
  · have hge := grownCap_ge w (i + k) C 31
    simp only [Array.size_append, size_zeroCells, List.size_toArray, hlen]
    have e8 : (Value.agg #[.string ⟨#[]⟩, .string ⟨#[]⟩, .int .i64 0, .string ⟨#[]⟩, .int .i64 0, .int .i64 0, .int .i64 0, .int .i64 0]).cells.size = 8 := rfl
    rw [e8]
    omega
  · simp only [Array.toList_append]
    rw [List.append_assoc, List.take_append_of_le_length (by omega), List.take_of_length_le (by omega)]
end Go.Proofs.Ytppfobeencnbdaa
