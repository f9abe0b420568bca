/- Texts of ours put together: PtI. -/
import Derived.Test.YtkgkahlhekecmaaGreatG28
import Derived.Test.YtkgkahlhekecmaaGreatG20
import Derived.Laws.CopyRow
import Derived.Lib.AppendZerosOnto
import Derived.Lib.Overlaps
import Derived.Laws.AppendOwn
import Derived.Deep.AppendLies
import Derived.BigFrame
import Derived.Deep.RegionLaw
import Derived.Laws.Externs
namespace Go.Proofs.YtkgkahlhekecmaaGreat
open Go.ChangeShapes Go.WideShapes Go.ChangeAt Go.RowKit
set_option linter.unusedVariables false
theorem clPs_take : ∀ (rs : List (Ptn × Value)) (i : Nat), clPs (rs.take i) = (clPs rs).take (i * 4)
  | [], i => by simp [clPs]
  | x :: r, 0 => by simp [clPs]
  | x :: r, i + 1 => by
    have e1 : clPs ((x :: r).take (i + 1)) = clP x ++ clPs (r.take i) := rfl
    have e2 : clPs (x :: r) = clP x ++ clPs r := rfl
    have hl : (clP x).length = 4 := rfl
    have h3 : (clP x).take ((i + 1) * 4) = clP x := List.take_of_length_le (by omega)
    rw [e1, e2, clPs_take r i, List.take_append, hl, h3, show (i + 1) * 4 - 4 = i * 4 by omega]
theorem clPs_drop : ∀ (rs : List (Ptn × Value)) (i : Nat), clPs (rs.drop i) = (clPs rs).drop (i * 4)
  | [], i => by simp [clPs]
  | x :: r, 0 => by simp
  | x :: r, i + 1 => by
    have e1 : clPs ((x :: r).drop (i + 1)) = clPs (r.drop i) := rfl
    have e2 : clPs (x :: r) = clP x ++ clPs r := rfl
    have hl : (clP x).length = 4 := rfl
    have h3 : (clP x).drop ((i + 1) * 4) = [] := List.drop_of_length_le (by omega)
    rw [e1, e2, clPs_drop r i, List.drop_append, hl, h3, show (i + 1) * 4 - 4 = i * 4 by omega, List.nil_append]
theorem clPs_one {qs : List (Ptn × Value)} (h : ∀ q ∈ qs, q.2.oneCell' = true) : ∀ v ∈ clPs qs, v.oneCell' = true := fun v hv => by
  obtain ⟨q, hq, hv⟩ := List.mem_flatMap.1 hv
  simp only [clP, List.mem_cons, List.not_mem_nil, or_false] at hv
  rcases hv with rfl | rfl | rfl | rfl
  · rfl
  · rfl
  · rfl
  · exact h q hq
theorem own_one {W : World} {base e size n : Nat} {v : Value} {xs : List Value} (h : W.ownsRow base e size v n xs) : v.oneCell' = true := by
  rcases h.2 with ⟨rfl, _⟩ | ⟨g, cap, cur, rfl, _⟩ <;> rfl
/-- A list put together: what stands ahead of i, one more, what stands from i on. -/
def insQ (rs : List (Ptn × Value)) (i : Nat) (l : Ptn × Value) : List (Ptn × Value) := rs.take i ++ l :: rs.drop i
theorem insQ_cells (rs : List (Ptn × Value)) (i : Nat) (l : Ptn × Value) : clPs (insQ rs i l) = (clPs rs).take (i * 4) ++ (clP l ++ (clPs rs).drop (i * 4)) := by
  have e : clPs (insQ rs i l) = clPs (rs.take i) ++ (clP l ++ clPs (rs.drop i)) := by simp [insQ, clPs]
  rw [e, clPs_take, clPs_drop]
theorem insQ_len (rs : List (Ptn × Value)) (i : Nat) (l : Ptn × Value) (hi : i ≤ rs.length) : (insQ rs i l).length = rs.length + 1 := by
  simp [insQ]
  omega
theorem insQ_mem {rs : List (Ptn × Value)} {i : Nat} {l x : Ptn × Value} (h : x ∈ insQ rs i l) : x = l ∨ x ∈ rs := by
  rcases List.mem_append.1 h with h | h
  · exact .inr (List.mem_of_mem_take h)
  · rcases List.mem_cons.1 h with h | h
    · exact .inl h
    · exact .inr (List.mem_of_mem_drop h)
theorem infoP4 : (Tryz.prog.info? 63).map (·.size) = some 4 := by kernel_rfl
theorem run_copyP (w : World) (ty g o dLen dCap : Nat) (a : Addr) (sLen sCap : Nat) (cur : Array Value) (cs : List Value)
    (hg : w.heap[g]? = some (.cells cur 63)) (hn : cs.length = Nat.min sLen dLen * 4) (hsrc : ∀ j v, cs[j]? = some v → w.cell? (a.add j) = some v) (hfit : o + cs.length ≤ cur.size) (h1 : ∀ v ∈ cs, v.oneCell' = true) :
    (Builtin.copy_ #[33, 33] ty #[.slice (some ⟨g, o, none⟩) dLen dCap, .slice (some a) sLen sCap]).run Tryz.prog w =
      .ok (goInt (Nat.min sLen dLen)) (w.setRow g (cur.toList.take o ++ cs ++ cur.toList.drop (o + cs.length)).toArray) := by
  have hl := run_loadCells_list (P := Tryz.prog) w a cs hsrc
  have hst := run_storeCells_at Tryz.prog g o 63 cs 0 cur w hg (by simpa using hfit) h1
  have hs := infoP4
  cases hq : Tryz.prog.info? 63 with
  | none => simp [hq] at hs
  | some i =>
    have hi : i.size = 4 := by simpa [hq] using hs
    simp [Builtin.copy_, run_underlying Tryz.underlying33, Builtin.lenOf, Builtin.firstCells, sizeOf, typeInfo, hq, hi, ← hn, hl, hst]
theorem wpList_copyP {ops : Array Oper} {rest : List Oper} {o : Oper} {a : Act} {Q : Exit → Act → World → Prop} {w : World} (hgd : o.guard = none) (d s : Operand)
    (ho : o.op = .call { callee := .builtin .copy, args := #[d, s], argTypes := #[33, 33] }) (v u : Value) (hd : a.eval d = v) (hs : a.eval s = u) {v' : Value} {w' : World}
    (hr : (Builtin.copy_ #[33, 33] o.type #[v, u]).run Tryz.prog w = .ok v' w') (h : wpList Tryz.prog ops Q rest (a.put o.dst v') w') : wpList Tryz.prog ops Q (o :: rest) a w :=
  wpList_plain hgd fun _ hK => by
    unfold Oper.wp execOp
    simp only [ho, resolve, invoke, builtin, Sem.run_bind, Sem.run_pure, Result.andThen_ok, List.map_toArray, List.map_cons, List.map_nil, hd, hs, hr]
    exact hK _ _ h
theorem step_copyP {ops : Array Oper} {o : Oper} {a : Act} {w : World} {K : Act → World → Prop} {Q : Exit → Act → World → Prop} {E : Prop} (hgd : o.guard = none) (d s : Operand)
    (ho : o.op = .call { callee := .builtin .copy, args := #[d, s], argTypes := #[33, 33] }) (v u : Value) (hd : a.eval d = v) (hs : a.eval s = u) {v' : Value} {w' : World}
    (hr : (Builtin.copy_ #[33, 33] o.type #[v, u]).run Tryz.prog w = .ok v' w') (h : K (a.put o.dst v') w') : if Region.wanted o (yielded ops a.tmps) = true then Oper.wp Tryz.prog o a w K Q else E := by
  have hw : Region.wanted o (yielded ops a.tmps) = true := by simp [Region.wanted, hgd]
  rw [if_pos hw]
  unfold Oper.wp
  simp [execOp, ho, resolve, invoke, builtin, hd, hs, hr, Result.andThen]
  exact h
theorem wpList_appZP {ops : Array Oper} {rest : List Oper} {o : Oper} {a : Act} {Q : Exit → Act → World → Prop} {w : World} (hgd : o.guard = none) (d s : Operand)
    (ho : o.op = .call { callee := .builtin .append, args := #[d, s], argTypes := #[33, 3] }) (v u : Value) (hd : a.eval d = v) (hs : a.eval s = u) {v' : Value} {w' : World}
    (hr : (Builtin.append_ #[33, 3] o.type #[v, u]).run Tryz.prog w = .ok v' w') (h : wpList Tryz.prog ops Q rest (a.put o.dst v') w') : wpList Tryz.prog ops Q (o :: rest) a w :=
  wpList_plain hgd fun _ hK => by
    unfold Oper.wp execOp
    simp only [ho, resolve, invoke, builtin, Sem.run_bind, Sem.run_pure, Result.andThen_ok, List.map_toArray, List.map_cons, List.map_nil, hd, hs, hr]
    exact hK _ _ h
theorem size_zeroP (z : Array Value) (n : Nat) : (Builtin.zeroCells z n).size = n * z.size := by simp [Builtin.zeroCells]
/-- append(s[:i], make(S, k)...) where there is no room. -/
theorem run_appZP (w : World) (ty g i k C : Nat) (rs : List (Ptn × Value)) (hc : ∀ j v, (clPs rs)[j]? = some v → w.cell? ⟨g, j, none⟩ = some v) (hi : i ≤ rs.length) (hk : 0 < k) (hC : C < i + k) (hb : i + k ≤ 100000) :
    ∃ (cap : Nat) (R : Array Value), i + k ≤ cap ∧ cap ≤ maxLen ∧ R.size = cap * 4 ∧ R.toList.take (i * 4) = (clPs rs).take (i * 4) ∧ (Builtin.append_ #[33, 3] ty #[.slice (some ⟨g, 0, none⟩) i C, .int .i64 (k : Int)]).run Tryz.prog w = .ok (.slice (some ⟨w.heap.size, 0, none⟩) (i + k) cap) (w.drew.alloc (.cells R 63)) := by
  obtain ⟨i0, hi0, hz0, hz1, hz2⟩ := info_parts infoPtA
  have hlen : ((clPs rs).take (i * 4)).length = i * 4 := by rw [List.length_take, clPs_len]; omega
  have hold : (Builtin.firstCells i0.size i (.slice (some ⟨g, 0, none⟩) i C)).run Tryz.prog w.drew = .ok ((clPs rs).take (i * 4)).toArray w.drew := by
    have := run_loadCells_list (P := Tryz.prog) w.drew ⟨g, 0, none⟩ ((clPs rs).take (i * 4)) (fun j v hj => by
      rw [fl_addr, Nat.zero_add]
      rw [List.getElem?_take] at hj
      split at hj
      · exact hc j v hj
      · cases hj)
    rw [hlen] at this
    rw [hz1]
    exact this
  have hnx : Builtin.nextslicecap (i + k) C * i0.bytes ≤ 281474976710656 := by
    rw [hz2]
    have := nextslicecap_le hC
    omega
  have hr := Lib.run_append_grow_zeros (P := Tryz.prog) w 33 3 ty 63 i0 (.agg #[.string ⟨#[]⟩, .int .i64 0, .int .i64 0, .slice none 0 0]) .i64 .i64 Tryz.underlying33 Tryz.underlying3 hi0 hz0 (some ⟨g, 0, none⟩) i C ((clPs rs).take (i * 4)) hold k hk (by rw [hz1]; omega) hC (by omega) (by rw [hz2]; omega) hnx
  refine ⟨_, _, grownCap_ge w (i + k) C 63, grownCap_le_maxLen w (i + k) C 63 (by unfold maxLen; omega), ?_, ?_, hr⟩
  · have hge := grownCap_ge w (i + k) C 63
    simp only [Array.size_append, size_zeroP, List.size_toArray, hlen]
    have e8 : (Value.agg #[.string ⟨#[]⟩, .int .i64 0, .int .i64 0, .slice none 0 0]).cells.size = 4 := rfl
    rw [e8]
    omega
  · simp only [Array.toList_append]
    rw [List.append_assoc, List.take_append_of_le_length (by omega), List.take_of_length_le (by omega)]
theorem cellsOfP {w : World} {g : Nat} {cur : Array Value} {rs : List (Ptn × Value)} (hg : w.heap[g]? = some (.cells cur 63)) (ht : cur.toList.take (rs.length * 4) = clPs rs) : ∀ j v, (clPs rs)[j]? = some v → w.cell? ⟨g, j, none⟩ = some v := fun j v hj => by
  rw [← ht, List.getElem?_take] at hj
  split at hj
  · rw [Array.getElem?_toList] at hj
    simp [World.cell?, hg, hj]
  · cases hj
theorem grown_row {w0 w : World} {g : Nat} (hb : w0.grownBy w (some g)) (cs : Array Value) : w0.grownBy (w.setRow g cs) (some g) :=
  ⟨hb.os, hb.tape, hb.output, by simpa [World.setRow] using hb.size, fun k hk hne => (setRow_other w g k cs (fun e => hne (by rw [e]))).trans (hb.block k hk hne)⟩
theorem lists_shiftP {cur X E : List Value} {n i : Nat} (hX : cur.take (n * 4) = X) (hXl : X.length = n * 4) (hE : E.length = 4) (hi : i < n) (hl : (n + 1) * 4 ≤ cur.length) :
    ((((cur.take ((i + 1) * 4) ++ X.drop (i * 4) ++ cur.drop ((i + 1) * 4 + (X.drop (i * 4)).length)).take (i * 4) ++ E ++ (cur.take ((i + 1) * 4) ++ X.drop (i * 4) ++ cur.drop ((i + 1) * 4 + (X.drop (i * 4)).length)).drop (i * 4 + E.length)).take ((n + 1) * 4))) = X.take (i * 4) ++ (E ++ X.drop (i * 4)) := by
  have hd : (X.drop (i * 4)).length = n * 4 - i * 4 := by rw [List.length_drop, hXl]
  have ht1 : (cur.take ((i + 1) * 4)).length = (i + 1) * 4 := by rw [List.length_take]; omega
  have e1 : (cur.take ((i + 1) * 4) ++ X.drop (i * 4) ++ cur.drop ((i + 1) * 4 + (X.drop (i * 4)).length)).take (i * 4) = X.take (i * 4) := by
    rw [List.append_assoc, List.take_append_of_le_length (by omega), List.take_take, ← hX, List.take_take]
    congr 1
    omega
  have e2 : (cur.take ((i + 1) * 4) ++ X.drop (i * 4) ++ cur.drop ((i + 1) * 4 + (X.drop (i * 4)).length)).drop (i * 4 + E.length) = X.drop (i * 4) ++ cur.drop ((i + 1) * 4 + (X.drop (i * 4)).length) := by
    rw [List.append_assoc, hE, show i * 4 + 4 = (cur.take ((i + 1) * 4)).length by omega, List.drop_left']
    rfl
  rw [e1, e2]
  have ht2 : (X.take (i * 4)).length = i * 4 := by rw [List.length_take, hXl]; omega
  rw [List.append_assoc, ← List.append_assoc E, ← List.append_assoc, List.take_append_of_le_length (by simp only [List.length_append]; omega), List.take_of_length_le (by simp only [List.length_append]; omega)]
theorem lists_growP {R X E : List Value} {n i : Nat} (hR : R.take (i * 4) = X.take (i * 4)) (hXl : X.length = n * 4) (hE : E.length = 4) (hi : i < n) (hl : (n + 1) * 4 ≤ R.length) :
    ((((R.take (i * 4) ++ E ++ R.drop (i * 4 + E.length)).take ((i + 1) * 4) ++ X.drop (i * 4) ++ (R.take (i * 4) ++ E ++ R.drop (i * 4 + E.length)).drop ((i + 1) * 4 + (X.drop (i * 4)).length)).take ((n + 1) * 4))) = X.take (i * 4) ++ (E ++ X.drop (i * 4)) := by
  have hd : (X.drop (i * 4)).length = n * 4 - i * 4 := by rw [List.length_drop, hXl]
  have ht1 : (R.take (i * 4)).length = i * 4 := by rw [List.length_take]; omega
  have e1 : (R.take (i * 4) ++ E ++ R.drop (i * 4 + E.length)).take ((i + 1) * 4) = X.take (i * 4) ++ E := by
    rw [List.take_append_of_le_length (by simp only [List.length_append]; omega), List.take_of_length_le (by simp only [List.length_append]; omega), hR]
  rw [e1]
  have ht2 : (X.take (i * 4)).length = i * 4 := by rw [List.length_take, hXl]; omega
  rw [List.take_append_of_le_length (by simp only [List.length_append]; omega), List.take_of_length_le (by simp only [List.length_append]; omega), List.append_assoc]
theorem below_rowP {B g : Nat} {w0 w : World} (hb : Below B w0 w) (hBg : B ≤ g) (cs : Array Value) : Below B w0 (w.setRow g cs) :=
  hb.trans ⟨rfl, rfl, rfl, by simp [World.setRow], fun k hk => setRow_other w g k cs (by omega)⟩
theorem ownQ {base g i C : Nat} {w w' : World} {v : Value} {rs : List (Ptn × Value)} {l : Ptn × Value} (ho : OwnP base w (.slice (some ⟨g, 0, none⟩) rs.length C) rs) (hq : w.ownsRow base 148 3 l.2 l.1.seen.length (clSns l.1.seen)) (ha : ∀ y ∈ rs, ∀ g, y.2.ownBlock = some g → l.2.ownBlock ≠ some g) (hgr : w.grownBy w' (some g)) (hrow : w'.ownsRow base 63 4 v (insQ rs i l).length (clPs (insQ rs i l))) : OwnP base w' v (insQ rs i l) := by
  have hne : 148 ≠ 63 := by decide
  refine ⟨hrow, fun y hy => ?_, ?_⟩
  · rcases insQ_mem hy with rfl | hy
    · exact hq.kept hgr (own_ne hq ho.row hne)
    · exact (ho.sn y hy).kept hgr (own_ne (ho.sn y hy) ho.row hne)
  · have hp := ho.ap
    rw [← List.take_append_drop i rs, List.pairwise_append] at hp
    obtain ⟨h1, h2, h3⟩ := hp
    unfold insQ
    refine List.pairwise_append.2 ⟨h1, List.pairwise_cons.2 ⟨fun b hb g e1 e2 => ha b (List.mem_of_mem_drop hb) g e2 e1, h2⟩, fun a ha' b hb => ?_⟩
    rcases List.mem_cons.1 hb with rfl | hb
    · exact ha a (List.mem_of_mem_take ha')
    · exact h3 a ha' b hb
set_option maxHeartbeats 4000000 in
set_option maxRecDepth 100000 in
theorem insertP_end (rs : List (Ptn × Value)) (l : Ptn × Value) (g c C base : Nat) (cur : Array Value) (w : World) (hg : w.heap[g]? = some (.cells cur 63)) (hcur : cur.size = C * 4) (hC : rs.length ≤ C) (hC2 : C ≤ 9223372036854775807) (ht : cur.toList.take (rs.length * 4) = clPs rs)
    (hc : w.heap[c]? = some (.cells #[.string l.1.name, .int .i64 l.1.low, .int .i64 l.1.next, l.2] 63)) (hgc : c ≠ g) (hbg : base ≤ g) (hbw : base ≤ w.heap.size) (hn : rs.length ≤ 1000) (ho : OwnP base w (.slice (some ⟨g, 0, none⟩) rs.length C) rs) (hq : w.ownsRow base 148 3 l.2 l.1.seen.length (clSns l.1.seen)) (ha : ∀ y ∈ rs, ∀ g, y.2.ownBlock = some g → l.2.ownBlock ≠ some g) :
    Calls Tryz.prog 71 #[.slice (some ⟨g, 0, none⟩) rs.length C, .int .i64 (rs.length : Int), .slice (some ⟨c, 0, none⟩) 1 1] w fun e w' => ∃ A' C', e = .returned (.slice A' (rs.length + 1) C') ∧ OwnP base w' (.slice A' (rs.length + 1) C') (insQ rs rs.length l) ∧ w.grownBy w' (some g) := by
  have hat : w.cell? ⟨c, 0, none⟩ = some (.string l.1.name) ∧ w.cell? ⟨c, 1, none⟩ = some (.int .i64 l.1.low) ∧ w.cell? ⟨c, 2, none⟩ = some (.int .i64 l.1.next) ∧ w.cell? ⟨c, 3, none⟩ = some l.2 := by
    refine ⟨?_, ?_, ?_, ?_⟩ <;> simp [World.cell?, hc]
  have HO : Hid (OwnP base w (.slice (some ⟨g, 0, none⟩) rs.length C) rs) := ho
  have HQ : Hid (w.ownsRow base 148 3 l.2 l.1.seen.length (clSns l.1.seen) ∧ ∀ y ∈ rs, ∀ g, y.2.ownBlock = some g → l.2.ownBlock ≠ some g) := ⟨hq, ha⟩
  clear ho hq ha ht hcur hg hc
  by_cases hcc : C = rs.length
  · subst hcc
    go_enter Tryz.func71, Tryz.ntmps71
    go_wp2_with (first | (at_builtin; refine wpList_appP rfl _ _ rfl rfl rfl HO.out hat HQ.out.1 HQ.out.2 (own_one HQ.out.1) (by omega) hbw ?_; rintro v' w' hown' hgrow ⟨A1, C1, rfl⟩))
    go_ret
    have e : insQ rs rs.length l = rs ++ [l] := by simp [insQ]
    have e3 : (rs ++ [l]).length = rs.length + 1 := by simp
    rw [e]
    rw [e3] at hown'
    exact ⟨_, _, rfl, hown', hgrow⟩
  · have hcc' : ¬ C = rs.length := hcc
    go_enter Tryz.func71, Tryz.ntmps71
    go_wp2_with (first | (at_builtin; refine wpList_appP rfl _ _ rfl rfl rfl HO.out hat HQ.out.1 HQ.out.2 (own_one HQ.out.1) (by omega) hbw ?_; rintro v' w' hown' hgrow ⟨A1, C1, rfl⟩))
    go_ret
    have e : insQ rs rs.length l = rs ++ [l] := by simp [insQ]
    have e3 : (rs ++ [l]).length = rs.length + 1 := by simp
    rw [e]
    rw [e3] at hown'
    exact ⟨_, _, rfl, hown', hgrow⟩
set_option maxHeartbeats 4000000 in
set_option maxRecDepth 100000 in
theorem insertP_shift (rs : List (Ptn × Value)) (l : Ptn × Value) (g c i C base : Nat) (cur : Array Value) (w : World) (hg : w.heap[g]? = some (.cells cur 63)) (hcur : cur.size = C * 4) (hC : rs.length ≤ C) (hC2 : C ≤ 9223372036854775807) (ht : cur.toList.take (rs.length * 4) = clPs rs)
    (hc : w.heap[c]? = some (.cells #[.string l.1.name, .int .i64 l.1.low, .int .i64 l.1.next, l.2] 63)) (hgc : c ≠ g) (hbg : base ≤ g) (hbw : base ≤ w.heap.size) (hn : rs.length ≤ 1000) (ho : OwnP base w (.slice (some ⟨g, 0, none⟩) rs.length C) rs) (hq : w.ownsRow base 148 3 l.2 l.1.seen.length (clSns l.1.seen)) (ha : ∀ y ∈ rs, ∀ g, y.2.ownBlock = some g → l.2.ownBlock ≠ some g) (hi : i < rs.length) (hroom : rs.length + 1 ≤ C) :
    Calls Tryz.prog 71 #[.slice (some ⟨g, 0, none⟩) rs.length C, .int .i64 (i : Int), .slice (some ⟨c, 0, none⟩) 1 1] w fun e w' => ∃ A' C', e = .returned (.slice A' (rs.length + 1) C') ∧ OwnP base w' (.slice A' (rs.length + 1) C') (insQ rs i l) ∧ w.grownBy w' (some g) := by
  have hcl := clPs_len rs
  have hcs := cellsOfP hg ht
  have hsa : w.shape? c = some (63, 4) := by simp [World.shape?, hc]
  have hsb : w.shape? g = some (63, C * 4) := by simp [World.shape?, hg, hcur]
  have hfa : w.frozen? ⟨c, 0, none⟩ = false := by simp [World.frozen?, hc]
  have hfe : w.frozen? ⟨c, 4, none⟩ = false := by simp [World.frozen?, hc]
  have hov : ∀ lb cb, (callFunc 116 #[.slice (some ⟨c, 0, none⟩) 1 1, .slice (some ⟨g, (i + 1) * 4, none⟩) lb cb]).run Tryz.prog w = .ok (.value (.bool false)) w := fun lb cb => by
    rw [run_callFunc_extern Tryz.func116 (by kernel_rfl) (by kernel_rfl) (by kernel_rfl) (e := Extern.SlicesOverlaps.overlaps #[33, 33] #[4]) (by kernel_rfl),
      Lib.run_overlaps_apart w 33 4 63 Tryz.underlying33 4 Tryz.sizeOf63 ⟨c, 0, none⟩ ⟨g, (i + 1) * 4, none⟩ 1 1 lb cb hgc 63 63 4 (C * 4) hsa hsb (by omega) hfa hfe]
    rfl
  have hdl : ((clPs rs).drop (i * 4)).length = (rs.length - i) * 4 := by rw [List.length_drop, hcl]; omega
  obtain ⟨R1, hR1⟩ : ∃ R1 : List Value, R1 = cur.toList.take ((i + 1) * 4) ++ (clPs rs).drop (i * 4) ++ cur.toList.drop ((i + 1) * 4 + ((clPs rs).drop (i * 4)).length) := ⟨_, rfl⟩
  obtain ⟨W1, hW1⟩ : ∃ W1, W1 = w.drew.setRow g R1.toArray := ⟨_, rfl⟩
  have hcl2 : cur.toList.length = C * 4 := by simpa using hcur
  have hR1l : R1.length = C * 4 := by
    rw [hR1]
    simp only [List.length_append, List.length_take, List.length_drop, hcl2, hcl]
    omega
  have hcp1 : ∀ ty dc sc, (Builtin.copy_ #[33, 33] ty #[.slice (some ⟨g, (i + 1) * 4, none⟩) (rs.length - i) dc, .slice (some ⟨g, i * 4, none⟩) (rs.length + 1 - i) sc]).run Tryz.prog w.drew = .ok (goInt (Nat.min (rs.length + 1 - i) (rs.length - i))) W1 := fun ty dc sc => by
    rw [hW1, hR1]
    exact run_copyP w.drew ty g ((i + 1) * 4) (rs.length - i) dc ⟨g, i * 4, none⟩ (rs.length + 1 - i) sc cur ((clPs rs).drop (i * 4)) hg (by rw [hdl]; congr 1; simp only [Nat.min_def]; split <;> omega)
      (fun j v hj => by rw [fl_addr]; exact hcs _ v (by rwa [List.getElem?_drop] at hj)) (by rw [hdl, hcur]; omega) (fun v hv => clPs_one (fun q hq' => own_one (ho.sn q hq')) v (List.mem_of_mem_drop hv))
  have hg1 : W1.heap[g]? = some (.cells R1.toArray 63) := by rw [hW1]; exact setRow_heap w.drew g cur _ 63 _ hg
  have hc1 : W1.heap[c]? = some (.cells #[.string l.1.name, .int .i64 l.1.low, .int .i64 l.1.next, l.2] 63) := by rw [hW1, setRow_other _ _ _ _ hgc]; exact hc
  obtain ⟨R2, hR2⟩ : ∃ R2 : List Value, R2 = R1.take (i * 4) ++ clP l ++ R1.drop (i * 4 + (clP l).length) := ⟨_, rfl⟩
  obtain ⟨W2, hW2⟩ : ∃ W2, W2 = W1.setRow g R2.toArray := ⟨_, rfl⟩
  have hel : (clP l).length = 4 := rfl
  have hcp2 : ∀ ty dc, (Builtin.copy_ #[33, 33] ty #[.slice (some ⟨g, i * 4, none⟩) (rs.length + 1 - i) dc, .slice (some ⟨c, 0, none⟩) 1 1]).run Tryz.prog W1 = .ok (goInt (Nat.min 1 (rs.length + 1 - i))) W2 := fun ty dc => by
    rw [hW2, hR2]
    have := run_copyP W1 ty g (i * 4) (rs.length + 1 - i) dc ⟨c, 0, none⟩ 1 1 R1.toArray (clP l) hg1 (by rw [hel]; simp only [Nat.min_def]; split <;> omega) (fun j v hj => by
      rw [fl_addr, Nat.zero_add]
      simp only [World.cell?, hc1]
      simpa [clP] using hj) (by rw [hel]; simp only [List.size_toArray]; omega) (fun v hv => clPs_one (qs := [l]) (fun q hq' => by rw [List.mem_singleton.1 hq']; exact own_one hq) v (by simpa [clPs] using hv))
    simpa using this
  have hR2l : R2.length = C * 4 := by
    rw [hR2]
    simp only [List.length_append, List.length_take, List.length_drop, hR1l, hel]
    omega
  have hlen := insQ_len rs i l (by omega)
  have hgr : w.grownBy W2 (some g) := by
    rw [hW2, hW1]
    exact grown_row (grown_row (show w.grownBy w.drew (some g) from ⟨rfl, rfl, rfl, Nat.le_refl _, fun _ _ _ => rfl⟩) _) _
  have hrow : W2.ownsRow base 63 4 (.slice (some ⟨g, 0, none⟩) (rs.length + 1) C) (rs.length + 1) (clPs (insQ rs i l)) := ⟨by rw [clPs_len, hlen], .inr ⟨g, C, R2.toArray, rfl, hbg, by rw [hW2]; exact setRow_heap W1 g _ _ 63 _ hg1, hroom, by unfold maxLen; omega, by simpa using hR2l, by
    rw [insQ_cells]
    rw [hR2, hR1]
    exact lists_shiftP ht hcl hel hi (by rw [hcl2]; omega)⟩⟩
  have HF : Hid ((insQ rs i l).length = rs.length + 1 ∧ OwnP base W2 (.slice (some ⟨g, 0, none⟩) (rs.length + 1) C) (insQ rs i l) ∧ w.grownBy W2 (some g)) := ⟨hlen, ownQ ho hq ha hgr (by rw [hlen]; exact hrow), hgr⟩
  clear ho hq ha hlen hgr hR2l
  clear hrow hW2 hR2 hg1 hc1 hR1 hcs ht hcur hg hc hsa hsb hfa hfe hdl hcl hcl2 hR1l hel
  have HW1 : Hid (W1 = w.drew.setRow g R1.toArray) := hW1
  clear hW1
  have hz2 : ¬ ((i : Int) = (rs.length : Int)) := by omega
  have hin : i ≤ rs.length := by omega
  have hb1 : (0 : Int) ≤ (i : Int) + 1 := by omega
  have hb2 : ¬ (C = i + 1) := by omega
  have hb3 : (i : Int) ≤ (rs.length : Int) + 1 := by omega
  have hb4 : ¬ (C = i) := by omega
  have hb5 : (i : Int) + 1 ≤ (rs.length : Int) + 1 := by omega
  have hb6 : ¬ ((C : Int) < (rs.length : Int) + 1) := by omega
  have htn : ((i : Int) + 1).toNat = i + 1 := by omega
  have hw1 : IntKind.i64.wrap ((i : Int) + 1) = (i : Int) + 1 := by rw [IntKind.wrap_i64]; omega
  go_enter Tryz.func71, Tryz.ntmps71
  go_wp2_with (simp only [hov])
  go_region_law (refine step_copyP rfl _ _ rfl _ _ (by simp [Act.eval, Act.put]) (by simp [Act.eval, Act.put]) (hcp1 _ _ _) ?_)
  go_wp2_with (at_builtin; refine wpList_copyP rfl _ _ rfl _ _ rfl rfl (hcp2 _ _) ?_)
  go_ret
  exact ⟨_, _, rfl, HF.out.2.1, HF.out.2.2⟩
set_option maxHeartbeats 4000000 in
set_option maxRecDepth 100000 in
theorem insertP_grow (rs : List (Ptn × Value)) (l : Ptn × Value) (g c i C base : Nat) (cur : Array Value) (w : World) (hg : w.heap[g]? = some (.cells cur 63)) (hcur : cur.size = C * 4) (hC : rs.length ≤ C) (hC2 : C ≤ 9223372036854775807) (ht : cur.toList.take (rs.length * 4) = clPs rs)
    (hc : w.heap[c]? = some (.cells #[.string l.1.name, .int .i64 l.1.low, .int .i64 l.1.next, l.2] 63)) (hgc : c ≠ g) (hbg : base ≤ g) (hbw : base ≤ w.heap.size) (hn : rs.length ≤ 1000) (ho : OwnP base w (.slice (some ⟨g, 0, none⟩) rs.length C) rs) (hq : w.ownsRow base 148 3 l.2 l.1.seen.length (clSns l.1.seen)) (ha : ∀ y ∈ rs, ∀ g, y.2.ownBlock = some g → l.2.ownBlock ≠ some g) (hi : i < rs.length) (hroom : C < rs.length + 1) :
    Calls Tryz.prog 71 #[.slice (some ⟨g, 0, none⟩) rs.length C, .int .i64 (i : Int), .slice (some ⟨c, 0, none⟩) 1 1] w fun e w' => ∃ A' C', e = .returned (.slice A' (rs.length + 1) C') ∧ OwnP base w' (.slice A' (rs.length + 1) C') (insQ rs i l) ∧ w.grownBy w' (some g) := by
  have hcl := clPs_len rs
  have hcs := cellsOfP hg ht
  have hdl : ((clPs rs).drop (i * 4)).length = (rs.length - i) * 4 := by rw [List.length_drop, hcl]; omega
  have hel : (clP l).length = 4 := rfl
  obtain ⟨cap, R, hcap, hcapM, hRs, hRt, happ⟩ := run_appZP w 33 g i (rs.length + 1 - i) C rs hcs (by omega) (by omega) (by omega) (by omega)
  have hkk : ((rs.length + 1 - i : Nat) : Int) = (rs.length : Int) + 1 - (i : Int) := by omega
  have hik : i + (rs.length + 1 - i) = rs.length + 1 := by omega
  rw [hkk, hik] at happ
  rw [hik] at hcap
  obtain ⟨G, hG⟩ : ∃ G, G = w.heap.size := ⟨_, rfl⟩
  obtain ⟨W2, hW2⟩ : ∃ W2, W2 = w.drew.alloc (.cells R 63) := ⟨_, rfl⟩
  rw [← hG, ← hW2] at happ
  have hgl := (Array.getElem?_eq_some_iff.1 hg).1
  have hcll := (Array.getElem?_eq_some_iff.1 hc).1
  have hb2 : Below w.heap.size w W2 := by rw [hW2]; exact (Below.refl _ _).drew.alloc (Nat.le_refl _) _
  have hg2 : W2.heap[G]? = some (.cells R 63) := by rw [hW2, hG]; exact World.alloc_heap_new w.drew _
  have hs2 : W2.heap[g]? = some (.cells cur 63) := (hb2.block _ hgl).trans hg
  have hc2 : W2.heap[c]? = some (.cells #[.string l.1.name, .int .i64 l.1.low, .int .i64 l.1.next, l.2] 63) := (hb2.block _ hcll).trans hc
  have hRl : R.toList.length = cap * 4 := by simpa using hRs
  obtain ⟨R1, hR1⟩ : ∃ R1 : List Value, R1 = R.toList.take (i * 4) ++ clP l ++ R.toList.drop (i * 4 + (clP l).length) := ⟨_, rfl⟩
  obtain ⟨W3, hW3⟩ : ∃ W3, W3 = W2.setRow G R1.toArray := ⟨_, rfl⟩
  have hR1l : R1.length = cap * 4 := by
    rw [hR1]
    simp only [List.length_append, List.length_take, List.length_drop, hRl, hel]
    omega
  have hcp1 : ∀ ty dc, (Builtin.copy_ #[33, 33] ty #[.slice (some ⟨G, i * 4, none⟩) (rs.length + 1 - i) dc, .slice (some ⟨c, 0, none⟩) 1 1]).run Tryz.prog W2 = .ok (goInt (Nat.min 1 (rs.length + 1 - i))) W3 := fun ty dc => by
    rw [hW3, hR1]
    exact run_copyP W2 ty G (i * 4) (rs.length + 1 - i) dc ⟨c, 0, none⟩ 1 1 R (clP l) hg2 (by rw [hel]; simp only [Nat.min_def]; split <;> omega) (fun j v hj => by
      rw [fl_addr, Nat.zero_add]
      simp only [World.cell?, hc2]
      simpa [clP] using hj) (by rw [hel]; omega) (fun v hv => clPs_one (qs := [l]) (fun q hq' => by rw [List.mem_singleton.1 hq']; exact own_one hq) v (by simpa [clPs] using hv))
  have hGg : g ≠ G := by omega
  have hg3 : W3.heap[G]? = some (.cells R1.toArray 63) := by rw [hW3]; exact setRow_heap W2 G R _ 63 _ hg2
  have hs3 : W3.heap[g]? = some (.cells cur 63) := by rw [hW3, setRow_other _ _ _ _ hGg]; exact hs2
  obtain ⟨R2, hR2⟩ : ∃ R2 : List Value, R2 = R1.take ((i + 1) * 4) ++ (clPs rs).drop (i * 4) ++ R1.drop ((i + 1) * 4 + ((clPs rs).drop (i * 4)).length) := ⟨_, rfl⟩
  obtain ⟨W4, hW4⟩ : ∃ W4, W4 = W3.drew.setRow G R2.toArray := ⟨_, rfl⟩
  have hcp2 : ∀ ty dc sc, (Builtin.copy_ #[33, 33] ty #[.slice (some ⟨G, (i + 1) * 4, none⟩) (rs.length - i) dc, .slice (some ⟨g, i * 4, none⟩) (rs.length - i) sc]).run Tryz.prog W3.drew = .ok (goInt (Nat.min (rs.length - i) (rs.length - i))) W4 := fun ty dc sc => by
    rw [hW4, hR2]
    have hcs3 := cellsOfP hs3 ht
    have := run_copyP W3.drew ty G ((i + 1) * 4) (rs.length - i) dc ⟨g, i * 4, none⟩ (rs.length - i) sc R1.toArray ((clPs rs).drop (i * 4)) hg3 (by rw [hdl]; congr 1; simp only [Nat.min_def]; split <;> omega)
      (fun j v hj => by rw [fl_addr]; exact hcs3 _ v (by rwa [List.getElem?_drop] at hj)) (by rw [hdl]; simp only [List.size_toArray]; omega) (fun v hv => clPs_one (fun q hq' => own_one (ho.sn q hq')) v (List.mem_of_mem_drop hv))
    simpa using this
  have hR2l : R2.length = cap * 4 := by
    rw [hR2]
    simp only [List.length_append, List.length_take, List.length_drop, hR1l, hdl]
    omega
  have hlen := insQ_len rs i l (by omega)
  have hbG : w.heap.size ≤ G := by omega
  have hbf : Below w.heap.size w W4 := by
    rw [hW4, hW3]
    exact below_rowP (below_rowP hb2 hbG _).drew hbG _
  have hgr : w.grownBy W4 (some g) := ⟨hbf.os, hbf.tape, hbf.output, hbf.size, fun k hk _ => hbf.block k hk⟩
  have hrow : W4.ownsRow base 63 4 (.slice (some ⟨G, 0, none⟩) (rs.length + 1) cap) (rs.length + 1) (clPs (insQ rs i l)) := ⟨by rw [clPs_len, hlen], .inr ⟨G, cap, R2.toArray, rfl, by omega, by rw [hW4]; exact setRow_heap W3.drew G _ _ 63 _ hg3, hcap, hcapM, by simpa using hR2l, by
    rw [insQ_cells]
    rw [hR2, hR1]
    exact lists_growP hRt hcl hel hi (by rw [hRl]; omega)⟩⟩
  have HF : Hid ((insQ rs i l).length = rs.length + 1 ∧ OwnP base W4 (.slice (some ⟨G, 0, none⟩) (rs.length + 1) cap) (insQ rs i l) ∧ w.grownBy W4 (some g)) := ⟨hlen, ownQ ho hq ha hgr (by rw [hlen]; exact hrow), hgr⟩
  clear ho hq ha hlen hgr hR2l hbf hbG hcapM
  have HG : Hid (G = w.heap.size) := hG
  clear hrow hW4 hR2 hg3 hs3 hW3 hR1 hg2 hs2 hc2 hW2 hb2 hcs ht hcur hg hc hdl hcl hR1l hel hRl hRt hRs hG hkk hik hgl hcll hGg
  have hz2 : ¬ ((i : Int) = (rs.length : Int)) := by omega
  have hin : i ≤ rs.length := by omega
  have hb1 : (0 : Int) ≤ (i : Int) + 1 := by omega
  have hb3 : (i : Int) ≤ (rs.length : Int) + 1 := by omega
  have hb4 : ¬ (C = i) := by omega
  have hb5 : (i : Int) + 1 ≤ (rs.length : Int) + 1 := by omega
  have hb6 : (C : Int) < (rs.length : Int) + 1 := by omega
  have hb7 : ¬ (cap = i) := by omega
  have hb8 : ¬ (cap = i + 1) := by omega
  have hb9 : i ≤ C := by omega
  have htn : ((i : Int) + 1).toNat = i + 1 := by omega
  have hw1 : IntKind.i64.wrap ((i : Int) + 1) = (i : Int) + 1 := by rw [IntKind.wrap_i64]; omega
  go_enter Tryz.func71, Tryz.ntmps71
  go_wp2_with (first | (at_builtin; refine wpList_appZP rfl _ _ rfl _ _ rfl rfl happ ?_) | (at_builtin; refine wpList_copyP rfl _ _ rfl _ _ rfl rfl (hcp1 _ _) ?_))
  go_region_law (refine step_copyP rfl _ _ rfl _ _ (by simp [Act.eval, Act.put]) (by simp [Act.eval, Act.put]) (hcp2 _ _ _) ?_)
  go_wp2
  go_ret
  exact ⟨_, _, rfl, HF.out.2.1, HF.out.2.2⟩
set_option maxHeartbeats 4000000 in
set_option maxRecDepth 100000 in
theorem insertP_nil (l : Ptn × Value) (c base : Nat) (w : World) (ho : OwnP base w (.slice none 0 0) []) (hq : w.ownsRow base 148 3 l.2 l.1.seen.length (clSns l.1.seen))
    (hc : w.heap[c]? = some (.cells #[.string l.1.name, .int .i64 l.1.low, .int .i64 l.1.next, l.2] 63)) (hbw : base ≤ w.heap.size) :
    Calls Tryz.prog 71 #[.slice none 0 0, .int .i64 0, .slice (some ⟨c, 0, none⟩) 1 1] w fun e w' => ∃ A' C', e = .returned (.slice A' 1 C') ∧ OwnP base w' (.slice A' 1 C') (insQ [] 0 l) ∧ w.grownBy w' none := by
  have hat : w.cell? ⟨c, 0, none⟩ = some (.string l.1.name) ∧ w.cell? ⟨c, 1, none⟩ = some (.int .i64 l.1.low) ∧ w.cell? ⟨c, 2, none⟩ = some (.int .i64 l.1.next) ∧ w.cell? ⟨c, 3, none⟩ = some l.2 := by
    refine ⟨?_, ?_, ?_, ?_⟩ <;> simp [World.cell?, hc]
  have HO : Hid (OwnP base w (.slice none 0 0) []) := ho
  have HQ : Hid (w.ownsRow base 148 3 l.2 l.1.seen.length (clSns l.1.seen)) := hq
  clear ho hq hc
  go_enter Tryz.func71, Tryz.ntmps71
  go_wp2_with (first | (at_builtin; refine wpList_appP rfl _ _ rfl rfl rfl HO.out hat HQ.out (fun y hy => by simp at hy) (own_one HQ.out) (by simp) hbw ?_; rintro v' w' hown' hgrow ⟨A1, C1, rfl⟩))
  go_ret
  exact ⟨_, _, rfl, hown', hgrow⟩
theorem insertP_any (rs : List (Ptn × Value)) (l : Ptn × Value) (A : Option Addr) (c i C base : Nat) (w : World) (ho : OwnP base w (.slice A rs.length C) rs) (hq : w.ownsRow base 148 3 l.2 l.1.seen.length (clSns l.1.seen)) (ha : ∀ y ∈ rs, ∀ g, y.2.ownBlock = some g → l.2.ownBlock ≠ some g)
    (hc : w.heap[c]? = some (.cells #[.string l.1.name, .int .i64 l.1.low, .int .i64 l.1.next, l.2] 63)) (hgc : (Value.slice A rs.length C).ownBlock ≠ some c) (hbw : base ≤ w.heap.size) (hn : rs.length ≤ 1000) (hi : i ≤ rs.length) :
    Calls Tryz.prog 71 #[.slice A rs.length C, .int .i64 (i : Int), .slice (some ⟨c, 0, none⟩) 1 1] w fun e w' => ∃ A' C', e = .returned (.slice A' (rs.length + 1) C') ∧ OwnP base w' (.slice A' (rs.length + 1) C') (insQ rs i l) ∧ w.grownBy w' ((Value.slice A rs.length C).ownBlock) := by
  rcases ho.row.2 with ⟨e, h0⟩ | ⟨g, cap, cur, e, hbg, hg, hC, hm, hcur, ht⟩
  · simp only [Value.slice.injEq] at e
    obtain ⟨rfl, _, rfl⟩ := e
    obtain rfl : rs = [] := List.eq_nil_of_length_eq_zero h0
    obtain rfl : i = 0 := by simpa using hi
    exact insertP_nil l c base w ho hq hc hbw
  · simp only [Value.slice.injEq, true_and] at e
    obtain ⟨rfl, rfl⟩ := e
    have hgc' : c ≠ g := fun e => hgc (by rw [e]; rfl)
    have hC2 : C ≤ 9223372036854775807 := by unfold maxLen at hm; omega
    rcases Nat.lt_or_ge i rs.length with h | h
    · rcases Nat.lt_or_ge C (rs.length + 1) with h2 | h2
      · exact insertP_grow rs l g c i C base cur w hg hcur hC hC2 ht hc hgc' hbg hbw hn ho hq ha h h2
      · exact insertP_shift rs l g c i C base cur w hg hcur hC hC2 ht hc hgc' hbg hbw hn ho hq ha h h2
    · obtain rfl : i = rs.length := by omega
      exact insertP_end rs l g c C base cur w hg hcur hC hC2 ht hc hgc' hbg hbw hn ho hq ha
end Go.Proofs.YtkgkahlhekecmaaGreat
