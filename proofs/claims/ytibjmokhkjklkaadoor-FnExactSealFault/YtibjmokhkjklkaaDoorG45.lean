/- Texts of ours put together: SlA. -/
import Derived.Test.YtibjmokhkjklkaaDoorG19
import Derived.Test.YtibjmokhkjklkaaDoorG24
import Derived.Laws.CopyRow
import Derived.BigQuiet
import Derived.Deep.RegionLaw
namespace Go.Proofs.YtibjmokhkjklkaaDoor
open Go.ChangeShapes Go.WideShapes Go.ChangeAt Go.RowKit
/-- The i-th number of the piece that begins at k. -/
def pcZ (zs : List Int) (k i : Nat) : Int := (zs[k + i]?).getD 0
theorem rowI8 (w : World) (f : Nat → Int) (T : Nat) : (w.alloc (.cells #[.int .i64 (f 0), .int .i64 (f 1), .int .i64 (f 2), .int .i64 (f 3), .int .i64 (f 4), .int .i64 (f 5), .int .i64 (f 6), .int .i64 (f 7)] T)).rowIs w.heap.size T 8 (fun i => .int .i64 (f i)) :=
  World.rowIs_alloc w #[.int .i64 (f 0), .int .i64 (f 1), .int .i64 (f 2), .int .i64 (f 3), .int .i64 (f 4), .int .i64 (f 5), .int .i64 (f 6), .int .i64 (f 7)] T (fun i => .int .i64 (f i)) (fun i hi => by
    have hi' : i < 8 := hi
    match i, hi' with
    | 0, _ => rfl
    | 1, _ => rfl
    | 2, _ => rfl
    | 3, _ => rfl
    | 4, _ => rfl
    | 5, _ => rfl
    | 6, _ => rfl
    | 7, _ => rfl
    | n + 8, h => exact absurd h (by omega))
set_option maxHeartbeats 4000000 in
theorem set8S {W : World} {B t : Nat} {z0 z1 z2 z3 z4 z5 z6 z7 : Value} (v0 v1 v2 v3 v4 v5 v6 v7 : Value) (hb : W.heap[B]? = some (.cells #[z0, z1, z2, z3, z4, z5, z6, z7] t)) : (((((((((W.setCell ⟨B, 0, none⟩ v0)).setCell ⟨B, 1, none⟩ v1).setCell ⟨B, 2, none⟩ v2).setCell ⟨B, 3, none⟩ v3).setCell ⟨B, 4, none⟩ v4).setCell ⟨B, 5, none⟩ v5).setCell ⟨B, 6, none⟩ v6).setCell ⟨B, 7, none⟩ v7).heap[B]? = some (.cells #[v0, v1, v2, v3, v4, v5, v6, v7] t) := by
  have h0 : (W.setCell ⟨B, 0, none⟩ v0).heap[B]? = some (.cells #[v0, z1, z2, z3, z4, z5, z6, z7] t) := heap_setCell_same _ B 0 _ t v0 hb
  have h1 : ((W.setCell ⟨B, 0, none⟩ v0).setCell ⟨B, 1, none⟩ v1).heap[B]? = some (.cells #[v0, v1, z2, z3, z4, z5, z6, z7] t) := heap_setCell_same _ B 1 _ t v1 h0
  have h2 : (((W.setCell ⟨B, 0, none⟩ v0).setCell ⟨B, 1, none⟩ v1).setCell ⟨B, 2, none⟩ v2).heap[B]? = some (.cells #[v0, v1, v2, z3, z4, z5, z6, z7] t) := heap_setCell_same _ B 2 _ t v2 h1
  have h3 : ((((W.setCell ⟨B, 0, none⟩ v0).setCell ⟨B, 1, none⟩ v1).setCell ⟨B, 2, none⟩ v2).setCell ⟨B, 3, none⟩ v3).heap[B]? = some (.cells #[v0, v1, v2, v3, z4, z5, z6, z7] t) := heap_setCell_same _ B 3 _ t v3 h2
  have h4 : (((((W.setCell ⟨B, 0, none⟩ v0).setCell ⟨B, 1, none⟩ v1).setCell ⟨B, 2, none⟩ v2).setCell ⟨B, 3, none⟩ v3).setCell ⟨B, 4, none⟩ v4).heap[B]? = some (.cells #[v0, v1, v2, v3, v4, z5, z6, z7] t) := heap_setCell_same _ B 4 _ t v4 h3
  have h5 : ((((((W.setCell ⟨B, 0, none⟩ v0).setCell ⟨B, 1, none⟩ v1).setCell ⟨B, 2, none⟩ v2).setCell ⟨B, 3, none⟩ v3).setCell ⟨B, 4, none⟩ v4).setCell ⟨B, 5, none⟩ v5).heap[B]? = some (.cells #[v0, v1, v2, v3, v4, v5, z6, z7] t) := heap_setCell_same _ B 5 _ t v5 h4
  have h6 : (((((((W.setCell ⟨B, 0, none⟩ v0).setCell ⟨B, 1, none⟩ v1).setCell ⟨B, 2, none⟩ v2).setCell ⟨B, 3, none⟩ v3).setCell ⟨B, 4, none⟩ v4).setCell ⟨B, 5, none⟩ v5).setCell ⟨B, 6, none⟩ v6).heap[B]? = some (.cells #[v0, v1, v2, v3, v4, v5, v6, z7] t) := heap_setCell_same _ B 6 _ t v6 h5
  have h7 : ((((((((W.setCell ⟨B, 0, none⟩ v0).setCell ⟨B, 1, none⟩ v1).setCell ⟨B, 2, none⟩ v2).setCell ⟨B, 3, none⟩ v3).setCell ⟨B, 4, none⟩ v4).setCell ⟨B, 5, none⟩ v5).setCell ⟨B, 6, none⟩ v6).setCell ⟨B, 7, none⟩ v7).heap[B]? = some (.cells #[v0, v1, v2, v3, v4, v5, v6, v7] t) := heap_setCell_same _ B 7 _ t v7 h6
  exact h7
theorem bx8S {W : World} {B t : Nat} {v0 v1 v2 v3 v4 v5 v6 v7 : Value} (hb : W.heap[B]? = some (.cells #[v0, v1, v2, v3, v4, v5, v6, v7] t)) : (∀ o, W.frozen? ⟨B, o, none⟩ = false) ∧ W.cell? ⟨B, 0, none⟩ = some v0 ∧ W.cell? ⟨B, 1, none⟩ = some v1 ∧ W.cell? ⟨B, 2, none⟩ = some v2 ∧ W.cell? ⟨B, 3, none⟩ = some v3 ∧ W.cell? ⟨B, 4, none⟩ = some v4 ∧ W.cell? ⟨B, 5, none⟩ = some v5 ∧ W.cell? ⟨B, 6, none⟩ = some v6 ∧ W.cell? ⟨B, 7, none⟩ = some v7 := by
  refine ⟨fun o => by simp [World.frozen?, hb], ?_, ?_, ?_, ?_, ?_, ?_, ?_, ?_⟩ <;> simp [World.cell?, hb]
set_option maxHeartbeats 4000000 in
theorem unlikeAt_any (f g : Nat → Int) (w : World) (h : ∃ i, i < 8 ∧ f i ≠ g i) : Calls Tryd.prog 43 #[.agg #[.int .i64 (f 0), .int .i64 (f 1), .int .i64 (f 2), .int .i64 (f 3), .int .i64 (f 4), .int .i64 (f 5), .int .i64 (f 6), .int .i64 (f 7)], .agg #[.int .i64 (g 0), .int .i64 (g 1), .int .i64 (g 2), .int .i64 (g 3), .int .i64 (g 4), .int .i64 (g 5), .int .i64 (g 6), .int .i64 (g 7)]] w fun e w' => (∃ m : Nat, e = .returned (.int .i64 (m : Int)) ∧ m < 8 ∧ f m ≠ g m ∧ ∀ j, j < m → f j = g j) ∧ Below w.heap.size w w' := by
  obtain ⟨W0, hW0⟩ : ∃ W0, (w.alloc (.cells #[.int .i64 (f 0), .int .i64 (f 1), .int .i64 (f 2), .int .i64 (f 3), .int .i64 (f 4), .int .i64 (f 5), .int .i64 (f 6), .int .i64 (f 7)] 62)).alloc (.cells #[.int .i64 (g 0), .int .i64 (g 1), .int .i64 (g 2), .int .i64 (g 3), .int .i64 (g 4), .int .i64 (g 5), .int .i64 (g 6), .int .i64 (g 7)] 62) = W0 := ⟨_, rfl⟩
  have h1 : W0.rowIs w.heap.size 62 8 (fun i => .int .i64 (f i)) := by rw [← hW0]; exact (rowI8 w f 62).alloc _
  have h2 : W0.rowIs (w.heap.size + 1) 62 8 (fun i => .int .i64 (g i)) := by
    have := rowI8 (w.alloc (.cells #[.int .i64 (f 0), .int .i64 (f 1), .int .i64 (f 2), .int .i64 (f 3), .int .i64 (f 4), .int .i64 (f 5), .int .i64 (f 6), .int .i64 (f 7)] 62)) g 62
    rw [hW0] at this
    rw [show (w.alloc (.cells #[.int .i64 (f 0), .int .i64 (f 1), .int .i64 (f 2), .int .i64 (f 3), .int .i64 (f 4), .int .i64 (f 5), .int .i64 (f 6), .int .i64 (f 7)] 62)).heap.size = w.heap.size + 1 by simp] at this
    exact this
  have hb : Below w.heap.size w W0 := by rw [← hW0]; exact ((Below.refl _ _).alloc (Nat.le_refl _) _).alloc (by simp) _
  have H : Hid (W0.rowIs w.heap.size 62 8 (fun i => .int .i64 (f i)) ∧ W0.rowIs (w.heap.size + 1) 62 8 (fun i => .int .i64 (g i)) ∧ Below w.heap.size w W0) := ⟨h1, h2, hb⟩
  have HE : Hid (∃ i, i < 8 ∧ f i ≠ g i) := h
  clear h1 h2 hb h
  go_enter Tryd.func43, Tryd.ntmps43
  go_upto_region 1 with fail
  try rw [hW0]
  clear hW0
  go_wp2_with fail
  go_loopw [5] (fun i wr => ∃ k : Nat, i = .int .i64 (k : Int) ∧ k < 8 ∧ (∀ j, j < k → f j = g j) ∧ Below W0.heap.size W0 wr) (fun i _ => 8 - (intOf i).toNat)
  case atStart => exact ⟨0, rfl, by omega, fun j hj => by omega, Below.refl _ _⟩
  case round =>
    obtain ⟨k, rfl, hk, hall, hbr⟩ := hrel
    have c1 : wr.cell? ⟨w.heap.size, k, none⟩ = some (.int .i64 (f k)) := (H.out.1.of_block (hbr.block _ H.out.1.lt)).cell (i := k) hk
    have c2 : wr.cell? ⟨w.heap.size + 1, k, none⟩ = some (.int .i64 (g k)) := (H.out.2.1.of_block (hbr.block _ H.out.2.1.lt)).cell (i := k) hk
    have hk' : (k : Int) < 8 := by omega
    have HA : Hid ((∀ j, j < k → f j = g j) ∧ Below W0.heap.size W0 wr) := ⟨hall, hbr⟩
    clear hall hbr
    obtain ⟨x, hx⟩ : ∃ x, x = f k := ⟨_, rfl⟩
    obtain ⟨y, hy⟩ : ∃ y, y = g k := ⟨_, rfl⟩
    rw [← hx] at c1
    rw [← hy] at c2
    by_cases hxy : x = y
    · have HN : Hid (f k = g k) := by show _ = _; rw [← hx, ← hy, hxy]
      have hk1 : k + 1 < 8 := by
        obtain ⟨i, hi, hne⟩ := HE.out
        by_cases g1 : i < k
        · exact absurd (HA.out.1 i g1) hne
        · by_cases g2 : i = k
          · rw [g2] at hne; exact absurd HN.out hne
          · omega
      subst hxy
      clear hx hy
      go_wp2_with fail
      go_quiet (fail)
      go_wp2
      go_roundw
      case rel => exact ⟨k + 1, by go_num, hk1, fun j hj => by
        by_cases g1 : j = k
        · rw [g1]; exact HN.out
        · exact HA.out.1 j (by omega), by first | exact below_drewN HA.out.2 _ | exact HA.out.2⟩
      case measure => simp [intOf]; omega
    · have HN : Hid (f k ≠ g k) := by show _ ≠ _; rw [← hx, ← hy]; exact hxy
      have hxb : (x == y) = false := by simpa using hxy
      clear hx hy
      go_wp2_with fail
      go_quiet (fail)
      go_wp2
      go_ret
      exact ⟨⟨k, rfl, hk, HN.out, HA.out.1⟩, H.out.2.2.trans ((by first | exact below_drewN HA.out.2 _ | exact HA.out.2 : Below W0.heap.size W0 _).mono H.out.2.2.size)⟩
theorem wpList_cpyN {ops : Array Oper} {rest : List Oper} {o : Oper} {a : Act} {Q : Exit → Act → World → Prop} {w : World} (hgd : o.guard = none) (d s : Operand)
    (ho : o.op = .call { callee := .builtin .copy, args := #[d, s], argTypes := #[24, 24] }) (v u : Value) (hd : a.eval d = v) (hs : a.eval s = u) {v' : Value} {w' : World}
    (hr : (Builtin.copy_ #[24, 24] o.type #[v, u]).run Tryd.prog w = .ok v' w') (h : wpList Tryd.prog ops Q rest (a.put o.dst v') w') : wpList Tryd.prog ops Q (o :: rest) a w :=
  wpList_plain hgd fun _ hK => by
    unfold Oper.wp execOp
    simp only [ho, resolve, invoke, builtin, Sem.run_bind, Sem.run_pure, Result.andThen_ok, List.map_toArray, List.map_cons, List.map_nil, hd, hs, hr]
    exact hK _ _ h
theorem step_cpyN {ops : Array Oper} {o : Oper} {a : Act} {w : World} {K : Act → World → Prop} {Q : Exit → Act → World → Prop} {E : Prop} (hgd : o.guard = none) (d s : Operand)
    (ho : o.op = .call { callee := .builtin .copy, args := #[d, s], argTypes := #[24, 24] }) (v u : Value) (hd : a.eval d = v) (hs : a.eval s = u) {v' : Value} {w' : World}
    (hr : (Builtin.copy_ #[24, 24] o.type #[v, u]).run Tryd.prog w = .ok v' w') (h : K (a.put o.dst v') w') : if Region.wanted o (yielded ops a.tmps) = true then Oper.wp Tryd.prog o a w K Q else E := by
  have hw : Region.wanted o (yielded ops a.tmps) = true := by simp [Region.wanted, hgd]
  rw [if_pos hw]
  unfold Oper.wp
  simp [execOp, ho, resolve, invoke, builtin, hd, hs, hr, Result.andThen]
  exact h
theorem infoN1 : (Tryd.prog.info? 2).map (·.size) = some 1 := by kernel_rfl
/-- The cells behind the copy. -/
def cs8 (zs : List Int) (k : Nat) : List Value := ((zs.drop k).take 8).map (Value.int .i64)
theorem cs8_len (zs : List Int) (k : Nat) : (cs8 zs k).length = Nat.min (zs.length - k) 8 := by
  unfold cs8
  rw [List.length_map, List.length_take, List.length_drop]
  exact Nat.min_comm _ _
theorem cs8_arr (zs : List Int) (k : Nat) : ((#[.int .i64 0, .int .i64 0, .int .i64 0, .int .i64 0, .int .i64 0, .int .i64 0, .int .i64 0, .int .i64 0] : Array Value).toList.take 0 ++ cs8 zs k ++ (#[.int .i64 0, .int .i64 0, .int .i64 0, .int .i64 0, .int .i64 0, .int .i64 0, .int .i64 0, .int .i64 0] : Array Value).toList.drop (0 + (cs8 zs k).length)).toArray = #[.int .i64 (pcZ zs k 0), .int .i64 (pcZ zs k 1), .int .i64 (pcZ zs k 2), .int .i64 (pcZ zs k 3), .int .i64 (pcZ zs k 4), .int .i64 (pcZ zs k 5), .int .i64 (pcZ zs k 6), .int .i64 (pcZ zs k 7)] := by
  apply Array.toList_inj.1
  show ([] ++ cs8 zs k ++ (List.replicate 8 (Value.int .i64 0)).drop (0 + (cs8 zs k).length)) = (List.range 8).map fun i => Value.int .i64 (pcZ zs k i)
  rw [List.nil_append, Nat.zero_add]
  have hl : (cs8 zs k).length = min (zs.length - k) 8 := cs8_len zs k
  apply List.ext_getElem?
  intro i
  by_cases h8 : i < 8
  · have e : ((List.range 8).map fun i => Value.int .i64 (pcZ zs k i))[i]? = some (Value.int .i64 ((zs[k + i]?).getD 0)) := by
      rw [List.getElem?_map, List.getElem?_range h8]
      rfl
    rw [e]
    by_cases hc : i < (cs8 zs k).length
    · rw [List.getElem?_append_left hc]
      unfold cs8
      rw [List.getElem?_map, List.getElem?_take_of_lt h8, List.getElem?_drop, List.getElem?_eq_getElem (by omega)]
      rfl
    · rw [List.getElem?_append_right (by omega), List.getElem?_drop, show (cs8 zs k).length + (i - (cs8 zs k).length) = i by omega, List.getElem?_replicate, if_pos h8, List.getElem?_eq_none (by omega)]
      rfl
  · rw [List.getElem?_eq_none (by rw [List.length_append, List.length_drop, List.length_replicate]; omega), List.getElem?_eq_none (by rw [List.length_map, List.length_range]; omega)]
set_option maxRecDepth 100000 in
set_option maxHeartbeats 4000000 in
theorem pieceAt_any (zs : List Int) (b o c k : Nat) (w : World) (hc : ∀ (j : Nat) (z : Int), zs[j]? = some z → w.cell? ⟨b, o + j, none⟩ = some (.int .i64 z)) (hk : k < zs.length) (hcap : zs.length ≤ c) (_hc2 : c ≤ 9223372036854775807) :
    Calls Tryd.prog 42 #[.slice (some ⟨b, o, none⟩) zs.length c, .int .i64 (k : Int)] w fun e w' => e = .returned (.agg #[.int .i64 (pcZ zs k 0), .int .i64 (pcZ zs k 1), .int .i64 (pcZ zs k 2), .int .i64 (pcZ zs k 3), .int .i64 (pcZ zs k 4), .int .i64 (pcZ zs k 5), .int .i64 (pcZ zs k 6), .int .i64 (pcZ zs k 7)]) ∧ Below w.heap.size w w' := by
  obtain ⟨W0, hW0⟩ : ∃ W0, (w.alloc (.cells #[.int .i64 0, .int .i64 0, .int .i64 0, .int .i64 0, .int .i64 0, .int .i64 0, .int .i64 0, .int .i64 0] 62)).alloc (.cells #[.int .i64 0, .int .i64 0, .int .i64 0, .int .i64 0, .int .i64 0, .int .i64 0, .int .i64 0, .int .i64 0] 62) = W0 := ⟨_, rfl⟩
  have hb0 : Below w.heap.size w W0 := by rw [← hW0]; exact ((Below.refl _ _).alloc (Nat.le_refl _) _).alloc (by simp) _
  have h1 : W0.heap[w.heap.size]? = some (.cells #[.int .i64 0, .int .i64 0, .int .i64 0, .int .i64 0, .int .i64 0, .int .i64 0, .int .i64 0, .int .i64 0] 62) := by
    have e : W0.heap = (w.heap.push (.cells #[.int .i64 0, .int .i64 0, .int .i64 0, .int .i64 0, .int .i64 0, .int .i64 0, .int .i64 0, .int .i64 0] 62)).push (.cells #[.int .i64 0, .int .i64 0, .int .i64 0, .int .i64 0, .int .i64 0, .int .i64 0, .int .i64 0, .int .i64 0] 62) := by rw [← hW0]; rfl
    rw [e, Array.getElem?_push, if_neg (by simp), Array.getElem?_push, if_pos rfl]
  have h2 : W0.heap[w.heap.size + 1]? = some (.cells #[.int .i64 0, .int .i64 0, .int .i64 0, .int .i64 0, .int .i64 0, .int .i64 0, .int .i64 0, .int .i64 0] 62) := by
    have e : W0.heap = (w.heap.push (.cells #[.int .i64 0, .int .i64 0, .int .i64 0, .int .i64 0, .int .i64 0, .int .i64 0, .int .i64 0, .int .i64 0] 62)).push (.cells #[.int .i64 0, .int .i64 0, .int .i64 0, .int .i64 0, .int .i64 0, .int .i64 0, .int .i64 0, .int .i64 0] 62) := by rw [← hW0]; rfl
    rw [e, Array.getElem?_push, if_pos (by simp)]
  have hsrc : ∀ (j : Nat) (v : Value), (cs8 zs k)[j]? = some v → W0.cell? ((⟨b, o + k, none⟩ : Addr).add j) = some v := fun j v hj => by
    unfold cs8 at hj
    rw [List.getElem?_map, List.getElem?_take] at hj
    split at hj
    · rw [List.getElem?_drop] at hj
      cases hz : zs[k + j]? with
      | none => rw [hz] at hj; cases hj
      | some z =>
        rw [hz] at hj
        cases hj
        have h0 := hc _ _ hz
        rw [fl_addr, Nat.add_assoc]
        exact (hb0.cell (cell_lt h0)).trans h0
    · cases hj
  obtain ⟨W1, hW1⟩ : ∃ W1, W0.drew.setRow (w.heap.size + 1) #[.int .i64 (pcZ zs k 0), .int .i64 (pcZ zs k 1), .int .i64 (pcZ zs k 2), .int .i64 (pcZ zs k 3), .int .i64 (pcZ zs k 4), .int .i64 (pcZ zs k 5), .int .i64 (pcZ zs k 6), .int .i64 (pcZ zs k 7)] = W1 := ⟨_, rfl⟩
  have hcp : (Builtin.copy_ #[24, 24] 3 #[.slice (some ⟨w.heap.size + 1, 0, none⟩) 8 8, .slice (some ⟨b, o + k, none⟩) (zs.length - k) (c - k)]).run Tryd.prog W0.drew = .ok (goInt (cs8 zs k).length) W1 := by
    rw [← hW1, ← cs8_arr]
    exact run_copy_row (P := Tryd.prog) W0.drew 24 24 3 2 (w.heap.size + 1) 0 8 8 ⟨b, o + k, none⟩ (zs.length - k) (c - k) #[.int .i64 0, .int .i64 0, .int .i64 0, .int .i64 0, .int .i64 0, .int .i64 0, .int .i64 0, .int .i64 0] 62 (cs8 zs k) Tryd.underlying24 infoN1 h2 (cs8_len zs k) hsrc (by rw [cs8_len]; exact Nat.le_trans (Nat.le_of_eq (Nat.zero_add _)) (Nat.min_le_right (zs.length - k) 8)) (fun v hv => by
      unfold cs8 at hv
      obtain ⟨z, _, rfl⟩ := List.mem_map.1 hv
      rfl)
  have x1 : W1.heap[w.heap.size + 1]? = some (.cells #[.int .i64 (pcZ zs k 0), .int .i64 (pcZ zs k 1), .int .i64 (pcZ zs k 2), .int .i64 (pcZ zs k 3), .int .i64 (pcZ zs k 4), .int .i64 (pcZ zs k 5), .int .i64 (pcZ zs k 6), .int .i64 (pcZ zs k 7)] 62) := by rw [← hW1]; exact setRow_heap W0.drew _ _ _ 62 _ h2
  have x0 : W1.heap[w.heap.size]? = some (.cells #[.int .i64 0, .int .i64 0, .int .i64 0, .int .i64 0, .int .i64 0, .int .i64 0, .int .i64 0, .int .i64 0] 62) := by rw [← hW1, setRow_other _ _ _ _ (by omega)]; exact h1
  have hb1 : Below w.heap.size w W1 := by rw [← hW1]; exact hb0.trans ⟨rfl, rfl, rfl, by simp [World.setRow], fun q hq => setRow_other _ _ q _ (by omega)⟩
  have H1 : Hid (Below w.heap.size w W1 ∧ W1.heap[w.heap.size]? = some (.cells #[.int .i64 0, .int .i64 0, .int .i64 0, .int .i64 0, .int .i64 0, .int .i64 0, .int .i64 0, .int .i64 0] 62)) := ⟨hb1, x0⟩
  obtain ⟨fx, e0, e1, e2, e3, e4, e5, e6, e7⟩ := bx8S x1
  obtain ⟨gx, g0, g1, g2, g3, g4, g5, g6, g7⟩ := bx8S x0
  clear hW1 x0 x1 hb1
  have hk' : (k : Int) < (zs.length : Int) := by omega
  have hk2 : (k : Int) ≤ (zs.length : Int) := by omega
  have hcap' : (zs.length : Int) ≤ (c : Int) := by omega
  have hkc : k < c := by omega
  have hkc2 : ¬ c = k := by omega
  clear hsrc h1 h2 hb0 hc
  go_enter Tryd.func42, Tryd.ntmps42
  go_upto_region 2 with fail
  try rw [hW0]
  clear hW0
  go_region
  go_wp2
  all_goals (
    obtain ⟨_, f0, f1, f2, f3, f4, f5, f6, f7⟩ := bx8S (set8S (.int .i64 (pcZ zs k 0)) (.int .i64 (pcZ zs k 1)) (.int .i64 (pcZ zs k 2)) (.int .i64 (pcZ zs k 3)) (.int .i64 (pcZ zs k 4)) (.int .i64 (pcZ zs k 5)) (.int .i64 (pcZ zs k 6)) (.int .i64 (pcZ zs k 7)) H1.out.2)
    refine bodyPost_ret (v := .agg #[.int .i64 (pcZ zs k 0), .int .i64 (pcZ zs k 1), .int .i64 (pcZ zs k 2), .int .i64 (pcZ zs k 3), .int .i64 (pcZ zs k 4), .int .i64 (pcZ zs k 5), .int .i64 (pcZ zs k 6), .int .i64 (pcZ zs k 7)]) (by simp [results, Tryd.results42, go_sem, f0, f1, f2, f3, f4, f5, f6, f7]) rfl ⟨rfl, ?_⟩
    exact (((((((H1.out.1.setCell (Nat.le_refl _) _).setCell (Nat.le_refl _) _).setCell (Nat.le_refl _) _).setCell (Nat.le_refl _) _).setCell (Nat.le_refl _) _).setCell (Nat.le_refl _) _).setCell (Nat.le_refl _) _).setCell (Nat.le_refl _) _)
end Go.Proofs.YtibjmokhkjklkaaDoor
