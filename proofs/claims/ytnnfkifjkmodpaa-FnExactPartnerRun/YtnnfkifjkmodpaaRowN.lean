/- Lists of numbers: what it is that a value is one, the copy, the comparison, the marks, an append of one. -/
import Derived.Test.YtnnfkifjkmodpaaFlat0
import Derived.Laws.AppendOwn
import Derived.Deep.QuietTactic
import Derived.BigQuiet
import Derived.BigRegion
namespace Go.Proofs.Ytnnfkifjkmodpaa
open Go.ChangeShapes Go.WideShapes Go.ChangeAt Go.RowKit
/-- A list of numbers. -/
structure RowN (W : World) (v : Value) (zs : List Int) : Prop where
  shape : ∃ a cap, v = .slice a zs.length cap ∧ (zs ≠ [] → ∃ b o, a = some ⟨b, o, none⟩ ∧ ∀ (i : Nat) (z : Int), zs[i]? = some z → W.cell? ⟨b, o + i, none⟩ = some (.int .i64 z))
  len : zs.length ≤ 9223372036854775807
theorem RowN.below {W W' : World} {v : Value} {zs : List Int} (h : RowN W v zs) (hb : Below W.heap.size W W') : RowN W' v zs := by
  obtain ⟨a, cap, e, hc⟩ := h.shape
  refine ⟨⟨a, cap, e, fun hn => ?_⟩, h.len⟩
  obtain ⟨b, o, ea, hcell⟩ := hc hn
  exact ⟨b, o, ea, fun i g hi => (hb.cell (cell_lt (hcell i g hi))).trans (hcell i g hi)⟩
theorem RowN.at {W : World} {v : Value} {zs : List Int} (h : RowN W v zs) {k : Nat} (hk : k < zs.length) : ∃ b o cap z, v = .slice (some ⟨b, o, none⟩) zs.length cap ∧ zs[k]? = some z ∧ W.cell? ⟨b, o + k, none⟩ = some (.int .i64 z) := by
  obtain ⟨a, cap, e, hc⟩ := h.shape
  obtain ⟨b, o, rfl, hcell⟩ := hc (by intro g; rw [g] at hk; simp at hk)
  have hs : zs[k]? = some zs[k] := List.getElem?_eq_getElem hk
  exact ⟨b, o, cap, _, e, hs, hcell k _ hs⟩
theorem RowN.val {W : World} {v : Value} {zs : List Int} (h : RowN W v zs) : ∃ a cap, v = .slice a zs.length cap := by
  obtain ⟨a, cap, e, _⟩ := h.shape
  exact ⟨a, cap, e⟩
/-- A list in a block of its own, b, whose row may be longer; nil if it has none. -/
structure LN (b : Nat) (W : World) (v : Value) (zs : List Int) : Prop where
  shape : ∃ a cap, v = .slice a zs.length cap ∧ (zs ≠ [] → a = some ⟨b, 0, none⟩ ∧ ∃ (n : Nat) (f : Nat → Value), W.rowIs b 2 n f ∧ zs.length ≤ n ∧ ∀ (i : Nat) (z : Int), zs[i]? = some z → f i = .int .i64 z)
  len : zs.length ≤ 9223372036854775807
theorem LN.row {b : Nat} {W : World} {v : Value} {zs : List Int} (h : LN b W v zs) : RowN W v zs := by
  obtain ⟨a, cap, e, hc⟩ := h.shape
  refine ⟨⟨a, cap, e, fun hn => ?_⟩, h.len⟩
  obtain ⟨ea, m, f, hR, hm, hf⟩ := hc hn
  refine ⟨b, 0, ea, fun i g hi => ?_⟩
  have hlt := (List.getElem?_eq_some_iff.1 hi).1
  have c0 := hR.cell (i := i) (by omega)
  rw [hf i g hi] at c0
  rw [Nat.zero_add]
  exact c0
theorem LN.of_block {b : Nat} {W W' : World} {v : Value} {zs : List Int} (h : LN b W v zs) (hb : zs ≠ [] → W'.heap[b]? = W.heap[b]?) : LN b W' v zs := by
  obtain ⟨a, cap, e, hc⟩ := h.shape
  refine ⟨⟨a, cap, e, fun hn => ?_⟩, h.len⟩
  obtain ⟨ea, m, f, hR, hm, hf⟩ := hc hn
  exact ⟨ea, m, f, hR.of_block (hb hn), hm, hf⟩
theorem LN.lt {b : Nat} {W : World} {v : Value} {zs : List Int} (h : LN b W v zs) (hn : zs ≠ []) : b < W.heap.size := by
  obtain ⟨a, cap, e, hc⟩ := h.shape
  obtain ⟨ea, m, f, hR, hm, hf⟩ := hc hn
  exact hR.lt
theorem LN.below {b : Nat} {W W' : World} {v : Value} {zs : List Int} (h : LN b W v zs) (hb : Below W.heap.size W W') : LN b W' v zs := h.of_block fun hn => hb.block b (h.lt hn)
theorem LN.keep {b c : Nat} {W W' : World} {v : Value} {zs : List Int} (h : LN b W v zs) (hb : Keep c W W') (hne : zs ≠ [] → b ≠ c) : LN b W' v zs := h.of_block fun hn => hb.block b (h.lt hn) (hne hn)
theorem LN.val {b : Nat} {W : World} {v : Value} {zs : List Int} (h : LN b W v zs) : ∃ a cap, v = .slice a zs.length cap := by
  obtain ⟨a, cap, e, _⟩ := h.shape
  exact ⟨a, cap, e⟩
/-- Made by appends, read. -/
theorem LN.of_owns {W : World} {base : Nat} {v : Value} {zs : List Int} (h : W.ownsRow base 2 1 v zs.length (zs.map (Value.int .i64))) (hl : zs.length ≤ 9223372036854775807) : ∃ b, base ≤ b ∧ LN b W v zs := by
  rcases h.2 with ⟨rfl, h0⟩ | ⟨b, cap, cur, rfl, hb, hh, hc, hm, hs, ht⟩
  · refine ⟨base, Nat.le_refl _, ⟨none, 0, by rw [h0], fun hn => absurd (List.eq_nil_of_length_eq_zero h0) hn⟩, hl⟩
  · refine ⟨b, hb, ⟨_, _, rfl, fun _ => ⟨rfl, cap * 1, fun i => cur[i]?.getD undef, ⟨cur, hh, hs, fun i hi => by (have hi' : i < cur.size := by omega); simp [hi']⟩, by omega, fun i g hi => ?_⟩⟩, hl⟩
    have hlt := (List.getElem?_eq_some_iff.1 hi).1
    have e : (cur.toList.take (zs.length * 1))[i]? = some (.int .i64 g) := by
      rw [ht, List.getElem?_map, hi]
      rfl
    rw [List.getElem?_take_of_lt (by omega), Array.getElem?_toList] at e
    show cur[i]?.getD undef = _
    rw [e]
    rfl
theorem infoN : (Try.prog.info? 2).map (fun i => (i.zero, i.size, i.bytes)) = some (some (.int .i64 0), 1, 8) := by kernel_rfl
/-- An append of one. -/
theorem wpList_appN {ops : Array Oper} {rest : List Oper} {o : Oper} {a : Act} {Q : Exit → Act → World → Prop} {W : World} {base c C : Nat} {lv : Value} {zs : List Int} {z : Int} (hgd : o.guard = none) (s x : Operand)
    (ho : o.op = .call { callee := .builtin .append, args := #[s, x], argTypes := #[42, 42] })
    (hs' : a.eval s = lv) (hx : a.eval x = .slice (some ⟨c, 0, none⟩) 1 C) (h : W.ownsRow base 2 1 lv zs.length (zs.map (Value.int .i64))) (hg : W.cell? ⟨c, 0, none⟩ = some (.int .i64 z)) (hl : zs.length + 1 ≤ 1000000) (hbase : base ≤ W.heap.size)
    (k : ∀ v' w', w'.ownsRow base 2 1 v' (zs ++ [z]).length ((zs ++ [z]).map (Value.int .i64)) → W.grownBy w' lv.ownBlock → (∃ A C, v' = .slice A (zs.length + 1) C) → wpList Try.prog ops Q rest (a.put o.dst v') w') : wpList Try.prog ops Q (o :: rest) a W := by
  obtain ⟨i0, hi, hz0, hz1, hz2⟩ := info_parts infoN
  refine wpList_append_own W hgd s x 42 ho base 2 i0 (.int .i64 0) 1 8 Try.underlying42 hi hz0 hz1 hz2 rfl (by decide) lv zs.length (zs.map (Value.int .i64)) hs' h ⟨c, 0, none⟩ 1 C [.int .i64 z] hx rfl (fun j u hu => ?_) (fun u hu => ?_) (by unfold maxLen; omega) (by omega) hbase ?_
  · rw [fl_addr]
    have hj := (List.getElem?_eq_some_iff.1 hu).1
    have hj3 : j < 1 := hj
    match j, hj3 with
    | 0, _ =>
      cases hu
      simpa using hg
  · simp only [List.mem_cons, List.not_mem_nil, or_false] at hu
    subst hu
    rfl
  · intro v' w' hown hgrow hnil
    have e1 : (zs ++ [z]).length = zs.length + 1 := by simp
    have hown' : w'.ownsRow base 2 1 v' (zs ++ [z]).length ((zs ++ [z]).map (Value.int .i64)) := by
      rw [e1, List.map_append]
      exact hown
    refine k v' w' hown' hgrow ?_
    rcases hown'.2 with ⟨rfl, h0⟩ | ⟨b, cap, cur, rfl, _⟩
    · rw [e1] at h0
      omega
    · exact ⟨_, _, by rw [e1]⟩
theorem appN_below {W5 W W' : World} {x : Obj} {lv : Value} {n : Nat} {xs : List Value} {N : Nat} (hb : Below N W5 W) (hN : N ≤ W5.heap.size) (ho : W.ownsRow N 2 1 lv n xs) (hg : (W.alloc x).grownBy W' lv.ownBlock) : Below N W5 W' := by
  have hs := hb.size
  refine (hb.alloc (by omega) x).trans ⟨hg.os, hg.tape, hg.output, hg.size, fun q hq => hg.block q (by simp; omega) (fun e => ?_)⟩
  have := (ho.lt q e.symm).1
  omega
theorem run_make_n (n : Nat) (hn : n ≤ 1048576) (w : World) : (Instr.makeSlice 42 (.int .i64 (n : Int)) (.int .i64 (n : Int))).run Try.prog w = .ok (.slice (some ⟨w.heap.size, 0, none⟩) n n) (w.alloc (.cells (madeCells #[.int .i64 0] n) 2)) := by
  obtain ⟨i0, hi, hz0, hz1, hz2⟩ := info_parts infoN
  have h := run_make (P := Try.prog) w 42 2 i0 (.int .i64 0) Try.underlying42 hi hz0 .i64 .i64 (n : Int) (n : Int) (by omega) (by omega) (by rw [hz2]; omega) (by omega)
  rw [hz1] at h
  simpa [Value.cells] using h
set_option maxHeartbeats 2000000 in
theorem toN_any (v : Value) (zs : List Int) (w : World) (h : RowN w v zs) (hlen : zs.length ≤ 1048576) :
    Calls Try.prog 18 #[v] w fun e w' => ∃ b, e = .returned (.slice (some ⟨b, 0, none⟩) zs.length zs.length) ∧ w.heap.size ≤ b ∧ b < w'.heap.size ∧ LN b w' (.slice (some ⟨b, 0, none⟩) zs.length zs.length) zs ∧ Below w.heap.size w w' := by
  obtain ⟨a, cap, rfl⟩ := h.val
  have H : Hid (RowN w (.slice a zs.length cap) zs) := h
  clear h
  obtain ⟨M, hM, hMs⟩ : ∃ M : Array Value, madeCells #[.int .i64 0] zs.length = M ∧ M.size = zs.length := ⟨_, rfl, size_madeCells _ _⟩
  have hmk := run_make_n zs.length hlen
  rw [hM] at hmk
  obtain ⟨f0, hf0⟩ := fl_row w M 2 zs.length hMs
  have HF0 : Hid ((w.alloc (.cells M 2)).rowIs w.heap.size 2 zs.length f0) := hf0
  clear hM hMs hf0
  go_enter Try.func18, Try.ntmps18
  go_wp2
  go_loopw [4] (fun i wr => ∃ (k : Nat) (f : Nat → Value), i = .int .i64 (k : Int) ∧ k ≤ zs.length ∧ wr.rowIs w.heap.size 2 zs.length f ∧ (∀ (j : Nat) (z : Int), j < k → zs[j]? = some z → f j = .int .i64 z) ∧ Below w.heap.size w wr) (fun i _ => zs.length - (intOf i).toNat)
  case atStart => exact ⟨0, f0, rfl, by omega, HF0.out, fun j e hj => by omega, (Below.refl _ _).alloc (Nat.le_refl _) _⟩
  case round =>
    obtain ⟨k, f, rfl, hk, hR, hA, hb⟩ := hrel
    by_cases hlt : k < zs.length
    · have hlt' : (k : Int) < (zs.length : Int) := by omega
      obtain ⟨b, o, cap', z, ee, hs, q0⟩ := (H.out.below hb).at hlt
      simp only [Value.slice.injEq, true_and] at ee
      obtain ⟨rfl, rfl⟩ := ee
      have hfz := hR.frozen
      have k0 := hR.cell (i := k) hlt
      have H1 : Hid (zs[k]? = some z ∧ wr.rowIs w.heap.size 2 zs.length f ∧ (∀ (j : Nat) (z : Int), j < k → zs[j]? = some z → f j = .int .i64 z) ∧ Below w.heap.size w wr) := ⟨hs, hR, hA, hb⟩
      clear hs hR hA hb
      go_wp2
      go_roundw
      case rel =>
        refine ⟨k + 1, _, by go_num, by omega, H1.out.2.1.set k (.int .i64 z), fun j t hj ht => ?_, H1.out.2.2.2.setCell (Nat.le_refl _) _⟩
        by_cases e1 : j = k
        · subst e1
          rw [H1.out.1] at ht
          cases ht
          rw [if_pos rfl]
        · rw [if_neg e1]
          exact H1.out.2.2.1 j t (by omega) ht
      case measure => simp [intOf]; omega
    · obtain rfl : k = zs.length := by omega
      have HS : Hid (wr.rowIs w.heap.size 2 zs.length f ∧ (∀ (j : Nat) (z : Int), j < zs.length → zs[j]? = some z → f j = .int .i64 z) ∧ Below w.heap.size w wr) := ⟨hR, hA, hb⟩
      clear hR hA hb
      go_wp2
      go_ret
      exact ⟨w.heap.size, rfl, Nat.le_refl _, HS.out.1.lt, ⟨⟨_, _, rfl, fun _ => ⟨rfl, _, f, HS.out.1, Nat.le_refl _, fun i e hi => HS.out.2.1 i e (List.getElem?_eq_some_iff.1 hi).1 hi⟩⟩, by omega⟩, HS.out.2.2⟩
set_option maxHeartbeats 2000000 in
theorem eqN_any (v v' : Value) (zs : List Int) (w : World) (h : RowN w v zs) (h' : RowN w v' zs) :
    Calls Try.prog 20 #[v, v'] w fun e w' => e = .returned (.bool true) ∧ Below w.heap.size w w' := by
  have hlen := h.len
  obtain ⟨a, cap, rfl⟩ := h.val
  obtain ⟨a', cap', rfl⟩ := h'.val
  have H : Hid (RowN w (.slice a zs.length cap) zs ∧ RowN w (.slice a' zs.length cap') zs) := ⟨h, h'⟩
  clear h h'
  go_enter Try.func20, Try.ntmps20
  go_wp2
  go_loopw [5] (fun i wr => ∃ k : Nat, i = .int .i64 (k : Int) ∧ k ≤ zs.length ∧ Below w.heap.size w wr) (fun i _ => zs.length - (intOf i).toNat)
  case atStart => exact ⟨0, rfl, by omega, Below.refl _ _⟩
  case round =>
    obtain ⟨k, rfl, hk, hb⟩ := hrel
    by_cases hlt : k < zs.length
    · have hlt' : (k : Int) < (zs.length : Int) := by omega
      obtain ⟨b, o, c1, z, e, hs, q0⟩ := (H.out.1.below hb).at hlt
      obtain ⟨b', o', c2, z', e', hs', p0⟩ := (H.out.2.below hb).at hlt
      simp only [Value.slice.injEq, true_and] at e e'
      obtain ⟨rfl, rfl⟩ := e
      obtain ⟨rfl, rfl⟩ := e'
      obtain rfl : z = z' := by rw [hs] at hs'; exact Option.some.inj hs'
      have HB : Hid (Below w.heap.size w wr) := hb
      clear hs hs' hb
      go_wp2
      all_goals first
        | (go_quiet (fail); go_wp2; go_roundw; (case rel => exact ⟨k + 1, by go_num, by omega, below_drewN HB.out _⟩); (case measure => simp [intOf]; omega))
        | (go_roundw; (case rel => exact ⟨k + 1, by go_num, by omega, HB.out⟩); (case measure => simp [intOf]; omega))
    · obtain rfl : k = zs.length := by omega
      have HB : Hid (Below w.heap.size w wr) := hb
      clear hb
      go_wp2
      go_ret
      exact ⟨rfl, HB.out⟩
/-- What the marks make of it. -/
def mkNs (k : Int) (n : Nat) : List Int := (List.range n).map fun i : Nat => k + (i : Int)
theorem mkNs_len (k : Int) (n : Nat) : (mkNs k n).length = n := by simp [mkNs]
theorem mkNs_at {k : Int} {n i : Nat} {z : Int} (h : (mkNs k n)[i]? = some z) : i < n ∧ z = k + (i : Int) := by
  have hi := (List.getElem?_eq_some_iff.1 h).1
  rw [mkNs_len] at hi
  refine ⟨hi, ?_⟩
  simpa [mkNs, hi] using h.symm
set_option maxHeartbeats 2000000 in
theorem markN_any (b : Nat) (v : Value) (zs : List Int) (k : Int) (w : World) (h : LN b w v zs) (hk : 0 ≤ k ∧ k + (zs.length : Int) ≤ 9000000000000000000) :
    Calls Try.prog 21 #[v, .int .i64 k] w fun e w' => e = .returned (.int .i64 (k + (zs.length : Int))) ∧ LN b w' v (mkNs k zs.length) ∧ Keep b w w' := by
  have hlen := h.len
  obtain ⟨a, cap, rfl⟩ := h.val
  have H : Hid (LN b w (.slice a zs.length cap) zs) := h
  clear h
  go_enter Try.func21, Try.ntmps21
  go_wp2
  go_loopw [1, 5] (fun q i wr => ∃ j : Nat, q = .int .i64 (k + (j : Int)) ∧ i = .int .i64 (j : Int) ∧ j ≤ zs.length ∧ LN b wr (.slice a zs.length cap) ((mkNs k j) ++ zs.drop j) ∧ Keep b w wr) (fun _ i _ => zs.length - (intOf i).toNat)
  case atStart => exact ⟨0, by simp, rfl, by omega, by simpa [mkNs] using H.out, Keep.refl _ _⟩
  case round =>
    obtain ⟨j, rfl, rfl, hj, hL, hK⟩ := hrel
    have hll : (mkNs k j ++ zs.drop j).length = zs.length := by rw [List.length_append, mkNs_len, List.length_drop]; omega
    by_cases hlt : j < zs.length
    · have hlt' : (j : Int) < (zs.length : Int) := by omega
      obtain ⟨a', cap', e, hc⟩ := hL.shape
      rw [hll] at e
      simp only [Value.slice.injEq, true_and] at e
      obtain ⟨rfl, rfl⟩ := e
      obtain ⟨rfl, n, f, hR, hn, hf⟩ := hc (by intro e; rw [e] at hll; simp at hll; omega)
      rw [hll] at hn
      obtain ⟨z0, hz0⟩ : ∃ z, (mkNs k j ++ zs.drop j)[j]? = some z := ⟨_, List.getElem?_eq_getElem (by omega)⟩
      have k0 := hR.cell (i := j) (by omega)
      rw [hf j z0 hz0] at k0
      have hfz := hR.frozen
      have HS : Hid (wr.rowIs b 2 n f ∧ (∀ (i : Nat) (z : Int), (mkNs k j ++ zs.drop j)[i]? = some z → f i = .int .i64 z) ∧ Keep b w wr) := ⟨hR, hf, hK⟩
      clear hR hf hK hL hz0 hc
      go_wp2
      go_roundw
      case rel =>
        refine ⟨j + 1, by go_num, by go_num, by omega, ⟨⟨_, cap, ?_, fun _ => ⟨rfl, n, _, HS.out.1.set j _, ?_, fun i z hz => ?_⟩⟩, ?_⟩, HS.out.2.2.setCell _ _⟩
        · rw [List.length_append, mkNs_len, List.length_drop, show j + 1 + (zs.length - (j + 1)) = zs.length by omega]
        · rw [List.length_append, mkNs_len, List.length_drop]; omega
        · by_cases e1 : i = j
          · subst e1
            rw [if_pos rfl]
            rw [List.getElem?_append_left (by rw [mkNs_len]; omega)] at hz
            obtain ⟨_, rfl⟩ := mkNs_at hz
            rfl
          · rw [if_neg e1]
            refine HS.out.2.1 i z ?_
            by_cases e2 : i < j
            · rw [List.getElem?_append_left (by rw [mkNs_len]; omega)] at hz ⊢
              obtain ⟨_, rfl⟩ := mkNs_at hz
              rw [mkNs, List.getElem?_map, List.getElem?_range e2]
              rfl
            · rw [List.getElem?_append_right (by rw [mkNs_len]; omega), mkNs_len, List.getElem?_drop] at hz ⊢
              rw [← hz]
              congr 1
              omega
        · rw [List.length_append, mkNs_len, List.length_drop]; omega
      case measure => simp [intOf]; omega
    · obtain rfl : j = zs.length := by omega
      have HS : Hid (LN b wr (.slice a zs.length cap) (mkNs k zs.length) ∧ Keep b w wr) := ⟨by rw [List.drop_length, List.append_nil] at hL; exact hL, hK⟩
      clear hL hK
      go_wp2
      go_ret
      exact ⟨rfl, HS.out.1, HS.out.2⟩
set_option maxHeartbeats 2000000 in
theorem heldN_any (v : Value) (n : Nat) (k : Int) (w : World) (h : RowN w v (mkNs k n)) (hk : 0 ≤ k ∧ k + (n : Int) ≤ 9000000000000000000) :
    Calls Try.prog 22 #[v, .int .i64 k] w fun e w' => e = .returned (.int .i64 (k + (n : Int))) ∧ Below w.heap.size w w' := by
  have hlen := h.len
  obtain ⟨a, cap, hv⟩ := h.val
  rw [mkNs_len] at hlen hv
  subst hv
  have H : Hid (RowN w (.slice a n cap) (mkNs k n)) := h
  clear h
  go_enter Try.func22, Try.ntmps22
  go_wp2
  go_loopw [1, 5] (fun q i wr => ∃ j : Nat, q = .int .i64 (k + (j : Int)) ∧ i = .int .i64 (j : Int) ∧ j ≤ n ∧ Below w.heap.size w wr) (fun _ i _ => n - (intOf i).toNat)
  case atStart => exact ⟨0, by simp, rfl, by omega, Below.refl _ _⟩
  case round =>
    obtain ⟨j, rfl, rfl, hj, hb⟩ := hrel
    have HB : Hid (Below w.heap.size w wr) := hb
    by_cases hlt : j < n
    · have hlt' : (j : Int) < (n : Int) := by omega
      obtain ⟨b, o, c1, g, e, hs, q0⟩ := (H.out.below hb).at (k := j) (by rw [mkNs_len]; exact hlt)
      simp only [mkNs_len, Value.slice.injEq, true_and] at e
      obtain ⟨rfl, rfl⟩ := e
      obtain ⟨_, rfl⟩ := mkNs_at hs
      clear hs hb
      go_wp2
      go_roundw
      case rel => exact ⟨j + 1, by go_num, by go_num, by omega, HB.out⟩
      case measure => simp [intOf]; omega
    · obtain rfl : j = n := by omega
      clear hb
      go_wp2
      go_ret
      exact ⟨rfl, HB.out⟩
end Go.Proofs.Ytnnfkifjkmodpaa
