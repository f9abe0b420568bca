/- Texts of ours put together: RowN. -/
import Derived.Test.YtibjmokhkjklkaaDoorG01
import Derived.Laws.AppendOwn
import Derived.Deep.QuietTactic
import Derived.BigQuiet
import Derived.BigRegion
namespace Go.Proofs.YtibjmokhkjklkaaDoor
open Go.ChangeShapes Go.WideShapes Go.ChangeAt Go.RowKit
/-- A list of numbers. -/
structure RowN (W : World) (v : Value) (zs : List Int) : Prop where
  shape : ∃ a cap, v = .slice a zs.length cap ∧ (zs ≠ [] → ∃ b o, a = some ⟨b, o, none⟩ ∧ ∀ (i : Nat) (z : Int), zs[i]? = some z → W.cell? ⟨b, o + i, none⟩ = some (.int .i64 z))
  len : zs.length ≤ 9223372036854775807
theorem RowN.below {W W' : World} {v : Value} {zs : List Int} (h : RowN W v zs) (hb : Below W.heap.size W W') : RowN W' v zs := by
  obtain ⟨a, cap, e, hc⟩ := h.shape
  refine ⟨⟨a, cap, e, fun hn => ?_⟩, h.len⟩
  obtain ⟨b, o, ea, hcell⟩ := hc hn
  exact ⟨b, o, ea, fun i g hi => (hb.cell (cell_lt (hcell i g hi))).trans (hcell i g hi)⟩
theorem RowN.at {W : World} {v : Value} {zs : List Int} (h : RowN W v zs) {k : Nat} (hk : k < zs.length) : ∃ b o cap z, v = .slice (some ⟨b, o, none⟩) zs.length cap ∧ zs[k]? = some z ∧ W.cell? ⟨b, o + k, none⟩ = some (.int .i64 z) := by
  obtain ⟨a, cap, e, hc⟩ := h.shape
  obtain ⟨b, o, rfl, hcell⟩ := hc (by intro g; rw [g] at hk; simp at hk)
  have hs : zs[k]? = some zs[k] := List.getElem?_eq_getElem hk
  exact ⟨b, o, cap, _, e, hs, hcell k _ hs⟩
theorem RowN.val {W : World} {v : Value} {zs : List Int} (h : RowN W v zs) : ∃ a cap, v = .slice a zs.length cap := by
  obtain ⟨a, cap, e, _⟩ := h.shape
  exact ⟨a, cap, e⟩
/-- A list in a block of its own, b, whose row may be longer; nil if it has none. -/
structure LN (b : Nat) (W : World) (v : Value) (zs : List Int) : Prop where
  shape : ∃ a cap, v = .slice a zs.length cap ∧ (zs ≠ [] → a = some ⟨b, 0, none⟩ ∧ ∃ (n : Nat) (f : Nat → Value), W.rowIs b 2 n f ∧ zs.length ≤ n ∧ ∀ (i : Nat) (z : Int), zs[i]? = some z → f i = .int .i64 z)
  len : zs.length ≤ 9223372036854775807
theorem LN.row {b : Nat} {W : World} {v : Value} {zs : List Int} (h : LN b W v zs) : RowN W v zs := by
  obtain ⟨a, cap, e, hc⟩ := h.shape
  refine ⟨⟨a, cap, e, fun hn => ?_⟩, h.len⟩
  obtain ⟨ea, m, f, hR, hm, hf⟩ := hc hn
  refine ⟨b, 0, ea, fun i g hi => ?_⟩
  have hlt := (List.getElem?_eq_some_iff.1 hi).1
  have c0 := hR.cell (i := i) (by omega)
  rw [hf i g hi] at c0
  rw [Nat.zero_add]
  exact c0
theorem LN.of_block {b : Nat} {W W' : World} {v : Value} {zs : List Int} (h : LN b W v zs) (hb : zs ≠ [] → W'.heap[b]? = W.heap[b]?) : LN b W' v zs := by
  obtain ⟨a, cap, e, hc⟩ := h.shape
  refine ⟨⟨a, cap, e, fun hn => ?_⟩, h.len⟩
  obtain ⟨ea, m, f, hR, hm, hf⟩ := hc hn
  exact ⟨ea, m, f, hR.of_block (hb hn), hm, hf⟩
theorem LN.lt {b : Nat} {W : World} {v : Value} {zs : List Int} (h : LN b W v zs) (hn : zs ≠ []) : b < W.heap.size := by
  obtain ⟨a, cap, e, hc⟩ := h.shape
  obtain ⟨ea, m, f, hR, hm, hf⟩ := hc hn
  exact hR.lt
theorem LN.below {b : Nat} {W W' : World} {v : Value} {zs : List Int} (h : LN b W v zs) (hb : Below W.heap.size W W') : LN b W' v zs := h.of_block fun hn => hb.block b (h.lt hn)
theorem LN.keep {b c : Nat} {W W' : World} {v : Value} {zs : List Int} (h : LN b W v zs) (hb : Keep c W W') (hne : zs ≠ [] → b ≠ c) : LN b W' v zs := h.of_block fun hn => hb.block b (h.lt hn) (hne hn)
theorem LN.val {b : Nat} {W : World} {v : Value} {zs : List Int} (h : LN b W v zs) : ∃ a cap, v = .slice a zs.length cap := by
  obtain ⟨a, cap, e, _⟩ := h.shape
  exact ⟨a, cap, e⟩
/-- Made by appends, read. -/
theorem LN.of_owns {W : World} {base : Nat} {v : Value} {zs : List Int} (h : W.ownsRow base 2 1 v zs.length (zs.map (Value.int .i64))) (hl : zs.length ≤ 9223372036854775807) : ∃ b, base ≤ b ∧ LN b W v zs := by
  rcases h.2 with ⟨rfl, h0⟩ | ⟨b, cap, cur, rfl, hb, hh, hc, hm, hs, ht⟩
  · refine ⟨base, Nat.le_refl _, ⟨none, 0, by rw [h0], fun hn => absurd (List.eq_nil_of_length_eq_zero h0) hn⟩, hl⟩
  · refine ⟨b, hb, ⟨_, _, rfl, fun _ => ⟨rfl, cap * 1, fun i => cur[i]?.getD undef, ⟨cur, hh, hs, fun i hi => by (have hi' : i < cur.size := by omega); simp [hi']⟩, by omega, fun i g hi => ?_⟩⟩, hl⟩
    have hlt := (List.getElem?_eq_some_iff.1 hi).1
    have e : (cur.toList.take (zs.length * 1))[i]? = some (.int .i64 g) := by
      rw [ht, List.getElem?_map, hi]
      rfl
    rw [List.getElem?_take_of_lt (by omega), Array.getElem?_toList] at e
    show cur[i]?.getD undef = _
    rw [e]
    rfl
theorem infoN : (Tryd.prog.info? 2).map (fun i => (i.zero, i.size, i.bytes)) = some (some (.int .i64 0), 1, 8) := by kernel_rfl
/-- An append of one. -/
theorem wpList_appN {ops : Array Oper} {rest : List Oper} {o : Oper} {a : Act} {Q : Exit → Act → World → Prop} {W : World} {base c C : Nat} {lv : Value} {zs : List Int} {z : Int} (hgd : o.guard = none) (s x : Operand)
    (ho : o.op = .call { callee := .builtin .append, args := #[s, x], argTypes := #[24, 24] })
    (hs' : a.eval s = lv) (hx : a.eval x = .slice (some ⟨c, 0, none⟩) 1 C) (h : W.ownsRow base 2 1 lv zs.length (zs.map (Value.int .i64))) (hg : W.cell? ⟨c, 0, none⟩ = some (.int .i64 z)) (hl : zs.length + 1 ≤ 1000000) (hbase : base ≤ W.heap.size)
    (k : ∀ v' w', w'.ownsRow base 2 1 v' (zs ++ [z]).length ((zs ++ [z]).map (Value.int .i64)) → W.grownBy w' lv.ownBlock → (∃ A C, v' = .slice A (zs.length + 1) C) → wpList Tryd.prog ops Q rest (a.put o.dst v') w') : wpList Tryd.prog ops Q (o :: rest) a W := by
  obtain ⟨i0, hi, hz0, hz1, hz2⟩ := info_parts infoN
  refine wpList_append_own W hgd s x 24 ho base 2 i0 (.int .i64 0) 1 8 Tryd.underlying24 hi hz0 hz1 hz2 rfl (by decide) lv zs.length (zs.map (Value.int .i64)) hs' h ⟨c, 0, none⟩ 1 C [.int .i64 z] hx rfl (fun j u hu => ?_) (fun u hu => ?_) (by unfold maxLen; omega) (by omega) hbase ?_
  · rw [fl_addr]
    have hj := (List.getElem?_eq_some_iff.1 hu).1
    have hj3 : j < 1 := hj
    match j, hj3 with
    | 0, _ =>
      cases hu
      simpa using hg
  · simp only [List.mem_cons, List.not_mem_nil, or_false] at hu
    subst hu
    rfl
  · intro v' w' hown hgrow hnil
    have e1 : (zs ++ [z]).length = zs.length + 1 := by simp
    have hown' : w'.ownsRow base 2 1 v' (zs ++ [z]).length ((zs ++ [z]).map (Value.int .i64)) := by
      rw [e1, List.map_append]
      exact hown
    refine k v' w' hown' hgrow ?_
    rcases hown'.2 with ⟨rfl, h0⟩ | ⟨b, cap, cur, rfl, _⟩
    · rw [e1] at h0
      omega
    · exact ⟨_, _, by rw [e1]⟩
theorem appN_below {W5 W W' : World} {x : Obj} {lv : Value} {n : Nat} {xs : List Value} {N : Nat} (hb : Below N W5 W) (hN : N ≤ W5.heap.size) (ho : W.ownsRow N 2 1 lv n xs) (hg : (W.alloc x).grownBy W' lv.ownBlock) : Below N W5 W' := by
  have hs := hb.size
  refine (hb.alloc (by omega) x).trans ⟨hg.os, hg.tape, hg.output, hg.size, fun q hq => hg.block q (by simp; omega) (fun e => ?_)⟩
  have := (ho.lt q e.symm).1
  omega
end Go.Proofs.YtibjmokhkjklkaaDoor
