/- Texts of ours put together: OuG. -/
import Derived.Test.YtiakkpglnijapaaG15
import Derived.Test.YtiakkpglnijapaaG14
import Derived.Test.YtiakkpglnijapaaG26
import Derived.BigFrame
namespace Go.Proofs.Ytiakkpglnijapaa
open Go.ChangeShapes Go.WideShapes Go.ChangeAt Go.RowKit
/-- An append of nothing. -/
theorem run_append_none (W : World) (ty n C c : Nat) (A a : Option Addr) (hn : n ≤ C) (hA : A = none → n = 0 ∧ C = 0) : (Builtin.append_ #[23, 23] ty #[.slice A n C, .slice a 0 c]).run Try.prog W = .ok (.slice A n C) W := by
  obtain ⟨i0, hi, hz0, hz1, hz2⟩ := info_parts infoOuA
  cases A with
  | none =>
    obtain ⟨rfl, rfl⟩ := hA rfl
    cases a with
    | none => simp [Builtin.append_, run_underlying Try.underlying23, sizeOf, typeInfo, hi, Builtin.lenOf, Builtin.firstCells]
    | some a => simp [Builtin.append_, run_underlying Try.underlying23, sizeOf, typeInfo, hi, Builtin.lenOf, Builtin.firstCells, loadCells, loadCellsFrom]
  | some A =>
    cases a with
    | none => simp [Builtin.append_, run_underlying Try.underlying23, sizeOf, typeInfo, hi, Builtin.lenOf, Builtin.firstCells, storeCells, hn]
    | some a => simp [Builtin.append_, run_underlying Try.underlying23, sizeOf, typeInfo, hi, Builtin.lenOf, Builtin.firstCells, storeCells, loadCells, loadCellsFrom, hn]
/-- An append of a list, whatever it is. -/
theorem wpList_anyOu {ops : Array Oper} {rest : List Oper} {o : Oper} {a : Act} {Q : Exit → Act → World → Prop} {W : World} {base : Nat} {lv xv : Value} {rs ms : List OutR} (hgd : o.guard = none) (s x : Operand)
    (ho : o.op = .call { callee := .builtin .append, args := #[s, x], argTypes := #[23, 23] })
    (hs' : a.eval s = lv) (hx : a.eval x = xv) (h : W.ownsRow base 25 5 lv rs.length (clOus rs)) (hg : RowOu W xv ms) (hl : rs.length + ms.length ≤ 2000000) (hbase : base ≤ W.heap.size)
    (k : ∀ v' w', w'.ownsRow base 25 5 v' (rs ++ ms).length (clOus (rs ++ ms)) → Below base W w' → (∃ A C, v' = .slice A (rs ++ ms).length C) → wpList Try.prog ops Q rest (a.put o.dst v') w') : wpList Try.prog ops Q (o :: rest) a W := by
  by_cases hm : ms = []
  · subst hm
    obtain ⟨A, C, rfl⟩ := hg.val
    have e0 : rs ++ [] = rs := List.append_nil rs
    rw [e0] at k
    rcases h.2 with ⟨rfl, h0⟩ | ⟨b, cap, cur, rfl, hb, hh, hc, hmx, hsz, ht⟩
    · have hr := run_append_none W o.type 0 0 C none A (Nat.le_refl _) (fun _ => ⟨rfl, rfl⟩)
      refine wpList_plain hgd fun _ hK => ?_
      unfold Oper.wp execOp
      simp only [List.length_nil] at hx
      simp only [ho, resolve, invoke, builtin, Sem.run_bind, Sem.run_pure, Result.andThen_ok, List.map_toArray, List.map_cons, List.map_nil, hs', hx, hr]
      exact hK _ _ (k _ _ h (Below.refl _ _) ⟨none, 0, by rw [h0]⟩)
    · have hr := run_append_none W o.type rs.length cap C (some ⟨b, 0, none⟩) A hc (fun e => by cases e)
      refine wpList_plain hgd fun _ hK => ?_
      unfold Oper.wp execOp
      simp only [List.length_nil] at hx
      simp only [ho, resolve, invoke, builtin, Sem.run_bind, Sem.run_pure, Result.andThen_ok, List.map_toArray, List.map_cons, List.map_nil, hs', hx, hr]
      exact hK _ _ (k _ _ h (Below.refl _ _) ⟨_, _, rfl⟩)
  · obtain ⟨A, C, e, hc⟩ := hg.shape
    obtain ⟨b, o', rfl, _⟩ := hc hm
    subst e
    refine wpList_appsOu hgd s x ho hs' hx h hg hl hbase fun v' w' h1 h2 h3 => k v' w' h1 ⟨h2.os, h2.tape, h2.output, h2.size, fun q hq => h2.block q (by omega) (fun e => by have := (h.lt q e.symm).1; omega)⟩ h3
theorem run_appN (w : World) (ty k : Nat) (hk : 0 < k) (hb : k ≤ 100000) : ∃ (cap : Nat) (R : Array Value), k ≤ cap ∧ cap ≤ 9223372036854775807 ∧ R.size = cap * 5 ∧ (Builtin.append_ #[23, 3] ty #[.slice none 0 0, .int .i64 (k : Int)]).run Try.prog w = .ok (.slice (some ⟨w.heap.size, 0, none⟩) k cap) (w.drew.alloc (.cells R 25)) := by
  obtain ⟨i0, hi0, hz0, hz1, hz2⟩ := info_parts infoOuA
  have hold : (Builtin.firstCells i0.size 0 (.slice none 0 0)).run Try.prog w.drew = .ok ([] : List Value).toArray w.drew := by
    simp [Builtin.firstCells]
  have hnx : Builtin.nextslicecap (0 + k) 0 * i0.bytes ≤ 281474976710656 := by
    rw [hz2]
    have := nextslicecap_le (show 0 < 0 + k by omega)
    omega
  have hr := Lib.run_append_grow_zeros (P := Try.prog) w 23 3 ty 25 i0 (.agg #[.string ⟨#[]⟩, .int .i64 0, .string ⟨#[]⟩, .int .i64 0, .int .i64 0]) .i64 .i64 Try.underlying23 Try.underlying3 hi0 hz0 none 0 0 [] hold k hk (by rw [hz1]; omega) (by omega) (by omega) (by rw [hz2]; omega) hnx
  rw [Nat.zero_add] at hr
  have hge := grownCap_ge w k 0 25
  refine ⟨_, _, hge, by have := grownCap_le_maxLen w k 0 25 (by unfold maxLen; omega); unfold maxLen at this; omega, ?_, hr⟩
  have e5 : (Value.agg #[.string ⟨#[]⟩, .int .i64 0, .string ⟨#[]⟩, .int .i64 0, .int .i64 0]).cells.size = 5 := rfl
  simp only [Array.size_append, size_zeroCells, List.size_toArray, List.length_nil, e5]
  omega
set_option maxRecDepth 100000 in
set_option maxHeartbeats 4000000 in
theorem grow_any (n : Nat) (w : World) (hn : n ≤ 1000) : Calls Try.prog 51 #[.slice none 0 0, .int .i64 (n : Int)] w fun e w' => ∃ v, e = .returned v ∧ w'.ownsRow w.heap.size 25 5 v 0 (clOus []) ∧ (∃ A C, v = .slice A 0 C) ∧ Below w.heap.size w w' := by
  rcases Nat.eq_zero_or_pos n with rfl | h0
  · go_enter Try.func51, Try.ntmps51
    go_wp2
    go_ret
    exact ⟨_, rfl, World.ownsRow_nil w w.heap.size 25 5, ⟨none, 0, rfl⟩, Below.refl _ _⟩
  · have h0' : (0 : Int) < (n : Int) := by omega
    obtain ⟨cap, R, hcap, hcm, hR, happ⟩ := run_appN w 23 n h0 (by omega)
    obtain ⟨W2, hW2⟩ : ∃ W2, W2 = w.drew.alloc (.cells R 25) := ⟨_, rfl⟩
    have hb2 : Below w.heap.size w W2 := by rw [hW2]; exact (Below.refl _ _).drew.alloc (Nat.le_refl _) _
    have hg2 : W2.heap[w.heap.size]? = some (.cells R 25) := by rw [hW2]; exact World.alloc_heap_new w.drew _
    obtain ⟨G, hG⟩ : ∃ G, G = w.heap.size := ⟨_, rfl⟩
    rw [← hW2, ← hG] at happ
    rw [← hG] at hg2
    have HF : Hid (W2.ownsRow w.heap.size 25 5 (.slice (some ⟨G, 0, none⟩) 0 cap) 0 (clOus []) ∧ Below w.heap.size w W2) := ⟨⟨rfl, .inr ⟨G, cap, R, rfl, by omega, hg2, by omega, by unfold maxLen; omega, hR, by simp [clOus]⟩⟩, hb2⟩
    have hcz : ¬ (cap = 0) := by omega
    have hcz' : ¬ ((cap : Int) = 0) := by omega
    clear hW2 hb2 hg2 hG hR
    go_enter Try.func51, Try.ntmps51
    go_wp2_with (at_builtin; refine wpList_appR rfl _ _ rfl _ _ rfl rfl happ ?_)
    go_ret
    exact ⟨_, rfl, HF.out.1, ⟨_, _, rfl⟩, HF.out.2⟩
set_option maxRecDepth 100000 in
set_option maxHeartbeats 8000000 in
theorem concat_any (c : Nat) (u1 u2 : Value) (xs ys : List OutR) (w : World) (h0 : w.cell? ⟨c, 0, none⟩ = some u1) (h1 : w.cell? ⟨c, 1, none⟩ = some u2) (hx : RowOu w u1 xs) (hy : RowOu w u2 ys) (hl : xs.length + ys.length ≤ 1000) (hz : ∀ x, x ∈ xs ∨ x ∈ ys → x.partner.size ≤ 9223372036854775807 ∧ x.text.size ≤ 9223372036854775807) :
    Calls Try.prog 29 #[.slice (some ⟨c, 0, none⟩) 2 2] w fun e w' => ∃ u, e = .returned u ∧ RowOu w' u (xs ++ ys) ∧ Below w.heap.size w w' := by
  obtain ⟨A1, C1, rfl⟩ := hx.val
  obtain ⟨A2, C2, rfl⟩ := hy.val
  have HR : Hid (∀ W, Below w.heap.size w W → W.cell? ⟨c, 0, none⟩ = some (.slice A1 xs.length C1) ∧ W.cell? ⟨c, 1, none⟩ = some (.slice A2 ys.length C2) ∧ RowOu W (.slice A1 xs.length C1) xs ∧ RowOu W (.slice A2 ys.length C2) ys) := fun W hW => ⟨(hW.cell (cell_lt h0)).trans h0, (hW.cell (cell_lt h1)).trans h1, hx.below hW, hy.below hW⟩
  have HZ : Hid (∀ x, x ∈ xs ∨ x ∈ ys → x.partner.size ≤ 9223372036854775807 ∧ x.text.size ≤ 9223372036854775807) := hz
  clear hx hy hz
  go_enter Try.func29, Try.ntmps29
  go_wp2_with fail
  go_loopw [3, 11] (fun sz i wr => wr = w ∧ ((i = .int .i64 0 ∧ sz = .int .i64 0) ∨ (i = .int .i64 1 ∧ sz = .int .i64 (xs.length : Int)) ∨ (i = .int .i64 2 ∧ sz = .int .i64 ((xs.length : Int) + (ys.length : Int))))) (fun _ i _ => 2 - (intOf i).toNat)
  case atStart => exact ⟨rfl, .inl ⟨rfl, rfl⟩⟩
  case round =>
    obtain ⟨hww, hrel⟩ := hrel
    have hww' := hww.symm
    clear hww
    subst hww'
    obtain ⟨rfl, rfl⟩ | ⟨rfl, rfl⟩ | ⟨rfl, rfl⟩ := hrel
    · have g0 : ¬ ((xs.length : Int) < 0) := by omega
      go_wp2
      go_roundw
      case rel => exact ⟨by trivial, .inr (.inl ⟨by go_num, by go_num⟩)⟩
      case measure => simp [intOf]
    · have g0 : ¬ ((xs.length : Int) + (ys.length : Int) < 0) := by omega
      go_wp2
      go_roundw
      case rel => exact ⟨by trivial, .inr (.inr ⟨by go_num, by go_num⟩)⟩
      case measure => simp [intOf]
    · go_wp2_with fail
      have e : (xs.length : Int) + (ys.length : Int) = ((xs.length + ys.length : Nat) : Int) := by omega
      rw [e]
      refine (grow_any (xs.length + ys.length) _ (by omega)).mono ?_
      rintro e1 w1 ⟨v1, rfl, ho1, ⟨A3, C3, rfl⟩, hb1⟩
      have H1 : Hid (Below w.heap.size w w1 ∧ w1.ownsRow w.heap.size 25 5 (.slice A3 ([] : List OutR).length C3) ([] : List OutR).length (clOus [])) := ⟨hb1, ho1⟩
      clear hb1 ho1 e h0 h1
      go_wp2_with fail
      go_loopw [6, 27] (fun lv i wx => ∃ (A : Option Addr) (C : Nat) (ts : List OutR), lv = .slice A ts.length C ∧ wx.ownsRow w.heap.size 25 5 (.slice A ts.length C) ts.length (clOus ts) ∧ Below w.heap.size w wx ∧ ((i = .int .i64 0 ∧ ts = []) ∨ (i = .int .i64 1 ∧ ts = xs) ∨ (i = .int .i64 2 ∧ ts = xs ++ ys))) (fun _ i _ => 2 - (intOf i).toNat)
      case atStart => exact ⟨A3, C3, [], rfl, H1.out.2, H1.out.1, .inl ⟨rfl, rfl⟩⟩
      case round =>
        obtain ⟨A4, C4, ts, rfl, ho, hb, hrel⟩ := hrel
        obtain ⟨hc0, hc1, hr0, hr1⟩ := HR.out wr hb
        have hsz := hb.size
        have HB : Hid (Below w.heap.size w wr ∧ wr.ownsRow w.heap.size 25 5 (.slice A4 ts.length C4) ts.length (clOus ts)) := ⟨hb, ho⟩
        clear hb
        obtain ⟨rfl, ht⟩ | ⟨rfl, ht⟩ | ⟨rfl, ht⟩ := hrel
        · have htl : ts.length = 0 := by rw [ht]; rfl
          have HT : Hid (ts = []) := ht
          clear ht hr1
          go_wp2_with (first | (at_builtin; refine wpList_anyOu rfl _ _ rfl rfl rfl ho hr0 (by omega) hsz ?_; rintro v5 w5 ho5 hb5 ⟨A5, C5, rfl⟩))
          have H5 : Hid (w5.ownsRow w.heap.size 25 5 (.slice A5 xs.length C5) xs.length (clOus xs) ∧ Below w.heap.size w w5 ∧ (ts ++ xs).length = xs.length ∧ ts.length + xs.length = xs.length) := by
            have e : ts ++ xs = xs := by rw [HT.out]; rfl
            rw [e] at ho5
            exact ⟨ho5, HB.out.1.trans hb5, by rw [e], by omega⟩
          clear ho5 hb5 ho htl
          go_wp2
          go_roundw
          case rel => exact ⟨A5, C5, xs, by first | rfl | rw [H5.out.2.2.1] | rw [H5.out.2.2.2], H5.out.1, H5.out.2.1, .inr (.inl ⟨by go_num, rfl⟩)⟩
          case measure => simp [intOf]
        · have htl : ts.length = xs.length := by rw [ht]
          have HT : Hid (ts = xs) := ht
          clear ht hr0
          go_wp2_with (first | (at_builtin; refine wpList_anyOu rfl _ _ rfl rfl rfl ho hr1 (by omega) hsz ?_; rintro v5 w5 ho5 hb5 ⟨A5, C5, rfl⟩))
          have H5 : Hid (w5.ownsRow w.heap.size 25 5 (.slice A5 (xs ++ ys).length C5) (xs ++ ys).length (clOus (xs ++ ys)) ∧ Below w.heap.size w w5 ∧ (ts ++ ys).length = (xs ++ ys).length ∧ ts.length + ys.length = (xs ++ ys).length ∧ xs.length + ys.length = (xs ++ ys).length) := by
            have e : ts ++ ys = xs ++ ys := by rw [HT.out]
            rw [e] at ho5
            exact ⟨ho5, HB.out.1.trans hb5, by rw [e], by simp; omega, by simp⟩
          clear ho5 hb5 ho htl
          go_wp2
          go_roundw
          case rel => exact ⟨A5, C5, xs ++ ys, by first | rfl | rw [H5.out.2.2.1] | rw [H5.out.2.2.2.1] | rw [H5.out.2.2.2.2], H5.out.1, H5.out.2.1, .inr (.inr ⟨by go_num, rfl⟩)⟩
          case measure => simp [intOf]
        · have HT : Hid (ts = xs ++ ys) := ht
          clear ht ho
          go_wp2
          go_ret
          obtain ⟨b, _, hL⟩ := LOu.of_owns HB.out.2 (by rw [HT.out]; simp; omega) (fun i g hi => by
            rw [HT.out] at hi
            exact HZ.out g (List.mem_append.1 (List.mem_of_getElem? hi)))
          have hrow := hL.row
          refine ⟨_, rfl, ?_, HB.out.1⟩
          rw [← HT.out]
          exact hrow
end Go.Proofs.Ytiakkpglnijapaa
