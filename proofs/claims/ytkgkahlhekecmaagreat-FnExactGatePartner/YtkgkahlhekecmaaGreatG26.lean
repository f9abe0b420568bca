/- Texts of ours put together: AppDf, DfC, AppOu, OuD. -/
import Derived.Test.YtkgkahlhekecmaaGreatG01
import Derived.Laws.AppendOwn
import Derived.Maps.AppendAt
import Derived.Test.YtkgkahlhekecmaaGreatG16
import Derived.Test.YtkgkahlhekecmaaGreatG20
import Derived.Deep.RegionHeld3
namespace Go.Proofs.YtkgkahlhekecmaaGreat
open Go.ChangeShapes Go.WideShapes Go.ChangeAt Go.RowKit
theorem infoDfA : (Tryz.prog.info? 110).map (fun i => (i.zero, i.size, i.bytes)) = some (some (.agg #[.int .i64 0, .string ⟨#[]⟩, .string ⟨#[]⟩, .int .i64 0, .string ⟨#[]⟩, .int .i64 0]), 6, 72) := by kernel_rfl
/-- Its cells, one behind the other. -/
def clDf (g : Dff) : List Value := [.int .i64 g.kind, .string g.partner, .string g.ref, .int .i64 g.no, .string g.item, .int .i64 g.qty]
def clDfs (rs : List Dff) : List Value := rs.flatMap clDf
theorem clDfs_len (rs : List Dff) : (clDfs rs).length = rs.length * 6 := by
  induction rs with
  | nil => rfl
  | cons g r ih =>
    have : clDfs (g :: r) = clDf g ++ clDfs r := rfl
    rw [this, List.length_append, ih, List.length_cons]
    have : (clDf g).length = 6 := rfl
    omega
theorem clDfs_app (rs : List Dff) (g : Dff) : clDfs (rs ++ [g]) = clDfs rs ++ clDf g := by simp [clDfs]
theorem clDfs_at : ∀ {rs : List Dff} {i : Nat} {g : Dff}, rs[i]? = some g → (clDfs rs)[i * 6]? = some (.int .i64 g.kind) ∧ (clDfs rs)[i * 6 + 1]? = some (.string g.partner) ∧ (clDfs rs)[i * 6 + 2]? = some (.string g.ref) ∧ (clDfs rs)[i * 6 + 3]? = some (.int .i64 g.no) ∧ (clDfs rs)[i * 6 + 4]? = some (.string g.item) ∧ (clDfs rs)[i * 6 + 5]? = some (.int .i64 g.qty)
  | [], i, g, h => by simp at h
  | x :: r, 0, g, h => by
    simp only [List.getElem?_cons_zero, Option.some.injEq] at h
    subst h
    refine ⟨rfl, rfl, rfl, rfl, rfl, rfl⟩
  | x :: r, i + 1, g, h => by
    rw [List.getElem?_cons_succ] at h
    obtain ⟨e0, e1, e2, e3, e4, e5⟩ := clDfs_at h
    have hc : clDfs (x :: r) = clDf x ++ clDfs r := rfl
    have hl : (clDf x).length = 6 := rfl
    refine ⟨?_, ?_, ?_, ?_, ?_, ?_⟩
    · rw [hc, List.getElem?_append_right (by omega), hl, ← e0]
      congr 1
      omega
    · rw [hc, List.getElem?_append_right (by omega), hl, ← e1]
      congr 1
      omega
    · rw [hc, List.getElem?_append_right (by omega), hl, ← e2]
      congr 1
      omega
    · rw [hc, List.getElem?_append_right (by omega), hl, ← e3]
      congr 1
      omega
    · rw [hc, List.getElem?_append_right (by omega), hl, ← e4]
      congr 1
      omega
    · rw [hc, List.getElem?_append_right (by omega), hl, ← e5]
      congr 1
      omega
/-- A list that the call has made by appends, read. -/
theorem LDf.of_owns {W : World} {base : Nat} {v : Value} {rs : List Dff} (h : W.ownsRow base 110 6 v rs.length (clDfs rs)) (hl : rs.length ≤ 9223372036854775807) (hz : ∀ (i : Nat) (g : Dff), rs[i]? = some g → g.partner.size ≤ 9223372036854775807 ∧ g.ref.size ≤ 9223372036854775807 ∧ g.item.size ≤ 9223372036854775807) : ∃ b, base ≤ b ∧ LDf b W v rs := by
  rcases h.2 with ⟨rfl, h0⟩ | ⟨b, cap, cur, rfl, hb, hh, hc, hm, hs, ht⟩
  · refine ⟨base, Nat.le_refl _, ⟨none, 0, by rw [h0], fun hn => absurd (List.eq_nil_of_length_eq_zero h0) hn⟩, hl, hz⟩
  · refine ⟨b, hb, ⟨_, _, rfl, fun _ => ⟨rfl, cap * 6, fun i => cur[i]?.getD undef, ⟨cur, hh, hs, fun i hi => by simp [hs, hi]⟩, Nat.mul_le_mul_right _ hc, fun i g hi => ?_⟩⟩, hl, hz⟩
    obtain ⟨e0, e1, e2, e3, e4, e5⟩ := clDfs_at hi
    have hlt := (List.getElem?_eq_some_iff.1 hi).1
    rw [← ht] at e0 e1 e2 e3 e4 e5
    have get : ∀ (j : Nat) (x : Value), j < rs.length * 6 → (cur.toList.take (rs.length * 6))[j]? = some x → cur[j]?.getD undef = x := fun j x hj hx => by
      rw [List.getElem?_take_of_lt hj, Array.getElem?_toList] at hx
      rw [hx]
      rfl
    exact ⟨get _ _ (by omega) e0, get _ _ (by omega) e1, get _ _ (by omega) e2, get _ _ (by omega) e3, get _ _ (by omega) e4, get _ _ (by omega) e5⟩
/-- An append of one, at the list of a plain region's operations. -/
theorem wpList_appDf {ops : Array Oper} {rest : List Oper} {o : Oper} {a : Act} {Q : Exit → Act → World → Prop} {W : World} {base c C : Nat} {lv : Value} {rs : List Dff} {g : Dff} (hgd : o.guard = none) (s x : Operand)
    (ho : o.op = .call { callee := .builtin .append, args := #[s, x], argTypes := #[39, 39] })
    (hs' : a.eval s = lv) (hx : a.eval x = .slice (some ⟨c, 0, none⟩) 1 C) (h : W.ownsRow base 110 6 lv rs.length (clDfs rs)) (hg : AtDf W c 0 g) (hl : rs.length + 1 ≤ 2000000) (hbase : base ≤ W.heap.size)
    (k : ∀ v' w', w'.ownsRow base 110 6 v' (rs ++ [g]).length (clDfs (rs ++ [g])) → W.grownBy w' lv.ownBlock → (∃ A C, v' = .slice A (rs ++ [g]).length C) → wpList Tryz.prog ops Q rest (a.put o.dst v') w') : wpList Tryz.prog ops Q (o :: rest) a W := by
  obtain ⟨i0, hi, hz0, hz1, hz2⟩ := info_parts infoDfA
  obtain ⟨q0, q1, q2, q3, q4, q5⟩ := hg
  refine wpList_append_own W hgd s x 39 ho base 110 i0 (.agg #[.int .i64 0, .string ⟨#[]⟩, .string ⟨#[]⟩, .int .i64 0, .string ⟨#[]⟩, .int .i64 0]) 6 72 Tryz.underlying39 hi hz0 hz1 hz2 rfl (by decide) lv rs.length (clDfs rs) hs' h ⟨c, 0, none⟩ 1 C (clDf g) hx rfl (fun j u hu => ?_) (fun u hu => ?_) (by unfold maxLen; omega) (by omega) hbase ?_
  · rw [fl_addr]
    have hj := (List.getElem?_eq_some_iff.1 hu).1
    have hj3 : j < 6 := hj
    match j, hj3 with
    | 0, _ =>
      cases hu
      simpa using q0
    | 1, _ =>
      cases hu
      simpa using q1
    | 2, _ =>
      cases hu
      simpa using q2
    | 3, _ =>
      cases hu
      simpa using q3
    | 4, _ =>
      cases hu
      simpa using q4
    | 5, _ =>
      cases hu
      simpa using q5
  · simp only [clDf, List.mem_cons, List.not_mem_nil, or_false] at hu
    rcases hu with rfl | rfl | rfl | rfl | rfl | rfl <;> rfl
  · intro v' w' hown hgrow hnil
    have e1 : (rs ++ [g]).length = rs.length + 1 := by simp
    have hown' : w'.ownsRow base 110 6 v' (rs ++ [g]).length (clDfs (rs ++ [g])) := by
      rw [e1, clDfs_app]
      exact hown
    refine k v' w' hown' hgrow ?_
    rcases hown'.2 with ⟨rfl, h0⟩ | ⟨b, cap, cur, rfl, _⟩
    · exact ⟨none, 0, by rw [h0]⟩
    · exact ⟨_, _, rfl⟩
theorem clDfs_get : ∀ {rs : List Dff} {j : Nat} {u : Value}, (clDfs rs)[j]? = some u → ∃ (i : Nat) (g : Dff), rs[i]? = some g ∧ ((j = i * 6 ∧ u = .int .i64 g.kind) ∨ (j = i * 6 + 1 ∧ u = .string g.partner) ∨ (j = i * 6 + 2 ∧ u = .string g.ref) ∨ (j = i * 6 + 3 ∧ u = .int .i64 g.no) ∨ (j = i * 6 + 4 ∧ u = .string g.item) ∨ (j = i * 6 + 5 ∧ u = .int .i64 g.qty))
  | [], j, u, h => by simp [clDfs] at h
  | x :: r, j, u, h => by
    have hc : clDfs (x :: r) = clDf x ++ clDfs r := rfl
    have hl : (clDf x).length = 6 := rfl
    rw [hc] at h
    by_cases hj : j < 6
    · rw [List.getElem?_append_left (by omega)] at h
      refine ⟨0, x, rfl, ?_⟩
      match j, hj with
      | 0, _ => cases h; simp
      | 1, _ => cases h; simp
      | 2, _ => cases h; simp
      | 3, _ => cases h; simp
      | 4, _ => cases h; simp
      | 5, _ => cases h; simp
    · rw [List.getElem?_append_right (by omega), hl] at h
      obtain ⟨i, g, hg, ho⟩ := clDfs_get h
      refine ⟨i + 1, g, by simpa using hg, ?_⟩
      rcases ho with ⟨h1, h2⟩ | ⟨h1, h2⟩ | ⟨h1, h2⟩ | ⟨h1, h2⟩ | ⟨h1, h2⟩ | ⟨h1, h2⟩
      · exact .inl ⟨by omega, h2⟩
      · exact .inr (.inl ⟨by omega, h2⟩)
      · exact .inr (.inr (.inl ⟨by omega, h2⟩))
      · exact .inr (.inr (.inr (.inl ⟨by omega, h2⟩)))
      · exact .inr (.inr (.inr (.inr (.inl ⟨by omega, h2⟩))))
      · exact .inr (.inr (.inr (.inr (.inr (⟨by omega, h2⟩)))))
/-- An append of a list, at the list of a plain region's operations. -/
theorem wpList_appsDf {ops : Array Oper} {rest : List Oper} {o : Oper} {a : Act} {Q : Exit → Act → World → Prop} {W : World} {base C : Nat} {lv : Value} {ad : Addr} {rs ms : List Dff} (hgd : o.guard = none) (s x : Operand)
    (ho : o.op = .call { callee := .builtin .append, args := #[s, x], argTypes := #[39, 39] })
    (hs' : a.eval s = lv) (hx : a.eval x = .slice (some ad) ms.length C) (h : W.ownsRow base 110 6 lv rs.length (clDfs rs)) (hg : RowDf W (.slice (some ad) ms.length C) ms) (hl : rs.length + ms.length ≤ 2000000) (hbase : base ≤ W.heap.size)
    (k : ∀ v' w', w'.ownsRow base 110 6 v' (rs ++ ms).length (clDfs (rs ++ ms)) → W.grownBy w' lv.ownBlock → (∃ A C, v' = .slice A (rs ++ ms).length C) → wpList Tryz.prog ops Q rest (a.put o.dst v') w') : wpList Tryz.prog ops Q (o :: rest) a W := by
  obtain ⟨i0, hi, hz0, hz1, hz2⟩ := info_parts infoDfA
  refine wpList_append_own W hgd s x 39 ho base 110 i0 (.agg #[.int .i64 0, .string ⟨#[]⟩, .string ⟨#[]⟩, .int .i64 0, .string ⟨#[]⟩, .int .i64 0]) 6 72 Tryz.underlying39 hi hz0 hz1 hz2 rfl (by decide) lv rs.length (clDfs rs) hs' h ad ms.length C (clDfs ms) hx (clDfs_len ms) (fun j u hu => ?_) (fun u hu => ?_) (by unfold maxLen; omega) (by omega) hbase ?_
  · obtain ⟨i, g, hg', ho'⟩ := clDfs_get hu
    obtain ⟨a', cap, e, hc⟩ := hg.shape
    simp only [Value.slice.injEq] at e
    obtain ⟨b, o', ea, hcell⟩ := hc (by intro e2; rw [e2] at hg'; simp at hg')
    rw [← e.1] at ea
    cases ea
    obtain ⟨q0, q1, q2, q3, q4, q5⟩ := hcell i g hg'
    rw [fl_addr]
    rcases ho' with ⟨rfl, rfl⟩ | ⟨rfl, rfl⟩ | ⟨rfl, rfl⟩ | ⟨rfl, rfl⟩ | ⟨rfl, rfl⟩ | ⟨rfl, rfl⟩
    · first | exact q0 | (rw [← q0]; congr 2; omega)
    · first | exact q1 | (rw [← q1]; congr 2; omega)
    · first | exact q2 | (rw [← q2]; congr 2; omega)
    · first | exact q3 | (rw [← q3]; congr 2; omega)
    · first | exact q4 | (rw [← q4]; congr 2; omega)
    · first | exact q5 | (rw [← q5]; congr 2; omega)
  · obtain ⟨j, hj⟩ := List.getElem?_of_mem hu
    obtain ⟨i, g, _, ho'⟩ := clDfs_get hj
    rcases ho' with ⟨_, rfl⟩ | ⟨_, rfl⟩ | ⟨_, rfl⟩ | ⟨_, rfl⟩ | ⟨_, rfl⟩ | ⟨_, rfl⟩ <;> rfl
  · intro v' w' hown hgrow hnil
    have e1 : (rs ++ ms).length = rs.length + ms.length := by simp
    have e2 : clDfs (rs ++ ms) = clDfs rs ++ clDfs ms := by simp [clDfs]
    have hown' : w'.ownsRow base 110 6 v' (rs ++ ms).length (clDfs (rs ++ ms)) := by
      rw [e1, e2]
      exact hown
    refine k v' w' hown' hgrow ?_
    rcases hown'.2 with ⟨rfl, h0⟩ | ⟨b, cap, cur, rfl, _⟩
    · exact ⟨none, 0, by rw [h0]⟩
    · exact ⟨_, _, rfl⟩
end Go.Proofs.YtkgkahlhekecmaaGreat
namespace Go.Proofs.YtkgkahlhekecmaaGreat
open Go.ChangeShapes Go.WideShapes Go.ChangeAt Go.RowKit
theorem bx6 {W : World} {b t : Nat} {x0 x1 x2 x3 x4 x5 : Value} (h : W.heap[b]? = some (.cells #[x0, x1, x2, x3, x4, x5] t)) : W.cell? ⟨b, 0, none⟩ = some x0 ∧ W.cell? ⟨b, 1, none⟩ = some x1 ∧ W.cell? ⟨b, 2, none⟩ = some x2 ∧ W.cell? ⟨b, 3, none⟩ = some x3 ∧ W.cell? ⟨b, 4, none⟩ = some x4 ∧ W.cell? ⟨b, 5, none⟩ = some x5 := by
  refine ⟨?_, ?_, ?_, ?_, ?_, ?_⟩ <;> simp [World.cell?, h]
theorem undrewD {a b : World} (h : Below a.drew.heap.size a.drew b) : Below a.heap.size a b := (Below.refl _ _).drew.trans h
set_option maxRecDepth 20000 in
set_option maxHeartbeats 8000000 in
theorem copyDfs_any (v : Value) (rs : List Dff) (w : World) (h : RowDf w v rs) (hl : rs.length ≤ 1048576) (hz : ∀ c ∈ rs, c.partner.size ≤ 1048576 ∧ c.ref.size ≤ 1048576 ∧ c.item.size ≤ 1048576) :
    Calls Tryz.prog 109 #[v] w fun e w' => ∃ u b, e = .returned u ∧ w.heap.size ≤ b ∧ LDf b w' u rs ∧ Below w.heap.size w w' := by
  obtain ⟨A, C, rfl⟩ := h.val
  have HR : Hid (RowDf w (.slice A rs.length C) rs ∧ ∀ c ∈ rs, c.partner.size ≤ 1048576 ∧ c.ref.size ≤ 1048576 ∧ c.item.size ≤ 1048576) := ⟨h, hz⟩
  clear h hz
  go_enter Tryz.func109, Tryz.ntmps109
  go_wp2_with fail
  go_loopw [3, 8] (fun lv i wr => ∃ k : Nat, i = .int .i64 (k : Int) ∧ k ≤ rs.length ∧ (∃ A C ts, ts = rs.take k ∧ lv = .slice A ts.length C ∧ wr.ownsRow w.heap.size 110 6 lv ts.length (clDfs ts)) ∧ Below w.heap.size w wr) (fun _ i _ => rs.length - (intOf i).toNat)
  case atStart => exact ⟨0, rfl, by omega, ⟨none, 0, [], by simp, rfl, by simpa [clDfs] using World.ownsRow_nil w w.heap.size 110 6⟩, Below.refl _ _⟩
  case round =>
    obtain ⟨k, rfl, hk, ⟨A1, C1, ts, hts, rfl, hR⟩, hb⟩ := hrel
    have HT : Hid (ts = rs.take k) := hts
    have htk : ts.length ≤ 1048576 := by rw [hts, List.length_take]; omega
    clear hts
    by_cases hlt : k < rs.length
    · have hlt' : (k : Int) < (rs.length : Int) := by omega
      obtain ⟨b, o, cap', c, e, hs, ⟨q0, q1, q2, q3, q4, q5⟩, _⟩ := (HR.out.1.below hb).at hlt
      simp only [Value.slice.injEq, true_and] at e
      obtain ⟨rfl, rfl⟩ := e
      obtain ⟨z0, z1, z2⟩ := HR.out.2 c (List.mem_of_getElem? hs)
      obtain ⟨W1, hW1⟩ : ∃ W1, wr.alloc (.cells #[.int .i64 c.kind, .string c.partner, .string c.ref, .int .i64 c.no, .string c.item, .int .i64 c.qty] 110) = W1 := ⟨_, rfl⟩
      have ha : Below wr.heap.size wr W1 := by rw [← hW1]; exact (Below.refl _ _).alloc (Nat.le_refl _) _
      have hbx : W1.heap[wr.heap.size]? = some (.cells #[.int .i64 c.kind, .string c.partner, .string c.ref, .int .i64 c.no, .string c.item, .int .i64 c.qty] 110) := by rw [← hW1]; exact World.alloc_heap_new _ _
      obtain ⟨B, hB⟩ : ∃ B, B = wr.heap.size := ⟨_, rfl⟩
      rw [← hB] at hbx
      have hR1 : W1.ownsRow w.heap.size 110 6 (.slice A1 ts.length C1) ts.length (clDfs ts) := by rw [← hW1]; exact hR.alloc _
      have HG : Hid (Below w.heap.size w W1 ∧ W1.ownsRow w.heap.size 110 6 (.slice A1 ts.length C1) ts.length (clDfs ts) ∧ rs[k]? = some c) := ⟨hb.trans (ha.mono hb.size), hR1, hs⟩
      have HC : Hid (∀ W, Below W1.heap.size W1 W → W.cell? ⟨B, 1, none⟩ = some (.string c.partner) ∧ W.cell? ⟨B, 2, none⟩ = some (.string c.ref) ∧ W.cell? ⟨B, 4, none⟩ = some (.string c.item)) := fun W hW => by
        obtain ⟨_, x1, x2, _, x4, _⟩ := bx6 ((hW.block B (Array.getElem?_eq_some_iff.1 hbx).1).trans hbx)
        exact ⟨x1, x2, x4⟩
      have HD : Hid (∀ W, Below W1.heap.size W1 W → W.heap[B]? = some (.cells #[.int .i64 c.kind, .string c.partner, .string c.ref, .int .i64 c.no, .string c.item, .int .i64 c.qty] 110)) := fun W hW => (hW.block B (Array.getElem?_eq_some_iff.1 hbx).1).trans hbx
      have HF : Hid (∀ W : World, Below W1.heap.size W1 W → ∀ o, W.frozen? ⟨B, o, none⟩ = false) := fun W hW o => by
        have e := HD.out W hW
        simp [World.frozen?, e]
      have HW1 : Hid (wr.alloc (.cells #[.int .i64 c.kind, .string c.partner, .string c.ref, .int .i64 c.no, .string c.item, .int .i64 c.qty] 110) = W1 ∧ B = wr.heap.size) := ⟨hW1, hB⟩
      clear hW1 ha hbx hR1 hR hb hs hB
      go_upto_region 5 with fail
      try rw [HW1.out.1]
      try rw [← HW1.out.2]
      clear HW1 q0 q1 q2 q3 q4 q5
      obtain ⟨k1, k2, k4⟩ := HC.out W1 (Below.refl _ _)
      have s1 : ∀ W : World, W.cell? ⟨B, 1, none⟩ = some (.string c.partner) → W.setCell ⟨B, 1, none⟩ (.string c.partner) = W := fun W h => same_setU h
      have s2 : ∀ W : World, W.cell? ⟨B, 2, none⟩ = some (.string c.ref) → W.setCell ⟨B, 2, none⟩ (.string c.ref) = W := fun W h => same_setU h
      have s4 : ∀ W : World, W.cell? ⟨B, 4, none⟩ = some (.string c.item) → W.setCell ⟨B, 4, none⟩ (.string c.item) = W := fun W h => same_setU h
      go_region_held3 (fun W => W.cell? ⟨B, 1, none⟩ = some (.string c.partner) ∧ W.cell? ⟨B, 2, none⟩ = some (.string c.ref) ∧ W.cell? ⟨B, 4, none⟩ = some (.string c.item)) (go_keep) (first | (go_at_call_of 105 (Value.string c.partner); refine (clone_any _ _ (by omega)).mono ?_; rintro e wa ⟨rfl, hba⟩; have ab : Below W1.heap.size W1 wa := (by first | exact hba | exact undrewD hba); obtain ⟨a1, a2, a4⟩ := HC.out wa ab; obtain ⟨_, _, _⟩ := HC.out wa.drew ab.drew; clear hba; try dsimp only) | (go_at_call_of 105 (Value.string c.ref); refine (clone_any _ _ (by omega)).mono ?_; rintro e wb ⟨rfl, hbb⟩; have bb : Below W1.heap.size W1 wb := ab.trans ((by first | exact hbb | exact undrewD hbb : Below wa.heap.size wa wb).mono ab.size); obtain ⟨b1, b2, b4⟩ := HC.out wb bb; obtain ⟨_, _, _⟩ := HC.out wb.drew bb.drew; clear hbb; try dsimp only) | (go_at_call_of 105 (Value.string c.item); refine (clone_any _ _ (by omega)).mono ?_; rintro e wc ⟨rfl, hbc⟩; have cb : Below W1.heap.size W1 wc := bb.trans ((by first | exact hbc | exact undrewD hbc : Below wb.heap.size wb wc).mono bb.size); obtain ⟨c1, c2, c4⟩ := HC.out wc cb; obtain ⟨_, _, _⟩ := HC.out wc.drew cb.drew; clear hbc; have hfr := HF.out wc cb; try dsimp only))
      rename_i hHeld
      clear hHeld s1 s2 s4
      obtain ⟨c0, c1, c2, c3, c4, c5⟩ := bx6 (HD.out wc cb)
      have H2 : Hid (Below w.heap.size w wc) := HG.out.1.trans (cb.mono HG.out.1.size)
      have hrow2 : wc.ownsRow w.heap.size 110 6 (.slice A1 ts.length C1) ts.length (clDfs ts) := by
        refine HG.out.2.1.kept (row := none) ⟨cb.os, cb.tape, cb.output, cb.size, fun j hj _ => cb.block j hj⟩ ?_
        rcases HG.out.2.1.2 with ⟨e, _⟩ | ⟨g, cap, cur, e, _⟩
        · exact .inl (by rw [e]; rfl)
        · exact .inr (by rw [e]; simp [Value.ownBlock])
      have hrow : (wc.alloc (.cells #[.int .i64 c.kind, .string c.partner, .string c.ref, .int .i64 c.no, .string c.item, .int .i64 c.qty] 110)).ownsRow w.heap.size 110 6 (.slice A1 ts.length C1) ts.length (clDfs ts) := hrow2.alloc _
      have hat : AtDf (wc.alloc (.cells #[.int .i64 c.kind, .string c.partner, .string c.ref, .int .i64 c.no, .string c.item, .int .i64 c.qty] 110)) wc.heap.size 0 c := by
        obtain ⟨a0, a1, a2, a3, a4, a5⟩ := bx6 (World.alloc_heap_new wc (.cells #[.int .i64 c.kind, .string c.partner, .string c.ref, .int .i64 c.no, .string c.item, .int .i64 c.qty] 110))
        exact ⟨a0, a1, a2, a3, a4, a5⟩
      have hsz := H2.out.size
      clear hrow2 ab bb cb a1 a2 a4 b1 b2 b4 k1 k2 k4
      go_wp2_with (first | (at_builtin; refine wpList_appDf rfl _ _ rfl rfl rfl hrow hat (by omega) (by simp; omega) ?_; rintro v4 w4 hown4 hgrow4 ⟨A4, C4, rfl⟩))
      have e3 : rs.take (k + 1) = ts ++ [c] := by
        rw [List.take_add_one, HG.out.2.2, HT.out]
        rfl
      have H4 : Hid (w4.ownsRow w.heap.size 110 6 (.slice A4 (ts ++ [c]).length C4) (ts ++ [c]).length (clDfs (ts ++ [c])) ∧ Below w.heap.size w w4) := by
        refine ⟨hown4, (H2.out.alloc hsz _).trans ⟨hgrow4.os, hgrow4.tape, hgrow4.output, hgrow4.size, fun q hq => hgrow4.block q (by simp; omega) (fun e => ?_)⟩⟩
        have := (hrow.lt q e.symm).1
        omega
      clear hown4 hgrow4
      go_wp2
      go_roundw
      case rel => exact ⟨k + 1, by go_num, by omega, ⟨A4, C4, ts ++ [c], e3.symm, by simp, by simpa using H4.out.1⟩, H4.out.2⟩
      case measure => simp [intOf]; omega
    · obtain rfl : k = rs.length := by omega
      have HF : Hid (wr.ownsRow w.heap.size 110 6 (.slice A1 ts.length C1) rs.length (clDfs rs) ∧ Below w.heap.size w wr ∧ ts = rs) := by
        have e := HT.out
        rw [List.take_length] at e
        rw [e] at hR ⊢
        exact ⟨hR, hb, rfl⟩
      clear hR hb
      go_wp2
      go_ret
      obtain ⟨b, hb1, hL⟩ := LDf.of_owns HF.out.1 (by omega) (fun i g hi => by have := HR.out.2 g (List.mem_of_getElem? hi); omega)
      exact ⟨_, b, rfl, hb1, hL, HF.out.2.1⟩
end Go.Proofs.YtkgkahlhekecmaaGreat
namespace Go.Proofs.YtkgkahlhekecmaaGreat
open Go.ChangeShapes Go.WideShapes Go.ChangeAt Go.RowKit
theorem infoOuA : (Tryz.prog.info? 112).map (fun i => (i.zero, i.size, i.bytes)) = some (some (.agg #[.string ⟨#[]⟩, .int .i64 0, .string ⟨#[]⟩, .int .i64 0, .int .i64 0]), 5, 56) := by kernel_rfl
/-- Its cells, one behind the other. -/
def clOu (g : OutR) : List Value := [.string g.partner, .int .i64 g.number, .string g.text, .int .i64 g.tries, .int .i64 g.due]
def clOus (rs : List OutR) : List Value := rs.flatMap clOu
theorem clOus_len (rs : List OutR) : (clOus rs).length = rs.length * 5 := by
  induction rs with
  | nil => rfl
  | cons g r ih =>
    have : clOus (g :: r) = clOu g ++ clOus r := rfl
    rw [this, List.length_append, ih, List.length_cons]
    have : (clOu g).length = 5 := rfl
    omega
theorem clOus_app (rs : List OutR) (g : OutR) : clOus (rs ++ [g]) = clOus rs ++ clOu g := by simp [clOus]
theorem clOus_at : ∀ {rs : List OutR} {i : Nat} {g : OutR}, rs[i]? = some g → (clOus rs)[i * 5]? = some (.string g.partner) ∧ (clOus rs)[i * 5 + 1]? = some (.int .i64 g.number) ∧ (clOus rs)[i * 5 + 2]? = some (.string g.text) ∧ (clOus rs)[i * 5 + 3]? = some (.int .i64 g.tries) ∧ (clOus rs)[i * 5 + 4]? = some (.int .i64 g.due)
  | [], i, g, h => by simp at h
  | x :: r, 0, g, h => by
    simp only [List.getElem?_cons_zero, Option.some.injEq] at h
    subst h
    refine ⟨rfl, rfl, rfl, rfl, rfl⟩
  | x :: r, i + 1, g, h => by
    rw [List.getElem?_cons_succ] at h
    obtain ⟨e0, e1, e2, e3, e4⟩ := clOus_at h
    have hc : clOus (x :: r) = clOu x ++ clOus r := rfl
    have hl : (clOu x).length = 5 := rfl
    refine ⟨?_, ?_, ?_, ?_, ?_⟩
    · rw [hc, List.getElem?_append_right (by omega), hl, ← e0]
      congr 1
      omega
    · rw [hc, List.getElem?_append_right (by omega), hl, ← e1]
      congr 1
      omega
    · rw [hc, List.getElem?_append_right (by omega), hl, ← e2]
      congr 1
      omega
    · rw [hc, List.getElem?_append_right (by omega), hl, ← e3]
      congr 1
      omega
    · rw [hc, List.getElem?_append_right (by omega), hl, ← e4]
      congr 1
      omega
/-- A list that the call has made by appends, read. -/
theorem LOu.of_owns {W : World} {base : Nat} {v : Value} {rs : List OutR} (h : W.ownsRow base 112 5 v rs.length (clOus rs)) (hl : rs.length ≤ 9223372036854775807) (hz : ∀ (i : Nat) (g : OutR), rs[i]? = some g → g.partner.size ≤ 9223372036854775807 ∧ g.text.size ≤ 9223372036854775807) : ∃ b, base ≤ b ∧ LOu b W v rs := by
  rcases h.2 with ⟨rfl, h0⟩ | ⟨b, cap, cur, rfl, hb, hh, hc, hm, hs, ht⟩
  · refine ⟨base, Nat.le_refl _, ⟨none, 0, by rw [h0], fun hn => absurd (List.eq_nil_of_length_eq_zero h0) hn⟩, hl, hz⟩
  · refine ⟨b, hb, ⟨_, _, rfl, fun _ => ⟨rfl, cap * 5, fun i => cur[i]?.getD undef, ⟨cur, hh, hs, fun i hi => by simp [hs, hi]⟩, Nat.mul_le_mul_right _ hc, fun i g hi => ?_⟩⟩, hl, hz⟩
    obtain ⟨e0, e1, e2, e3, e4⟩ := clOus_at hi
    have hlt := (List.getElem?_eq_some_iff.1 hi).1
    rw [← ht] at e0 e1 e2 e3 e4
    have get : ∀ (j : Nat) (x : Value), j < rs.length * 5 → (cur.toList.take (rs.length * 5))[j]? = some x → cur[j]?.getD undef = x := fun j x hj hx => by
      rw [List.getElem?_take_of_lt hj, Array.getElem?_toList] at hx
      rw [hx]
      rfl
    exact ⟨get _ _ (by omega) e0, get _ _ (by omega) e1, get _ _ (by omega) e2, get _ _ (by omega) e3, get _ _ (by omega) e4⟩
/-- An append of one, at the list of a plain region's operations. -/
theorem wpList_appOu {ops : Array Oper} {rest : List Oper} {o : Oper} {a : Act} {Q : Exit → Act → World → Prop} {W : World} {base c C : Nat} {lv : Value} {rs : List OutR} {g : OutR} (hgd : o.guard = none) (s x : Operand)
    (ho : o.op = .call { callee := .builtin .append, args := #[s, x], argTypes := #[40, 40] })
    (hs' : a.eval s = lv) (hx : a.eval x = .slice (some ⟨c, 0, none⟩) 1 C) (h : W.ownsRow base 112 5 lv rs.length (clOus rs)) (hg : AtOu W c 0 g) (hl : rs.length + 1 ≤ 2000000) (hbase : base ≤ W.heap.size)
    (k : ∀ v' w', w'.ownsRow base 112 5 v' (rs ++ [g]).length (clOus (rs ++ [g])) → W.grownBy w' lv.ownBlock → (∃ A C, v' = .slice A (rs ++ [g]).length C) → wpList Tryz.prog ops Q rest (a.put o.dst v') w') : wpList Tryz.prog ops Q (o :: rest) a W := by
  obtain ⟨i0, hi, hz0, hz1, hz2⟩ := info_parts infoOuA
  obtain ⟨q0, q1, q2, q3, q4⟩ := hg
  refine wpList_append_own W hgd s x 40 ho base 112 i0 (.agg #[.string ⟨#[]⟩, .int .i64 0, .string ⟨#[]⟩, .int .i64 0, .int .i64 0]) 5 56 Tryz.underlying40 hi hz0 hz1 hz2 rfl (by decide) lv rs.length (clOus rs) hs' h ⟨c, 0, none⟩ 1 C (clOu g) hx rfl (fun j u hu => ?_) (fun u hu => ?_) (by unfold maxLen; omega) (by omega) hbase ?_
  · rw [fl_addr]
    have hj := (List.getElem?_eq_some_iff.1 hu).1
    have hj3 : j < 5 := hj
    match j, hj3 with
    | 0, _ =>
      cases hu
      simpa using q0
    | 1, _ =>
      cases hu
      simpa using q1
    | 2, _ =>
      cases hu
      simpa using q2
    | 3, _ =>
      cases hu
      simpa using q3
    | 4, _ =>
      cases hu
      simpa using q4
  · simp only [clOu, List.mem_cons, List.not_mem_nil, or_false] at hu
    rcases hu with rfl | rfl | rfl | rfl | rfl <;> rfl
  · intro v' w' hown hgrow hnil
    have e1 : (rs ++ [g]).length = rs.length + 1 := by simp
    have hown' : w'.ownsRow base 112 5 v' (rs ++ [g]).length (clOus (rs ++ [g])) := by
      rw [e1, clOus_app]
      exact hown
    refine k v' w' hown' hgrow ?_
    rcases hown'.2 with ⟨rfl, h0⟩ | ⟨b, cap, cur, rfl, _⟩
    · exact ⟨none, 0, by rw [h0]⟩
    · exact ⟨_, _, rfl⟩
theorem clOus_get : ∀ {rs : List OutR} {j : Nat} {u : Value}, (clOus rs)[j]? = some u → ∃ (i : Nat) (g : OutR), rs[i]? = some g ∧ ((j = i * 5 ∧ u = .string g.partner) ∨ (j = i * 5 + 1 ∧ u = .int .i64 g.number) ∨ (j = i * 5 + 2 ∧ u = .string g.text) ∨ (j = i * 5 + 3 ∧ u = .int .i64 g.tries) ∨ (j = i * 5 + 4 ∧ u = .int .i64 g.due))
  | [], j, u, h => by simp [clOus] at h
  | x :: r, j, u, h => by
    have hc : clOus (x :: r) = clOu x ++ clOus r := rfl
    have hl : (clOu x).length = 5 := rfl
    rw [hc] at h
    by_cases hj : j < 5
    · rw [List.getElem?_append_left (by omega)] at h
      refine ⟨0, x, rfl, ?_⟩
      match j, hj with
      | 0, _ => cases h; simp
      | 1, _ => cases h; simp
      | 2, _ => cases h; simp
      | 3, _ => cases h; simp
      | 4, _ => cases h; simp
    · rw [List.getElem?_append_right (by omega), hl] at h
      obtain ⟨i, g, hg, ho⟩ := clOus_get h
      refine ⟨i + 1, g, by simpa using hg, ?_⟩
      rcases ho with ⟨h1, h2⟩ | ⟨h1, h2⟩ | ⟨h1, h2⟩ | ⟨h1, h2⟩ | ⟨h1, h2⟩
      · exact .inl ⟨by omega, h2⟩
      · exact .inr (.inl ⟨by omega, h2⟩)
      · exact .inr (.inr (.inl ⟨by omega, h2⟩))
      · exact .inr (.inr (.inr (.inl ⟨by omega, h2⟩)))
      · exact .inr (.inr (.inr (.inr (⟨by omega, h2⟩))))
/-- An append of a list, at the list of a plain region's operations. -/
theorem wpList_appsOu {ops : Array Oper} {rest : List Oper} {o : Oper} {a : Act} {Q : Exit → Act → World → Prop} {W : World} {base C : Nat} {lv : Value} {ad : Addr} {rs ms : List OutR} (hgd : o.guard = none) (s x : Operand)
    (ho : o.op = .call { callee := .builtin .append, args := #[s, x], argTypes := #[40, 40] })
    (hs' : a.eval s = lv) (hx : a.eval x = .slice (some ad) ms.length C) (h : W.ownsRow base 112 5 lv rs.length (clOus rs)) (hg : RowOu W (.slice (some ad) ms.length C) ms) (hl : rs.length + ms.length ≤ 2000000) (hbase : base ≤ W.heap.size)
    (k : ∀ v' w', w'.ownsRow base 112 5 v' (rs ++ ms).length (clOus (rs ++ ms)) → W.grownBy w' lv.ownBlock → (∃ A C, v' = .slice A (rs ++ ms).length C) → wpList Tryz.prog ops Q rest (a.put o.dst v') w') : wpList Tryz.prog ops Q (o :: rest) a W := by
  obtain ⟨i0, hi, hz0, hz1, hz2⟩ := info_parts infoOuA
  refine wpList_append_own W hgd s x 40 ho base 112 i0 (.agg #[.string ⟨#[]⟩, .int .i64 0, .string ⟨#[]⟩, .int .i64 0, .int .i64 0]) 5 56 Tryz.underlying40 hi hz0 hz1 hz2 rfl (by decide) lv rs.length (clOus rs) hs' h ad ms.length C (clOus ms) hx (clOus_len ms) (fun j u hu => ?_) (fun u hu => ?_) (by unfold maxLen; omega) (by omega) hbase ?_
  · obtain ⟨i, g, hg', ho'⟩ := clOus_get hu
    obtain ⟨a', cap, e, hc⟩ := hg.shape
    simp only [Value.slice.injEq] at e
    obtain ⟨b, o', ea, hcell⟩ := hc (by intro e2; rw [e2] at hg'; simp at hg')
    rw [← e.1] at ea
    cases ea
    obtain ⟨q0, q1, q2, q3, q4⟩ := hcell i g hg'
    rw [fl_addr]
    rcases ho' with ⟨rfl, rfl⟩ | ⟨rfl, rfl⟩ | ⟨rfl, rfl⟩ | ⟨rfl, rfl⟩ | ⟨rfl, rfl⟩
    · first | exact q0 | (rw [← q0]; congr 2; omega)
    · first | exact q1 | (rw [← q1]; congr 2; omega)
    · first | exact q2 | (rw [← q2]; congr 2; omega)
    · first | exact q3 | (rw [← q3]; congr 2; omega)
    · first | exact q4 | (rw [← q4]; congr 2; omega)
  · obtain ⟨j, hj⟩ := List.getElem?_of_mem hu
    obtain ⟨i, g, _, ho'⟩ := clOus_get hj
    rcases ho' with ⟨_, rfl⟩ | ⟨_, rfl⟩ | ⟨_, rfl⟩ | ⟨_, rfl⟩ | ⟨_, rfl⟩ <;> rfl
  · intro v' w' hown hgrow hnil
    have e1 : (rs ++ ms).length = rs.length + ms.length := by simp
    have e2 : clOus (rs ++ ms) = clOus rs ++ clOus ms := by simp [clOus]
    have hown' : w'.ownsRow base 112 5 v' (rs ++ ms).length (clOus (rs ++ ms)) := by
      rw [e1, e2]
      exact hown
    refine k v' w' hown' hgrow ?_
    rcases hown'.2 with ⟨rfl, h0⟩ | ⟨b, cap, cur, rfl, _⟩
    · exact ⟨none, 0, by rw [h0]⟩
    · exact ⟨_, _, rfl⟩
end Go.Proofs.YtkgkahlhekecmaaGreat
namespace Go.Proofs.YtkgkahlhekecmaaGreat
open Go.ChangeShapes Go.WideShapes Go.ChangeAt Go.RowKit
set_option maxRecDepth 20000 in
set_option maxHeartbeats 4000000 in
theorem copyOus_any (v : Value) (rs : List OutR) (w : World) (h : RowOu w v rs) (hl : rs.length ≤ 1048576) (hz : ∀ c ∈ rs, c.partner.size ≤ 1048576 ∧ c.text.size ≤ 1048576) :
    Calls Tryz.prog 110 #[v] w fun e w' => ∃ u b, e = .returned u ∧ w.heap.size ≤ b ∧ LOu b w' u rs ∧ Below w.heap.size w w' := by
  obtain ⟨A, C, rfl⟩ := h.val
  have HR : Hid (RowOu w (.slice A rs.length C) rs ∧ ∀ c ∈ rs, c.partner.size ≤ 1048576 ∧ c.text.size ≤ 1048576) := ⟨h, hz⟩
  clear h hz
  go_enter Tryz.func110, Tryz.ntmps110
  go_wp2_with fail
  go_loopw [3, 8] (fun lv i wr => ∃ k : Nat, i = .int .i64 (k : Int) ∧ k ≤ rs.length ∧ (∃ A C ts, ts = rs.take k ∧ lv = .slice A ts.length C ∧ wr.ownsRow w.heap.size 112 5 lv ts.length (clOus ts)) ∧ Below w.heap.size w wr) (fun _ i _ => rs.length - (intOf i).toNat)
  case atStart => exact ⟨0, rfl, by omega, ⟨none, 0, [], by simp, rfl, by simpa [clOus] using World.ownsRow_nil w w.heap.size 112 5⟩, Below.refl _ _⟩
  case round =>
    obtain ⟨k, rfl, hk, ⟨A1, C1, ts, hts, rfl, hR⟩, hb⟩ := hrel
    have HT : Hid (ts = rs.take k) := hts
    have htk : ts.length ≤ 1048576 := by rw [hts, List.length_take]; omega
    clear hts
    by_cases hlt : k < rs.length
    · have hlt' : (k : Int) < (rs.length : Int) := by omega
      obtain ⟨b, o, cap', c, e, hs, ⟨q0, q1, q2, q3, q4⟩, _⟩ := (HR.out.1.below hb).at hlt
      simp only [Value.slice.injEq, true_and] at e
      obtain ⟨rfl, rfl⟩ := e
      have hz := HR.out.2 c (List.mem_of_getElem? hs)
      obtain ⟨W1, hW1⟩ : ∃ W1, wr.alloc (.cells #[.string c.partner, .int .i64 c.number, .string c.text, .int .i64 c.tries, .int .i64 c.due] 112) = W1 := ⟨_, rfl⟩
      have ha : Below wr.heap.size wr W1 := by rw [← hW1]; exact (Below.refl _ _).alloc (Nat.le_refl _) _
      have hbx : W1.heap[wr.heap.size]? = some (.cells #[.string c.partner, .int .i64 c.number, .string c.text, .int .i64 c.tries, .int .i64 c.due] 112) := by rw [← hW1]; exact World.alloc_heap_new _ _
      obtain ⟨B, hB⟩ : ∃ B, B = wr.heap.size := ⟨_, rfl⟩
      rw [← hB] at hbx
      have hR1 : W1.ownsRow w.heap.size 112 5 (.slice A1 ts.length C1) ts.length (clOus ts) := by rw [← hW1]; exact hR.alloc _
      have HG : Hid (Below w.heap.size w W1 ∧ W1.heap[B]? = some (.cells #[.string c.partner, .int .i64 c.number, .string c.text, .int .i64 c.tries, .int .i64 c.due] 112) ∧ W1.ownsRow w.heap.size 112 5 (.slice A1 ts.length C1) ts.length (clOus ts) ∧ rs[k]? = some c) := ⟨hb.trans (ha.mono hb.size), hbx, hR1, hs⟩
      have HW1 : Hid (wr.alloc (.cells #[.string c.partner, .int .i64 c.number, .string c.text, .int .i64 c.tries, .int .i64 c.due] 112) = W1 ∧ B = wr.heap.size) := ⟨hW1, hB⟩
      clear hW1 ha hbx hR1 hR hb hs hB
      go_upto_region 5 with fail
      try rw [HW1.out.1]
      try rw [← HW1.out.2]
      clear HW1 q0 q1 q2 q3 q4
      obtain ⟨c0, c1, c2, c3, c4⟩ := box5 HG.out.2.1
      go_wp2_with fail
      refine (copyOu_any c _ (by omega)).mono ?_
      rintro e w2 ⟨rfl, hb2⟩
      have hrow2 : w2.ownsRow w.heap.size 112 5 (.slice A1 ts.length C1) ts.length (clOus ts) := by
        refine HG.out.2.2.1.kept (row := none) ⟨hb2.os, hb2.tape, hb2.output, hb2.size, fun j hj _ => hb2.block j hj⟩ ?_
        rcases HG.out.2.2.1.2 with ⟨e, _⟩ | ⟨g, cap, cur, e, _⟩
        · exact .inl (by rw [e]; rfl)
        · exact .inr (by rw [e]; simp [Value.ownBlock])
      have H2 : Hid (Below w.heap.size w w2) := HG.out.1.trans (hb2.mono HG.out.1.size)
      have hrow : (w2.alloc (.cells #[.string c.partner, .int .i64 c.number, .string c.text, .int .i64 c.tries, .int .i64 c.due] 112)).ownsRow w.heap.size 112 5 (.slice A1 ts.length C1) ts.length (clOus ts) := hrow2.alloc _
      have hat : AtOu (w2.alloc (.cells #[.string c.partner, .int .i64 c.number, .string c.text, .int .i64 c.tries, .int .i64 c.due] 112)) w2.heap.size 0 c := by
        obtain ⟨a0, a1, a2, a3, a4⟩ := box5 (World.alloc_heap_new w2 (.cells #[.string c.partner, .int .i64 c.number, .string c.text, .int .i64 c.tries, .int .i64 c.due] 112))
        exact ⟨a0, a1, a2, a3, a4⟩
      have hsz := H2.out.size
      clear hb2 hrow2 c0 c1 c2 c3 c4
      go_wp2_with (first | (at_builtin; refine wpList_appOu rfl _ _ rfl rfl rfl hrow hat (by omega) (by simp; omega) ?_; rintro v4 w4 hown4 hgrow4 ⟨A4, C4, rfl⟩))
      have e3 : rs.take (k + 1) = ts ++ [c] := by
        rw [List.take_add_one, HG.out.2.2.2, HT.out]
        rfl
      have H4 : Hid (w4.ownsRow w.heap.size 112 5 (.slice A4 (ts ++ [c]).length C4) (ts ++ [c]).length (clOus (ts ++ [c])) ∧ Below w.heap.size w w4) := by
        refine ⟨hown4, (H2.out.alloc hsz _).trans ⟨hgrow4.os, hgrow4.tape, hgrow4.output, hgrow4.size, fun q hq => hgrow4.block q (by simp; omega) (fun e => ?_)⟩⟩
        have := (hrow.lt q e.symm).1
        omega
      clear hown4 hgrow4
      go_wp2
      go_roundw
      case rel => exact ⟨k + 1, by go_num, by omega, ⟨A4, C4, ts ++ [c], e3.symm, by simp, by simpa using H4.out.1⟩, H4.out.2⟩
      case measure => simp [intOf]; omega
    · obtain rfl : k = rs.length := by omega
      have HF : Hid (wr.ownsRow w.heap.size 112 5 (.slice A1 ts.length C1) rs.length (clOus rs) ∧ Below w.heap.size w wr ∧ ts = rs) := by
        have e := HT.out
        rw [List.take_length] at e
        rw [e] at hR ⊢
        exact ⟨hR, hb, rfl⟩
      clear hR hb
      go_wp2
      go_ret
      obtain ⟨b, hb1, hL⟩ := LOu.of_owns HF.out.1 (by omega) (fun i g hi => by have := HR.out.2 g (List.mem_of_getElem? hi); omega)
      exact ⟨_, b, rfl, hb1, hL, HF.out.2.1⟩
end Go.Proofs.YtkgkahlhekecmaaGreat
