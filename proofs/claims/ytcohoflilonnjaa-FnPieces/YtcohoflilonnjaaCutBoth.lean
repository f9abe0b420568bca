/- Contracts of both CutAt, whole: at every four numbers, every text and every number a list of the call's own with the pieces that cutP tells. -/
import Derived.Test.YtcohoflilonnjaaCutSpec
namespace Go.Proofs.Ytcohoflilonnjaa
open Go.ChangeShapes Go.WideShapes Go.ChangeAt Go.RowKit
/-- The pieces. -/
def cutP (a b c d : Int) (s : ByteArray) (y : Int) : List (List Int) := if s.size ≤ 20000 ∧ rightB a b c d = true ∧ cutB a b c y = true then (cutZ y (upto s d s.size)).1 ++ [(cutZ y (upto s d s.size)).2] else []
theorem row_nil (W : World) (n₀ e : Nat) : W.ownsRow n₀ e 1 (.slice none 0 0) 0 [] := World.ownsRow_nil _ _ _ _
set_option maxHeartbeats 1000000 in
theorem cut_impl (a b c d : Int) (s : ByteArray) (y : Int) (w : World) : Calls Try.prog 13 #[.agg #[.int .i64 a, .int .i64 b, .int .i64 c, .int .i64 d], .string s, .int .i64 y] w fun e w' => ∃ v, e = .returned v ∧ w'.ownsRow w.heap.size 9 1 v (cutP a b c d s y).length (strs (cutP a b c d s y)) ∧ Below w.heap.size w w' := by
  unfold cutP
  by_cases hs : s.size ≤ 20000
  · have hs' : (s.size : Int) ≤ 20000 := by omega
    cases hr : rightB a b c d
    · rw [if_neg (by simp)]
      go_enter Try.func13, Try.ntmps13
      go_wp2_with fail
      refine (right_impl a b c d _).mono ?_
      rintro e w1 ⟨rfl, hb1⟩
      rw [hr]
      go_wp2
      go_ret
      exact ⟨_, rfl, row_nil _ _ _, (((Below.refl _ _).alloc (Nat.le_refl _) _).alloc (by simp) _).trans (hb1.mono (by simp; omega))⟩
    · cases hy : cutB a b c y
      · rw [if_neg (by simp)]
        go_enter Try.func13, Try.ntmps13
        go_wp2_with fail
        refine (right_impl a b c d _).mono ?_
        rintro e w1 ⟨rfl, hb1⟩
        rw [hr]
        have hs1 : w.heap.size + 1 < w1.heap.size := by have := hb1.size; simp at this; omega
        have f0 := (Below.block hb1 w.heap.size (by simp; omega)).trans ((Below.heap_alloc _ _ _ (by simp)).trans (World.alloc_heap_new w _))
        have f1 : w1.heap[w.heap.size + 1]? = some (.cells #[.int .i64 y] 2) := (Below.block hb1 (w.heap.size + 1) (by simp)).trans (heap_new2 w _ _)
        have c0 : w1.cell? ⟨w.heap.size, 0, none⟩ = some (.int .i64 a) := by simp [World.cell?, f0]
        have c1 : w1.cell? ⟨w.heap.size, 1, none⟩ = some (.int .i64 b) := by simp [World.cell?, f0]
        have c2 : w1.cell? ⟨w.heap.size, 2, none⟩ = some (.int .i64 c) := by simp [World.cell?, f0]
        have c3 : w1.cell? ⟨w.heap.size, 3, none⟩ = some (.int .i64 d) := by simp [World.cell?, f0]
        have cy : w1.cell? ⟨w.heap.size + 1, 0, none⟩ = some (.int .i64 y) := by simp [World.cell?, f1]
        have HB : Hid (Below w.heap.size w w1) := (((Below.refl _ _).alloc (Nat.le_refl _) _).alloc (by simp) _).trans (hb1.mono (by simp; omega))
        clear f0 f1 hb1
        go_wp2_with fail
        refine (mayCut_any a b c d y _).mono ?_
        rintro e w2 ⟨rfl, hb2⟩
        rw [hy]
        go_wp2
        go_ret
        exact ⟨_, rfl, row_nil _ _ _, HB.out.trans (hb2.mono (by omega))⟩
      · rw [if_pos ⟨hs, rfl, rfl⟩]
        have := cut_right a b c d s y w hr hs hy
        simpa using this
  · rw [if_neg (by omega)]
    have hs' : (20000 : Int) < (s.size : Int) := by omega
    go_enter Try.func13, Try.ntmps13
    go_wp2
    go_ret
    exact ⟨_, rfl, row_nil _ _ _, ((Below.refl _ _).alloc (Nat.le_refl _) _).alloc (by simp) _⟩
theorem right_ne {a b c d y : Int} (hr : rightB a b c d = true) (hy : cutB a b c y = true) : (y == d) = false := by
  rw [rightB_eq] at hr
  simp only [Bool.and_eq_true, Bool.not_eq_true', beq_eq_false_iff_ne] at hr
  unfold cutB at hy
  simp only [Bool.or_eq_true, beq_iff_eq] at hy
  rw [beq_eq_false_iff_ne]
  obtain ⟨_, _, _, _, h1, h2, h3⟩ := hr
  rcases hy with rfl | rfl | rfl
  · exact h1
  · exact h2
  · exact h3
set_option maxHeartbeats 1000000 in
theorem cut_spec (a b c d : Int) (s : ByteArray) (y : Int) (w : World) : Calls Try.prog 30 #[.agg #[.int .i64 a, .int .i64 b, .int .i64 c, .int .i64 d], .string s, .int .i64 y] w fun e w' => ∃ v, e = .returned v ∧ w'.ownsRow w.heap.size 9 1 v (cutP a b c d s y).length (strs (cutP a b c d s y)) ∧ Below w.heap.size w w' := by
  unfold cutP
  by_cases hs : s.size ≤ 20000
  · have hs' : (s.size : Int) ≤ 20000 := by omega
    cases hr : rightB a b c d
    · rw [if_neg (by simp)]
      go_enter Try.func30, Try.ntmps30
      go_wp2_with fail
      refine (right_spec a b c d _).mono ?_
      rintro e w1 ⟨rfl, hb1⟩
      rw [hr]
      have hs1 : w.heap.size < w1.heap.size := by have := hb1.size; simp at this; omega
      go_wp2
      go_ret
      exact ⟨_, rfl, by simpa [strs] using World.ownsRow_made (base := w.heap.size) (e := 9) (size := 1) w1 #[] 0 (by omega) (by unfold maxLen; omega) (by simp), (((Below.refl _ _).alloc (Nat.le_refl _) _).trans (hb1.mono (by simp))).alloc (by omega) _⟩
    · have hyc : cutB a b c y = ((y == a) || ((y == b) || (y == c))) := rfl
      cases ha : (y == a)
      · cases hb : (y == b)
        · cases hc : (y == c)
          · have hcy : cutB a b c y = false := by rw [hyc, ha, hb, hc]; rfl
            rw [hcy, if_neg (by simp)]
            have na : (y != a) = true := by simp [bne, ha]
            have nb : (y != b) = true := by simp [bne, hb]
            have nc : (y != c) = true := by simp [bne, hc]
            go_enter Try.func30, Try.ntmps30
            go_wp2_with fail
            refine (right_spec a b c d _).mono ?_
            rintro e w1 ⟨rfl, hb1⟩
            rw [hr]
            obtain ⟨q0, q1, q2, q3, qs⟩ := box4 (hb1.mono (by simp))
            have HB : Hid (Below w.heap.size w w1) := ((Below.refl _ _).alloc (Nat.le_refl _) _).trans (hb1.mono (by simp))
            clear hb1
            go_wp2
            go_ret
            exact ⟨_, rfl, by simpa [strs] using World.ownsRow_made (base := w.heap.size) (e := 9) (size := 1) w1 #[] 0 (by omega) (by unfold maxLen; omega) (by simp), HB.out.alloc (by omega) _⟩
          · have hcy : cutB a b c y = true := by rw [hyc, ha, hb, hc]; rfl
            rw [hcy, if_pos ⟨hs, rfl, rfl⟩]
            have na : (y != a) = true := by simp [bne, ha]
            have nb : (y != b) = true := by simp [bne, hb]
            have nc : (y != c) = false := by simp [bne, hc]
            go_enter Try.func30, Try.ntmps30
            go_wp2_with fail
            refine (right_spec a b c d _).mono ?_
            rintro e w1 ⟨rfl, hb1⟩
            rw [hr]
            obtain ⟨q0, q1, q2, q3, qs⟩ := box4 (hb1.mono (by simp))
            have HB : Hid (Below w.heap.size w w1) := ((Below.refl _ _).alloc (Nat.le_refl _) _).trans (hb1.mono (by simp))
            clear hb1
            go_wp2_with fail
            refine (l01Cut_any a b c d s y _ hs (right_ne hr hcy)).mono ?_
            rintro e w2 ⟨v, rfl, hrow, hb2⟩
            have H2 : Hid (w2.ownsRow w1.heap.size 9 1 v ((cutZ y (upto s d s.size)).1.length + 1) (strs ((cutZ y (upto s d s.size)).1 ++ [(cutZ y (upto s d s.size)).2])) ∧ Below w1.heap.size w1 w2) := ⟨hrow, hb2⟩
            clear hrow hb2
            go_wp2
            go_ret
            exact ⟨_, rfl, by simpa using row_mono H2.out.1 (by omega), HB.out.trans (H2.out.2.mono (by omega))⟩
        · have hcy : cutB a b c y = true := by rw [hyc, ha, hb]; rfl
          rw [hcy, if_pos ⟨hs, rfl, rfl⟩]
          have na : (y != a) = true := by simp [bne, ha]
          have nb : (y != b) = false := by simp [bne, hb]
          go_enter Try.func30, Try.ntmps30
          go_wp2_with fail
          refine (right_spec a b c d _).mono ?_
          rintro e w1 ⟨rfl, hb1⟩
          rw [hr]
          obtain ⟨q0, q1, q2, q3, qs⟩ := box4 (hb1.mono (by simp))
          have HB : Hid (Below w.heap.size w w1) := ((Below.refl _ _).alloc (Nat.le_refl _) _).trans (hb1.mono (by simp))
          clear hb1
          go_wp2_with fail
          refine (l01Cut_any a b c d s y _ hs (right_ne hr hcy)).mono ?_
          rintro e w2 ⟨v, rfl, hrow, hb2⟩
          have H2 : Hid (w2.ownsRow w1.heap.size 9 1 v ((cutZ y (upto s d s.size)).1.length + 1) (strs ((cutZ y (upto s d s.size)).1 ++ [(cutZ y (upto s d s.size)).2])) ∧ Below w1.heap.size w1 w2) := ⟨hrow, hb2⟩
          clear hrow hb2
          go_wp2
          go_ret
          exact ⟨_, rfl, by simpa using row_mono H2.out.1 (by omega), HB.out.trans (H2.out.2.mono (by omega))⟩
      · have hcy : cutB a b c y = true := by rw [hyc, ha]; rfl
        rw [hcy, if_pos ⟨hs, rfl, rfl⟩]
        have na : (y != a) = false := by simp [bne, ha]
        go_enter Try.func30, Try.ntmps30
        go_wp2_with fail
        refine (right_spec a b c d _).mono ?_
        rintro e w1 ⟨rfl, hb1⟩
        rw [hr]
        obtain ⟨q0, q1, q2, q3, qs⟩ := box4 (hb1.mono (by simp))
        have HB : Hid (Below w.heap.size w w1) := ((Below.refl _ _).alloc (Nat.le_refl _) _).trans (hb1.mono (by simp))
        clear hb1
        go_wp2_with fail
        refine (l01Cut_any a b c d s y _ hs (right_ne hr hcy)).mono ?_
        rintro e w2 ⟨v, rfl, hrow, hb2⟩
        have H2 : Hid (w2.ownsRow w1.heap.size 9 1 v ((cutZ y (upto s d s.size)).1.length + 1) (strs ((cutZ y (upto s d s.size)).1 ++ [(cutZ y (upto s d s.size)).2])) ∧ Below w1.heap.size w1 w2) := ⟨hrow, hb2⟩
        clear hrow hb2
        go_wp2
        go_ret
        exact ⟨_, rfl, by simpa using row_mono H2.out.1 (by omega), HB.out.trans (H2.out.2.mono (by omega))⟩
  · rw [if_neg (by omega)]
    have hs' : (20000 : Int) < (s.size : Int) := by omega
    go_enter Try.func30, Try.ntmps30
    go_wp2
    go_ret
    exact ⟨_, rfl, by simpa [strs] using World.ownsRow_made (base := w.heap.size) (e := 9) (size := 1) (w.alloc _) #[] 0 (by simp) (by unfold maxLen; omega) (by simp), ((Below.refl _ _).alloc (Nat.le_refl _) _).alloc (by simp) _⟩
end Go.Proofs.Ytcohoflilonnjaa
