/- Contract of the model's words: a source tells a text of at most n bytes and writes nothing that was there but its own block. -/
import Derived.Test.YtphgheojfnlgjaaDoorCollB
import Derived.Test.YtphgheojfnlgjaaDoorOwnB
import Derived.Test.YtphgheojfnlgjaaDoorSrcNew
namespace Go.Proofs.YtphgheojfnlgjaaDoor
open Go.ChangeShapes Go.WideShapes Go.ChangeAt Go.RowKit
theorem Keep.grownBy {B : Nat} {W W' : World} (h : Keep B W W') : W.grownBy W' (some B) := ⟨h.os, h.tape, h.output, h.size, fun k hk hB => h.block k hk (fun e => hB (by rw [e]))⟩
/-- What stands while bytes are drawn: the source in block B, the syntax in block X, a row of bytes of the call's own. -/
structure WI (B X : Nat) (o : Obj) (w W : World) (v : Value) (xs : List Int) : Prop where
  src : IsSrc B W
  kp : Keep B w W
  row : W.ownsRow w.heap.size 5 1 v xs.length (xs.map (Value.int .u8))
  fx : W.heap[X]? = some o
  hX : w.heap.size ≤ X
  hB : B < w.heap.size
  ob : ∃ c t, o = .cells c t ∧ t ≠ 5
theorem WI.lt {B X : Nat} {o : Obj} {w W : World} {v : Value} {xs : List Int} (h : WI B X o w W v xs) : X < W.heap.size := (Array.getElem?_eq_some_iff.1 h.fx).1
theorem WI.keep {B X : Nat} {o : Obj} {w W W' : World} {v : Value} {xs : List Int} (h : WI B X o w W v xs) (hk : Keep B W W') (hs : IsSrc B W') : WI B X o w W' v xs :=
  ⟨hs, h.kp.trans hk, h.row.kept hk.grownBy (.inr (row_lt h.row h.hB).symm), (hk.block X h.lt (by have := h.hX; have := h.hB; omega)).trans h.fx, h.hX, h.hB, h.ob⟩
theorem WI.drewN {B X : Nat} {o : Obj} {w W : World} {v : Value} {xs : List Int} (h : WI B X o w W v xs) (n : Nat) : WI B X o w (W.drewN n) v xs :=
  h.keep ((Keep.refl _ _).drewN n) (h.src.below (below_drewN (Below.refl _ _) n))
theorem WI.app {B X : Nat} {o : Obj} {w W w1 : World} {v v' : Value} {xs : List Int} {x : Int} {tmp : Obj} (h : WI B X o w W v xs)
    (hown' : w1.ownsRow w.heap.size 5 1 v' (xs.length + 1) (xs.map (Value.int .u8) ++ [.int .u8 x])) (hgrow : (W.alloc tmp).grownBy w1 v.ownBlock) : WI B X o w w1 v' (xs ++ [x]) := by
  obtain ⟨c, t, e1, e2⟩ := h.ob
  have hb := row_base h.row
  have hsz := h.kp.size
  have hX := h.lt
  have hB := h.hB
  have h1 : Below w.heap.size W w1 := (((Below.refl _ _).alloc hsz tmp)).grown hgrow (by simp; omega) hb
  refine ⟨h.src.below (h1.mono (by omega)), ?_, by simpa using hown', ?_, h.hX, h.hB, h.ob⟩
  · exact ⟨h1.os.trans h.kp.os, h1.tape.trans h.kp.tape, h1.output.trans h.kp.output, Nat.le_trans hsz h1.size, fun k hk hB => (h1.block k hk).trans (h.kp.block k hk hB)⟩
  · rw [hgrow.block X (by simp; omega) (row_not_obj h.row (by rw [h.fx, e1]) e2), Below.heap_alloc W tmp X hX]
    exact h.fx
set_option maxRecDepth 100000 in
set_option maxHeartbeats 4000000 in
theorem words_any (B : Nat) (a b c d : Int) (n : Nat) (w : World) (hn : n ≤ 1000) (hS : IsSrc B w) :
    Calls Tryd.prog 31 #[.pointer (some ⟨B, 0, none⟩), .agg #[.int .i64 a, .int .i64 b, .int .i64 c, .int .i64 d], .int .i64 (n : Int)] w fun e w' => ∃ s, e = .returned (.string s) ∧ s.size ≤ n ∧ IsSrc B w' ∧ Keep B w w' := by
  have hlt := hS.lt
  obtain ⟨i0, hi, hz0, hz1, hz2⟩ := info_parts info5
  have HS : Hid (IsSrc B w) := hS
  clear hS
  go_enter Tryd.func31, Tryd.ntmps31
  go_wp2
  go_loopw [2, 7] (fun i v wr => ∃ (k : Nat) (xs : List Int), i = .int .i64 (k : Int) ∧ k + xs.length = n ∧ WI B w.heap.size (.cells #[.int .i64 a, .int .i64 b, .int .i64 c, .int .i64 d] 71) w wr v xs) (fun i _ _ => (intOf i).toNat)
  case atStart =>
    refine ⟨n, [], rfl, by simp, HS.out.below (((Below.refl _ _).alloc (by omega) _).alloc (by simp; omega) _), ((Keep.refl _ _).alloc _).alloc _, ?_, (Below.heap_alloc _ _ _ (by simp)).trans (World.alloc_heap_new w _), Nat.le_refl _, hlt, ⟨_, _, rfl, by decide⟩⟩
    have := World.ownsRow_made (base := w.heap.size) (e := 5) (size := 1) (w.alloc (.cells #[.int .i64 a, .int .i64 b, .int .i64 c, .int .i64 d] 71)) #[] 0 (by simp) (by unfold maxLen; omega) (by simp)
    simpa using this
  case round =>
    obtain ⟨k, xs, rfl, hk, hW⟩ := hrel
    have hmx : xs.length + 1 ≤ maxLen := by unfold maxLen; omega
    have f1 := hW.fx
    have c0 : wr.cell? ⟨w.heap.size, 0, none⟩ = some (.int .i64 a) := by simp [World.cell?, f1]
    clear f1
    rcases Nat.eq_zero_or_pos k with rfl | hk0
    · have hcv := conv_row hW.row
      have HW : Hid (WI B w.heap.size (.cells #[.int .i64 a, .int .i64 b, .int .i64 c, .int .i64 d] 71) w wr u7 xs) := hW
      clear hW
      go_wp2
      go_ret
      exact ⟨_, rfl, by rw [strOfNums_size]; omega, HW.out.src, HW.out.kp⟩
    · have hk1 : 0 < (k : Int) := by omega
      go_wp2_with fail
      refine (n_any B 6 _ (by omega) (by omega) hW.src).mono ?_
      rintro e w2 ⟨q, rfl, q0, q1, hs2, hk2⟩
      have hCq := hW.keep hk2 hs2
      clear hs2 hk2 hW
      have hq : q = 0 ∨ q = 1 ∨ q = 2 ∨ q = 3 ∨ q = 4 ∨ q = 5 := by omega
      clear q0 q1
      have f2 := hCq.fx
      have c0 : w2.cell? ⟨w.heap.size, 0, none⟩ = some (.int .i64 a) := by simp [World.cell?, f2]
      have c1 : w2.cell? ⟨w.heap.size, 1, none⟩ = some (.int .i64 b) := by simp [World.cell?, f2]
      have c2 : w2.cell? ⟨w.heap.size, 2, none⟩ = some (.int .i64 c) := by simp [World.cell?, f2]
      have c3 : w2.cell? ⟨w.heap.size, 3, none⟩ = some (.int .i64 d) := by simp [World.cell?, f2]
      have tok1 : True := trivial
      clear f2
      rcases hq with rfl | rfl | rfl | rfl | hq
      · go_wp2_with (at_builtin; have _t := tok1; refine wpList_append_own _ rfl _ _ 22 rfl w.heap.size 5 i0 (.int .u8 0) 1 1 Tryd.underlying22 hi hz0 hz1 hz2 rfl (by decide) _ _ _ rfl (hCq.row.alloc _) ⟨_, 0, none⟩ 1 1 [.int .u8 (a % 256)] rfl rfl (cell_one_at _ _ _ _ (by simp)) (by simp [Value.oneCell']) hmx (by omega) (by have h9 := hCq.kp.size; first | (simp; omega) | (simp at h9 ⊢; omega)) ?_; intro u' w4 hown' hgrow _; have hC4 := hCq.app hown' hgrow; clear tok1 hown' hgrow)
        go_roundw
        case rel => exact ⟨k - 1, xs ++ [a % 256], by go_num, by simp; omega, hC4⟩
        case measure => simp [intOf]; omega
      · go_wp2_with (at_builtin; have _t := tok1; refine wpList_append_own _ rfl _ _ 22 rfl w.heap.size 5 i0 (.int .u8 0) 1 1 Tryd.underlying22 hi hz0 hz1 hz2 rfl (by decide) _ _ _ rfl (hCq.row.alloc _) ⟨_, 0, none⟩ 1 1 [.int .u8 (b % 256)] rfl rfl (cell_one_at _ _ _ _ (by simp)) (by simp [Value.oneCell']) hmx (by omega) (by have h9 := hCq.kp.size; first | (simp; omega) | (simp at h9 ⊢; omega)) ?_; intro u' w4 hown' hgrow _; have hC4 := hCq.app hown' hgrow; clear tok1 hown' hgrow)
        go_roundw
        case rel => exact ⟨k - 1, xs ++ [b % 256], by go_num, by simp; omega, hC4⟩
        case measure => simp [intOf]; omega
      · go_wp2_with (at_builtin; have _t := tok1; refine wpList_append_own _ rfl _ _ 22 rfl w.heap.size 5 i0 (.int .u8 0) 1 1 Tryd.underlying22 hi hz0 hz1 hz2 rfl (by decide) _ _ _ rfl (hCq.row.alloc _) ⟨_, 0, none⟩ 1 1 [.int .u8 (c % 256)] rfl rfl (cell_one_at _ _ _ _ (by simp)) (by simp [Value.oneCell']) hmx (by omega) (by have h9 := hCq.kp.size; first | (simp; omega) | (simp at h9 ⊢; omega)) ?_; intro u' w4 hown' hgrow _; have hC4 := hCq.app hown' hgrow; clear tok1 hown' hgrow)
        go_roundw
        case rel => exact ⟨k - 1, xs ++ [c % 256], by go_num, by simp; omega, hC4⟩
        case measure => simp [intOf]; omega
      · go_wp2_with (at_builtin; have _t := tok1; refine wpList_append_own _ rfl _ _ 22 rfl w.heap.size 5 i0 (.int .u8 0) 1 1 Tryd.underlying22 hi hz0 hz1 hz2 rfl (by decide) _ _ _ rfl (hCq.row.alloc _) ⟨_, 0, none⟩ 1 1 [.int .u8 (d % 256)] rfl rfl (cell_one_at _ _ _ _ (by simp)) (by simp [Value.oneCell']) hmx (by omega) (by have h9 := hCq.kp.size; first | (simp; omega) | (simp at h9 ⊢; omega)) ?_; intro u' w4 hown' hgrow _; have hC4 := hCq.app hown' hgrow; clear tok1 hown' hgrow)
        go_roundw
        case rel => exact ⟨k - 1, xs ++ [d % 256], by go_num, by simp; omega, hC4⟩
        case measure => simp [intOf]; omega
      · have hne : q ≠ 0 ∧ q ≠ 1 ∧ q ≠ 2 ∧ q ≠ 3 := by omega
        clear c0 c1 c2 c3
        obtain ⟨hne0, hne1, hne2, hne3⟩ := hne
        have g0 : (q == 0) = false := by simpa using hne0
        have g1 : (q == 1) = false := by simpa using hne1
        have g2 : (q == 2) = false := by simpa using hne2
        have g3 : (q == 3) = false := by simpa using hne3
        clear hq hne0 hne1 hne2 hne3
        go_wp2_with fail
        refine (n_any B 6 _ (by omega) (by omega) hCq.src).mono ?_
        rintro e w3 ⟨p, rfl, p0, p1, hs3, hk3⟩
        have hCp := hCq.keep hk3 hs3
        clear hs3 hk3 hCq
        have hp : p = 0 ∨ p = 1 ∨ p = 2 ∨ p = 3 ∨ p = 4 ∨ p = 5 := by omega
        clear p0 p1
        rcases hp with rfl | rfl | rfl | rfl | rfl | rfl
        · go_wp2_with (at_builtin; have _t := tok1; refine wpList_append_own _ rfl _ _ 22 rfl w.heap.size 5 i0 (.int .u8 0) 1 1 Tryd.underlying22 hi hz0 hz1 hz2 rfl (by decide) _ _ _ rfl (hCp.row.alloc _) ⟨_, 0, none⟩ 1 1 [.int .u8 (65)] rfl rfl (cell_one_at _ _ _ _ (by simp)) (by simp [Value.oneCell']) hmx (by omega) (by have h9 := hCp.kp.size; first | (simp; omega) | (simp at h9 ⊢; omega)) ?_; intro u' w4 hown' hgrow _; have hC4 := hCp.app hown' hgrow; clear tok1 hown' hgrow)
          go_roundw
          case rel => exact ⟨k - 1, xs ++ [65], by go_num, by simp; omega, hC4⟩
          case measure => simp [intOf]; omega
        · go_wp2_with (at_builtin; have _t := tok1; refine wpList_append_own _ rfl _ _ 22 rfl w.heap.size 5 i0 (.int .u8 0) 1 1 Tryd.underlying22 hi hz0 hz1 hz2 rfl (by decide) _ _ _ rfl (hCp.row.alloc _) ⟨_, 0, none⟩ 1 1 [.int .u8 (66)] rfl rfl (cell_one_at _ _ _ _ (by simp)) (by simp [Value.oneCell']) hmx (by omega) (by have h9 := hCp.kp.size; first | (simp; omega) | (simp at h9 ⊢; omega)) ?_; intro u' w4 hown' hgrow _; have hC4 := hCp.app hown' hgrow; clear tok1 hown' hgrow)
          go_roundw
          case rel => exact ⟨k - 1, xs ++ [66], by go_num, by simp; omega, hC4⟩
          case measure => simp [intOf]; omega
        · go_wp2_with (at_builtin; have _t := tok1; refine wpList_append_own _ rfl _ _ 22 rfl w.heap.size 5 i0 (.int .u8 0) 1 1 Tryd.underlying22 hi hz0 hz1 hz2 rfl (by decide) _ _ _ rfl (hCp.row.alloc _) ⟨_, 0, none⟩ 1 1 [.int .u8 (99)] rfl rfl (cell_one_at _ _ _ _ (by simp)) (by simp [Value.oneCell']) hmx (by omega) (by have h9 := hCp.kp.size; first | (simp; omega) | (simp at h9 ⊢; omega)) ?_; intro u' w4 hown' hgrow _; have hC4 := hCp.app hown' hgrow; clear tok1 hown' hgrow)
          go_roundw
          case rel => exact ⟨k - 1, xs ++ [99], by go_num, by simp; omega, hC4⟩
          case measure => simp [intOf]; omega
        · go_wp2_with (at_builtin; have _t := tok1; refine wpList_append_own _ rfl _ _ 22 rfl w.heap.size 5 i0 (.int .u8 0) 1 1 Tryd.underlying22 hi hz0 hz1 hz2 rfl (by decide) _ _ _ rfl (hCp.row.alloc _) ⟨_, 0, none⟩ 1 1 [.int .u8 (32)] rfl rfl (cell_one_at _ _ _ _ (by simp)) (by simp [Value.oneCell']) hmx (by omega) (by have h9 := hCp.kp.size; first | (simp; omega) | (simp at h9 ⊢; omega)) ?_; intro u' w4 hown' hgrow _; have hC4 := hCp.app hown' hgrow; clear tok1 hown' hgrow)
          go_roundw
          case rel => exact ⟨k - 1, xs ++ [32], by go_num, by simp; omega, hC4⟩
          case measure => simp [intOf]; omega
        · go_wp2_with (at_builtin; have _t := tok1; refine wpList_append_own _ rfl _ _ 22 rfl w.heap.size 5 i0 (.int .u8 0) 1 1 Tryd.underlying22 hi hz0 hz1 hz2 rfl (by decide) _ _ _ rfl (hCp.row.alloc _) ⟨_, 0, none⟩ 1 1 [.int .u8 (49)] rfl rfl (cell_one_at _ _ _ _ (by simp)) (by simp [Value.oneCell']) hmx (by omega) (by have h9 := hCp.kp.size; first | (simp; omega) | (simp at h9 ⊢; omega)) ?_; intro u' w4 hown' hgrow _; have hC4 := hCp.app hown' hgrow; clear tok1 hown' hgrow)
          go_roundw
          case rel => exact ⟨k - 1, xs ++ [49], by go_num, by simp; omega, hC4⟩
          case measure => simp [intOf]; omega
        · go_wp2_with (at_builtin; have _t := tok1; refine wpList_append_own _ rfl _ _ 22 rfl w.heap.size 5 i0 (.int .u8 0) 1 1 Tryd.underlying22 hi hz0 hz1 hz2 rfl (by decide) _ _ _ rfl (hCp.row.alloc _) ⟨_, 0, none⟩ 1 1 [.int .u8 (45)] rfl rfl (cell_one_at _ _ _ _ (by simp)) (by simp [Value.oneCell']) hmx (by omega) (by have h9 := hCp.kp.size; first | (simp; omega) | (simp at h9 ⊢; omega)) ?_; intro u' w4 hown' hgrow _; have hC4 := hCp.app hown' hgrow; clear tok1 hown' hgrow)
          go_roundw
          case rel => exact ⟨k - 1, xs ++ [45], by go_num, by simp; omega, hC4⟩
          case measure => simp [intOf]; omega
end Go.Proofs.YtphgheojfnlgjaaDoor
