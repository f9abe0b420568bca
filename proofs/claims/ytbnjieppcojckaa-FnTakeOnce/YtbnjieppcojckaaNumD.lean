/- Contract of the model's l07Numbers: a source tells a list of so many numbers in a row of the call's own. -/
import Derived.Test.YtbnjieppcojckaaPick
import Derived.Test.YtbnjieppcojckaaRowN
import Derived.Test.YtbnjieppcojckaaCopyS
namespace Go.Proofs.Ytbnjieppcojckaa
open Go.ChangeShapes Go.WideShapes Go.ChangeAt Go.RowKit
theorem keep_grownN {B : Nat} {W W' : World} (h : Keep B W W') : W.grownBy W' (some B) := ⟨h.os, h.tape, h.output, h.size, fun k hk hB => h.block k hk (fun e => hB (by rw [e]))⟩
theorem cell_newN (W : World) (z : Int) : (W.alloc (.cells #[.int .i64 z] 2)).cell? ⟨W.heap.size, 0, none⟩ = some (.int .i64 z) := by simp [go_sem]
/-- What stands while numbers are drawn: the source in block B, a row of numbers of the call's own. -/
structure NI (B : Nat) (w W : World) (v : Value) (xs : List Int) : Prop where
  src : IsSrc B W
  kp : Keep B w W
  row : W.ownsRow w.heap.size 2 1 v xs.length (xs.map (Value.int .i64))
  hB : B < w.heap.size
  nn : ∃ ad C, v = .slice (some ad) xs.length C
theorem NI.not {B : Nat} {w W : World} {v : Value} {xs : List Int} (h : NI B w W v xs) : v.ownBlock ≠ some B := fun e => by
  have := (h.row.lt B e).1
  have := h.hB
  omega
theorem NI.keep {B : Nat} {w W W' : World} {v : Value} {xs : List Int} (h : NI B w W v xs) (hk : Keep B W W') (hs : IsSrc B W') : NI B w W' v xs :=
  ⟨hs, h.kp.trans hk, h.row.kept (keep_grownN hk) (.inr h.not), h.hB, h.nn⟩
theorem NI.app {B : Nat} {w W w1 : World} {v v' : Value} {xs ys : List Int} {tmp : Obj} (h : NI B w W v xs)
    (hown' : w1.ownsRow w.heap.size 2 1 v' ys.length (ys.map (Value.int .i64))) (hgrow : (W.alloc tmp).grownBy w1 v.ownBlock) (hne : ys ≠ []) : NI B w w1 v' ys := by
  have hsz := h.kp.size
  have hB := h.hB
  have h1 : Below w.heap.size W w1 := appN_below (Below.refl _ _) hsz h.row hgrow
  refine ⟨h.src.below (h1.mono (by omega)), ⟨h1.os.trans h.kp.os, h1.tape.trans h.kp.tape, h1.output.trans h.kp.output, Nat.le_trans hsz h1.size, fun k hk hB => (h1.block k hk).trans (h.kp.block k hk hB)⟩, hown', hB, ?_⟩
  rcases hown'.2 with ⟨rfl, h0⟩ | ⟨b, cap, cur, rfl, _⟩
  · exact absurd (List.eq_nil_of_length_eq_zero h0) hne
  · exact ⟨_, _, rfl⟩
set_option maxRecDepth 100000 in
set_option maxHeartbeats 4000000 in
theorem l07Numbers_any (B : Nat) (n : Nat) (w : World) (hn : n ≤ 1000) (hS : IsSrc B w) :
    Calls Try.prog 15 #[.pointer (some ⟨B, 0, none⟩), .int .i64 (n : Int)] w fun e w' => ∃ v xs, e = .returned v ∧ xs.length = n ∧ NI B w w' v xs := by
  have hlt := hS.lt
  have HS : Hid (IsSrc B w) := hS
  clear hS
  go_enter Try.func15, Try.ntmps15
  go_wp2
  go_loopw [1, 5, 6] (fun i v a wr => ∃ (k : Nat) (t : Int) (xs : List Int), i = .int .i64 (k : Int) ∧ a = .int .i64 t ∧ k + xs.length = n ∧ 1 ≤ t ∧ t ≤ 1 + 30 * (xs.length : Int) ∧ NI B w wr v xs) (fun i _ _ _ => (intOf i).toNat)
  case atStart =>
    refine ⟨n, 1, [], rfl, rfl, by simp, by omega, by simp, HS.out.below ((Below.refl _ _).alloc (by omega) _), (Keep.refl _ _).alloc _, ?_, hlt, ⟨_, _, rfl⟩⟩
    have := World.ownsRow_made (base := w.heap.size) (e := 2) (size := 1) w #[] 0 (by simp) (by unfold maxLen; omega) (by simp)
    simpa using this
  case round =>
    obtain ⟨k, t, xs, rfl, rfl, hk, ht0, ht1, hW⟩ := hrel
    have ht2 : t ≤ 40000 := by omega
    rcases Nat.eq_zero_or_pos k with rfl | hk0
    · have HW : Hid (NI B w wr u5 xs) := hW
      clear hW
      go_wp2
      go_ret
      exact ⟨_, xs, rfl, by omega, HW.out⟩
    · have hk1 : 0 < (k : Int) := by omega
      go_wp2_with fail
      refine (n_any B 8 _ (by omega) (by omega) hW.src).mono ?_
      rintro e w2 ⟨q, rfl, q0, q1, hs2, hk2⟩
      have hCq := hW.keep hk2 hs2
      clear hs2 hk2 hW
      have hq : q = 0 ∨ q = 1 ∨ q = 2 ∨ (q ≠ 0 ∧ q ≠ 1 ∧ q ≠ 2) := by omega
      clear q0 q1
      rcases hq with rfl | rfl | rfl | hq
      · go_wp2_with fail
        refine (n_any B (t + 4) _ (by omega) (by omega) hCq.src).mono ?_
        rintro e w3 ⟨p, rfl, p0, p1, hs3, hk3⟩
        have hCp := hCq.keep hk3 hs3
        clear hs3 hk3 hCq
        go_wp2_with (at_builtin; refine wpList_appN (z := 1 + p) (zs := xs) (base := w.heap.size) rfl _ _ rfl rfl rfl (hCp.row.alloc _) (cell_newN _ _) (by omega) (by have h9 := hCp.kp.size; simp only [World.size_alloc]; omega) ?_; rintro v6 w6 hown6 hgrow6 _; have hC4 := hCp.app hown6 hgrow6 (by simp); clear hown6 hgrow6)
        go_roundw
        case rel => exact ⟨k - 1, t, xs ++ [1 + p], by go_num, rfl, by simp; omega, by omega, by simp; omega, hC4⟩
        case measure => simp [intOf]; omega
      · go_wp2_with fail
        refine (n_any B 30 _ (by omega) (by omega) hCq.src).mono ?_
        rintro e w3 ⟨p, rfl, p0, p1, hs3, hk3⟩
        have hCp := hCq.keep hk3 hs3
        clear hs3 hk3 hCq
        go_wp2_with (at_builtin; refine wpList_appN (z := t + p) (zs := xs) (base := w.heap.size) rfl _ _ rfl rfl rfl (hCp.row.alloc _) (cell_newN _ _) (by omega) (by have h9 := hCp.kp.size; simp only [World.size_alloc]; omega) ?_; rintro v6 w6 hown6 hgrow6 _; have hC4 := hCp.app hown6 hgrow6 (by simp); clear hown6 hgrow6)
        go_roundw
        case rel => exact ⟨k - 1, t + p, xs ++ [t + p], by go_num, rfl, by simp; omega, by omega, by simp; omega, hC4⟩
        case measure => simp [intOf]; omega
      · go_wp2_with fail
        refine (n_any B 4 _ (by omega) (by omega) hCq.src).mono ?_
        rintro e w3 ⟨p, rfl, p0, p1, hs3, hk3⟩
        have hCp := hCq.keep hk3 hs3
        clear hs3 hk3 hCq
        go_wp2_with fail
        refine (l01Max_any 1 (t - 30 - p) _).mono ?_
        rintro e w4 ⟨rfl, rfl⟩
        generalize max 1 (t - 30 - p) = z
        go_wp2_with (at_builtin; refine wpList_appN (z := z) (zs := xs) (base := w.heap.size) rfl _ _ rfl rfl rfl (hCp.row.alloc _) (cell_newN _ _) (by omega) (by have h9 := hCp.kp.size; simp only [World.size_alloc]; omega) ?_; rintro v6 w6 hown6 hgrow6 _; have hC4 := hCp.app hown6 hgrow6 (by simp); clear hown6 hgrow6)
        go_roundw
        case rel => exact ⟨k - 1, t, xs ++ [z], by go_num, rfl, by simp; omega, by omega, by simp; omega, hC4⟩
        case measure => simp [intOf]; omega
      · obtain ⟨hne0, hne1, hne2⟩ := hq
        have g0 : (q == 0) = false := by simpa using hne0
        have g1 : (q == 1) = false := by simpa using hne1
        have g2 : (q == 2) = false := by simpa using hne2
        clear hne0 hne1 hne2
        have tok1 : True := trivial
        go_wp2_with (at_builtin; have _t := tok1; refine wpList_appN (z := t) (zs := xs) (base := w.heap.size) rfl _ _ rfl rfl rfl (hCq.row.alloc _) (cell_newN _ _) (by omega) (by have h9 := hCq.kp.size; simp only [World.size_alloc]; omega) ?_; rintro v6 w6 hown6 hgrow6 _; have hC4 := hCq.app hown6 hgrow6 (by simp); clear tok1 hown6 hgrow6 hCq)
        refine (n_any B 2 _ (by omega) (by omega) hC4.src).mono ?_
        rintro e w7 ⟨p, rfl, p0, p1, hs3, hk3⟩
        have hCp := hC4.keep hk3 hs3
        clear hs3 hk3 hC4
        go_wp2
        go_roundw
        case rel => exact ⟨k - 1, t + 1 + p, xs ++ [t], by go_num, rfl, by simp; omega, by omega, by simp; omega, hCp⟩
        case measure => simp [intOf]; omega
theorem l07Numbers_z (B : Nat) (z : Int) (w : World) (h0 : 0 ≤ z) (hz : z ≤ 1000) (hS : IsSrc B w) :
    Calls Try.prog 15 #[.pointer (some ⟨B, 0, none⟩), .int .i64 z] w fun e w' => ∃ v xs, e = .returned v ∧ xs.length ≤ 1000 ∧ NI B w w' v xs := by
  obtain ⟨n, rfl⟩ := Int.eq_ofNat_of_zero_le h0
  refine (l07Numbers_any B n w (by omega) hS).mono ?_
  rintro e w' ⟨v, xs, he, hx, hN⟩
  exact ⟨v, xs, he, by omega, hN⟩
end Go.Proofs.Ytbnjieppcojckaa
