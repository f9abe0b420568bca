/- The model's pick beside its words. -/
import Derived.Test.YtphgheojfnlgjaaDoorSrcNew
import Derived.Deep.CutRange
import Derived.Deep.QuietTactic
import Derived.BigQuiet
import Derived.Test.YtphgheojfnlgjaaDoorRows
import Derived.Test.YtphgheojfnlgjaaDoorOwnB
import Derived.Laws.BytesArg
import Derived.Maps.AppendAt
import Derived.Shelf.Abstract
namespace Go.Proofs.YtphgheojfnlgjaaDoor
open Go.ChangeShapes Go.WideShapes Go.ChangeAt Go.RowKit
set_option maxHeartbeats 1000000 in
theorem pick_any (B g n cap : Nat) (T : List ByteArray) (w : World) (hn : 1 < n) (hn2 : n ≤ 1000) (hT : T.length = n) (hg : g ≠ B) (hc : ∀ (i : Nat) (t : ByteArray), T[i]? = some t → w.cell? ⟨g, i, none⟩ = some (.string t)) (hS : IsSrc B w) :
    Calls Tryd.prog 23 #[.pointer (some ⟨B, 0, none⟩), .slice (some ⟨g, 0, none⟩) n cap] w fun e w' => ∃ s, e = .returned (.string s) ∧ s ∈ T ∧ IsSrc B w' ∧ Keep B w w' := by
  have HS : Hid (IsSrc B w ∧ ∀ (i : Nat) (t : ByteArray), T[i]? = some t → w.cell? ⟨g, i, none⟩ = some (.string t)) := ⟨hS, hc⟩
  clear hS hc
  go_enter Tryd.func23, Tryd.ntmps23
  go_wp2_with fail
  refine (n_any B (n : Int) _ (by omega) (by omega) HS.out.1).mono ?_
  rintro e w2 ⟨x, rfl, hx0, hx1, hs2, hk2⟩
  obtain ⟨i, rfl⟩ : ∃ i : Nat, x = (i : Int) := ⟨x.toNat, by omega⟩
  have hi : i < T.length := by omega
  have hc2 : w2.cell? ⟨g, i, none⟩ = some (.string T[i]) := hk2.cell (HS.out.2 i _ (List.getElem?_eq_getElem hi)) hg
  have hlt' : (i : Int) < (n : Int) := by omega
  have HN : Hid (IsSrc B w2 ∧ Keep B w w2 ∧ T[i] ∈ T) := ⟨hs2, hk2, List.getElem_mem hi⟩
  clear hs2 hk2
  go_wp2
  go_ret
  exact ⟨_, rfl, HN.out.2.2, HN.out.1, HN.out.2.1⟩
set_option maxHeartbeats 1000000 in
theorem n_pos (B : Nat) (most : Int) (w : World) (hm : 1 ≤ most) (hm2 : most ≤ 9223372036854775807) (hS : IsSrc B w) :
    Calls Tryd.prog 12 #[.pointer (some ⟨B, 0, none⟩), .int .i64 most] w (Drawn B w most) := by
  by_cases h1 : 1 < most
  · exact n_any B most w h1 hm2 hS
  · obtain rfl : most = 1 := by omega
    have HS : Hid (IsSrc B w) := hS
    clear hS
    go_enter Tryd.func12, Tryd.ntmps12
    go_wp2
    go_ret
    exact ⟨0, rfl, by omega, by omega, HS.out, Keep.refl _ _⟩
end Go.Proofs.YtphgheojfnlgjaaDoor
namespace Go.Proofs.YtphgheojfnlgjaaDoor
open Go.ChangeShapes Go.WideShapes Go.ChangeAt Go.RowKit Go.Shelf
theorem info5 : (Tryd.prog.info? 5).map (fun i => (i.zero, i.size, i.bytes)) = some (some (.int .u8 0), 1, 1) := by kernel_rfl
theorem conv_row {W : World} {n₀ : Nat} {v : Value} {xs : List Int} (h : W.ownsRow n₀ 5 1 v xs.length (xs.map (Value.int .u8))) : (convert 22 9 v).run Tryd.prog W = .ok (.string (strOfNums xs)) W := by
  rcases h.2 with ⟨rfl, e⟩ | ⟨g, cap, cur, rfl, _, hgb, _, _, hcs, htk⟩
  · have : xs = [] := List.length_eq_zero_iff.1 e
    subst this
    exact run_convert_bytes_nil W 22 5 Tryd.underlying22 Tryd.underlying5 0 0 9 Tryd.underlying9
  · refine run_convert_bytes_arg W 22 5 Tryd.underlying22 Tryd.underlying5 g 0 xs.length cap xs rfl (fun i hi => ?_) 9 Tryd.underlying9
    have h1 : (cur.toList.take (xs.length * 1))[i]? = (xs.map (Value.int .u8))[i]? := by rw [htk]
    rw [List.getElem?_take_of_lt (by omega)] at h1
    simp [World.cell?, hgb, List.getElem?_eq_getElem hi] at h1 ⊢
    rw [h1]
theorem cell_one_at (w : World) (x : Value) (t : TypeId) (g : Nat) (hg : g = w.heap.size) : ∀ j u, [x][j]? = some u → (w.alloc (.cells #[x] t)).cell? ((⟨g, 0, none⟩ : Addr).add j) = some u := by
  subst hg
  exact cell_one_new w x t
theorem row_not_obj {W : World} {n₀ e k : Nat} {v : Value} {xs : List Value} (h : W.ownsRow n₀ e 1 v k xs) {b : Nat} {c : Array Value} {t : TypeId} (hb : W.heap[b]? = some (.cells c t)) (hne : t ≠ e) : some b ≠ v.ownBlock := by
  intro e1
  rcases h.2 with ⟨rfl, _⟩ | ⟨g, cap, cur, rfl, _, hgb, _⟩
  · simp [Value.ownBlock] at e1
  · obtain rfl : b = g := by simpa [Value.ownBlock] using e1
    rw [hb] at hgb
    cases hgb
    exact hne rfl
end Go.Proofs.YtphgheojfnlgjaaDoor
namespace Go.Proofs.YtphgheojfnlgjaaDoor
open Go.ChangeShapes Go.WideShapes Go.ChangeAt Go.RowKit
theorem Keep.grownBy {B : Nat} {W W' : World} (h : Keep B W W') : W.grownBy W' (some B) := ⟨h.os, h.tape, h.output, h.size, fun k hk hB => h.block k hk (fun e => hB (by rw [e]))⟩
/-- What stands while bytes are drawn: the source in block B, the syntax in block X, a row of bytes of the call's own. -/
structure WI (B X : Nat) (o : Obj) (w W : World) (v : Value) (xs : List Int) : Prop where
  src : IsSrc B W
  kp : Keep B w W
  row : W.ownsRow w.heap.size 5 1 v xs.length (xs.map (Value.int .u8))
  fx : W.heap[X]? = some o
  hX : w.heap.size ≤ X
  hB : B < w.heap.size
  ob : ∃ c t, o = .cells c t ∧ t ≠ 5
theorem WI.lt {B X : Nat} {o : Obj} {w W : World} {v : Value} {xs : List Int} (h : WI B X o w W v xs) : X < W.heap.size := (Array.getElem?_eq_some_iff.1 h.fx).1
theorem WI.keep {B X : Nat} {o : Obj} {w W W' : World} {v : Value} {xs : List Int} (h : WI B X o w W v xs) (hk : Keep B W W') (hs : IsSrc B W') : WI B X o w W' v xs :=
  ⟨hs, h.kp.trans hk, h.row.kept hk.grownBy (.inr (row_lt h.row h.hB).symm), (hk.block X h.lt (by have := h.hX; have := h.hB; omega)).trans h.fx, h.hX, h.hB, h.ob⟩
theorem WI.drewN {B X : Nat} {o : Obj} {w W : World} {v : Value} {xs : List Int} (h : WI B X o w W v xs) (n : Nat) : WI B X o w (W.drewN n) v xs :=
  h.keep ((Keep.refl _ _).drewN n) (h.src.below (below_drewN (Below.refl _ _) n))
theorem WI.app {B X : Nat} {o : Obj} {w W w1 : World} {v v' : Value} {xs : List Int} {x : Int} {tmp : Obj} (h : WI B X o w W v xs)
    (hown' : w1.ownsRow w.heap.size 5 1 v' (xs.length + 1) (xs.map (Value.int .u8) ++ [.int .u8 x])) (hgrow : (W.alloc tmp).grownBy w1 v.ownBlock) : WI B X o w w1 v' (xs ++ [x]) := by
  obtain ⟨c, t, e1, e2⟩ := h.ob
  have hb := row_base h.row
  have hsz := h.kp.size
  have hX := h.lt
  have hB := h.hB
  have h1 : Below w.heap.size W w1 := (((Below.refl _ _).alloc hsz tmp)).grown hgrow (by simp; omega) hb
  refine ⟨h.src.below (h1.mono (by omega)), ?_, by simpa using hown', ?_, h.hX, h.hB, h.ob⟩
  · exact ⟨h1.os.trans h.kp.os, h1.tape.trans h.kp.tape, h1.output.trans h.kp.output, Nat.le_trans hsz h1.size, fun k hk hB => (h1.block k hk).trans (h.kp.block k hk hB)⟩
  · rw [hgrow.block X (by simp; omega) (row_not_obj h.row (by rw [h.fx, e1]) e2), Below.heap_alloc W tmp X hX]
    exact h.fx
set_option maxRecDepth 100000 in
set_option maxHeartbeats 4000000 in
theorem words_any (B : Nat) (a b c d : Int) (n : Nat) (w : World) (hn : n ≤ 1000) (hS : IsSrc B w) :
    Calls Tryd.prog 31 #[.pointer (some ⟨B, 0, none⟩), .agg #[.int .i64 a, .int .i64 b, .int .i64 c, .int .i64 d], .int .i64 (n : Int)] w fun e w' => ∃ s, e = .returned (.string s) ∧ s.size ≤ n ∧ IsSrc B w' ∧ Keep B w w' := by
  have hlt := hS.lt
  obtain ⟨i0, hi, hz0, hz1, hz2⟩ := info_parts info5
  have HS : Hid (IsSrc B w) := hS
  clear hS
  go_enter Tryd.func31, Tryd.ntmps31
  go_wp2
  go_loopw [2, 7] (fun i v wr => ∃ (k : Nat) (xs : List Int), i = .int .i64 (k : Int) ∧ k + xs.length = n ∧ WI B w.heap.size (.cells #[.int .i64 a, .int .i64 b, .int .i64 c, .int .i64 d] 71) w wr v xs) (fun i _ _ => (intOf i).toNat)
  case atStart =>
    refine ⟨n, [], rfl, by simp, HS.out.below (((Below.refl _ _).alloc (by omega) _).alloc (by simp; omega) _), ((Keep.refl _ _).alloc _).alloc _, ?_, (Below.heap_alloc _ _ _ (by simp)).trans (World.alloc_heap_new w _), Nat.le_refl _, hlt, ⟨_, _, rfl, by decide⟩⟩
    have := World.ownsRow_made (base := w.heap.size) (e := 5) (size := 1) (w.alloc (.cells #[.int .i64 a, .int .i64 b, .int .i64 c, .int .i64 d] 71)) #[] 0 (by simp) (by unfold maxLen; omega) (by simp)
    simpa using this
  case round =>
    obtain ⟨k, xs, rfl, hk, hW⟩ := hrel
    have hmx : xs.length + 1 ≤ maxLen := by unfold maxLen; omega
    have f1 := hW.fx
    have c0 : wr.cell? ⟨w.heap.size, 0, none⟩ = some (.int .i64 a) := by simp [World.cell?, f1]
    clear f1
    rcases Nat.eq_zero_or_pos k with rfl | hk0
    · have hcv := conv_row hW.row
      have HW : Hid (WI B w.heap.size (.cells #[.int .i64 a, .int .i64 b, .int .i64 c, .int .i64 d] 71) w wr u7 xs) := hW
      clear hW
      go_wp2
      go_ret
      exact ⟨_, rfl, by rw [strOfNums_size]; omega, HW.out.src, HW.out.kp⟩
    · have hk1 : 0 < (k : Int) := by omega
      go_wp2_with fail
      refine (n_any B 6 _ (by omega) (by omega) hW.src).mono ?_
      rintro e w2 ⟨q, rfl, q0, q1, hs2, hk2⟩
      have hCq := hW.keep hk2 hs2
      clear hs2 hk2 hW
      have hq : q = 0 ∨ q = 1 ∨ q = 2 ∨ q = 3 ∨ q = 4 ∨ q = 5 := by omega
      clear q0 q1
      have f2 := hCq.fx
      have c0 : w2.cell? ⟨w.heap.size, 0, none⟩ = some (.int .i64 a) := by simp [World.cell?, f2]
      have c1 : w2.cell? ⟨w.heap.size, 1, none⟩ = some (.int .i64 b) := by simp [World.cell?, f2]
      have c2 : w2.cell? ⟨w.heap.size, 2, none⟩ = some (.int .i64 c) := by simp [World.cell?, f2]
      have c3 : w2.cell? ⟨w.heap.size, 3, none⟩ = some (.int .i64 d) := by simp [World.cell?, f2]
      have tok1 : True := trivial
      clear f2
      rcases hq with rfl | rfl | rfl | rfl | hq
      · go_wp2_with (at_builtin; have _t := tok1; refine wpList_append_own _ rfl _ _ 22 rfl w.heap.size 5 i0 (.int .u8 0) 1 1 Tryd.underlying22 hi hz0 hz1 hz2 rfl (by decide) _ _ _ rfl (hCq.row.alloc _) ⟨_, 0, none⟩ 1 1 [.int .u8 (a % 256)] rfl rfl (cell_one_at _ _ _ _ (by simp)) (by simp [Value.oneCell']) hmx (by omega) (by have h9 := hCq.kp.size; first | (simp; omega) | (simp at h9 ⊢; omega)) ?_; intro u' w4 hown' hgrow _; have hC4 := hCq.app hown' hgrow; clear tok1 hown' hgrow)
        go_roundw
        case rel => exact ⟨k - 1, xs ++ [a % 256], by go_num, by simp; omega, hC4⟩
        case measure => simp [intOf]; omega
      · go_wp2_with (at_builtin; have _t := tok1; refine wpList_append_own _ rfl _ _ 22 rfl w.heap.size 5 i0 (.int .u8 0) 1 1 Tryd.underlying22 hi hz0 hz1 hz2 rfl (by decide) _ _ _ rfl (hCq.row.alloc _) ⟨_, 0, none⟩ 1 1 [.int .u8 (b % 256)] rfl rfl (cell_one_at _ _ _ _ (by simp)) (by simp [Value.oneCell']) hmx (by omega) (by have h9 := hCq.kp.size; first | (simp; omega) | (simp at h9 ⊢; omega)) ?_; intro u' w4 hown' hgrow _; have hC4 := hCq.app hown' hgrow; clear tok1 hown' hgrow)
        go_roundw
        case rel => exact ⟨k - 1, xs ++ [b % 256], by go_num, by simp; omega, hC4⟩
        case measure => simp [intOf]; omega
      · go_wp2_with (at_builtin; have _t := tok1; refine wpList_append_own _ rfl _ _ 22 rfl w.heap.size 5 i0 (.int .u8 0) 1 1 Tryd.underlying22 hi hz0 hz1 hz2 rfl (by decide) _ _ _ rfl (hCq.row.alloc _) ⟨_, 0, none⟩ 1 1 [.int .u8 (c % 256)] rfl rfl (cell_one_at _ _ _ _ (by simp)) (by simp [Value.oneCell']) hmx (by omega) (by have h9 := hCq.kp.size; first | (simp; omega) | (simp at h9 ⊢; omega)) ?_; intro u' w4 hown' hgrow _; have hC4 := hCq.app hown' hgrow; clear tok1 hown' hgrow)
        go_roundw
        case rel => exact ⟨k - 1, xs ++ [c % 256], by go_num, by simp; omega, hC4⟩
        case measure => simp [intOf]; omega
      · go_wp2_with (at_builtin; have _t := tok1; refine wpList_append_own _ rfl _ _ 22 rfl w.heap.size 5 i0 (.int .u8 0) 1 1 Tryd.underlying22 hi hz0 hz1 hz2 rfl (by decide) _ _ _ rfl (hCq.row.alloc _) ⟨_, 0, none⟩ 1 1 [.int .u8 (d % 256)] rfl rfl (cell_one_at _ _ _ _ (by simp)) (by simp [Value.oneCell']) hmx (by omega) (by have h9 := hCq.kp.size; first | (simp; omega) | (simp at h9 ⊢; omega)) ?_; intro u' w4 hown' hgrow _; have hC4 := hCq.app hown' hgrow; clear tok1 hown' hgrow)
        go_roundw
        case rel => exact ⟨k - 1, xs ++ [d % 256], by go_num, by simp; omega, hC4⟩
        case measure => simp [intOf]; omega
      · have hne : q ≠ 0 ∧ q ≠ 1 ∧ q ≠ 2 ∧ q ≠ 3 := by omega
        clear c0 c1 c2 c3
        obtain ⟨hne0, hne1, hne2, hne3⟩ := hne
        have g0 : (q == 0) = false := by simpa using hne0
        have g1 : (q == 1) = false := by simpa using hne1
        have g2 : (q == 2) = false := by simpa using hne2
        have g3 : (q == 3) = false := by simpa using hne3
        clear hq hne0 hne1 hne2 hne3
        go_wp2_with fail
        refine (n_any B 6 _ (by omega) (by omega) hCq.src).mono ?_
        rintro e w3 ⟨p, rfl, p0, p1, hs3, hk3⟩
        have hCp := hCq.keep hk3 hs3
        clear hs3 hk3 hCq
        have hp : p = 0 ∨ p = 1 ∨ p = 2 ∨ p = 3 ∨ p = 4 ∨ p = 5 := by omega
        clear p0 p1
        rcases hp with rfl | rfl | rfl | rfl | rfl | rfl
        · go_wp2_with (at_builtin; have _t := tok1; refine wpList_append_own _ rfl _ _ 22 rfl w.heap.size 5 i0 (.int .u8 0) 1 1 Tryd.underlying22 hi hz0 hz1 hz2 rfl (by decide) _ _ _ rfl (hCp.row.alloc _) ⟨_, 0, none⟩ 1 1 [.int .u8 (65)] rfl rfl (cell_one_at _ _ _ _ (by simp)) (by simp [Value.oneCell']) hmx (by omega) (by have h9 := hCp.kp.size; first | (simp; omega) | (simp at h9 ⊢; omega)) ?_; intro u' w4 hown' hgrow _; have hC4 := hCp.app hown' hgrow; clear tok1 hown' hgrow)
          go_roundw
          case rel => exact ⟨k - 1, xs ++ [65], by go_num, by simp; omega, hC4⟩
          case measure => simp [intOf]; omega
        · go_wp2_with (at_builtin; have _t := tok1; refine wpList_append_own _ rfl _ _ 22 rfl w.heap.size 5 i0 (.int .u8 0) 1 1 Tryd.underlying22 hi hz0 hz1 hz2 rfl (by decide) _ _ _ rfl (hCp.row.alloc _) ⟨_, 0, none⟩ 1 1 [.int .u8 (66)] rfl rfl (cell_one_at _ _ _ _ (by simp)) (by simp [Value.oneCell']) hmx (by omega) (by have h9 := hCp.kp.size; first | (simp; omega) | (simp at h9 ⊢; omega)) ?_; intro u' w4 hown' hgrow _; have hC4 := hCp.app hown' hgrow; clear tok1 hown' hgrow)
          go_roundw
          case rel => exact ⟨k - 1, xs ++ [66], by go_num, by simp; omega, hC4⟩
          case measure => simp [intOf]; omega
        · go_wp2_with (at_builtin; have _t := tok1; refine wpList_append_own _ rfl _ _ 22 rfl w.heap.size 5 i0 (.int .u8 0) 1 1 Tryd.underlying22 hi hz0 hz1 hz2 rfl (by decide) _ _ _ rfl (hCp.row.alloc _) ⟨_, 0, none⟩ 1 1 [.int .u8 (99)] rfl rfl (cell_one_at _ _ _ _ (by simp)) (by simp [Value.oneCell']) hmx (by omega) (by have h9 := hCp.kp.size; first | (simp; omega) | (simp at h9 ⊢; omega)) ?_; intro u' w4 hown' hgrow _; have hC4 := hCp.app hown' hgrow; clear tok1 hown' hgrow)
          go_roundw
          case rel => exact ⟨k - 1, xs ++ [99], by go_num, by simp; omega, hC4⟩
          case measure => simp [intOf]; omega
        · go_wp2_with (at_builtin; have _t := tok1; refine wpList_append_own _ rfl _ _ 22 rfl w.heap.size 5 i0 (.int .u8 0) 1 1 Tryd.underlying22 hi hz0 hz1 hz2 rfl (by decide) _ _ _ rfl (hCp.row.alloc _) ⟨_, 0, none⟩ 1 1 [.int .u8 (32)] rfl rfl (cell_one_at _ _ _ _ (by simp)) (by simp [Value.oneCell']) hmx (by omega) (by have h9 := hCp.kp.size; first | (simp; omega) | (simp at h9 ⊢; omega)) ?_; intro u' w4 hown' hgrow _; have hC4 := hCp.app hown' hgrow; clear tok1 hown' hgrow)
          go_roundw
          case rel => exact ⟨k - 1, xs ++ [32], by go_num, by simp; omega, hC4⟩
          case measure => simp [intOf]; omega
        · go_wp2_with (at_builtin; have _t := tok1; refine wpList_append_own _ rfl _ _ 22 rfl w.heap.size 5 i0 (.int .u8 0) 1 1 Tryd.underlying22 hi hz0 hz1 hz2 rfl (by decide) _ _ _ rfl (hCp.row.alloc _) ⟨_, 0, none⟩ 1 1 [.int .u8 (49)] rfl rfl (cell_one_at _ _ _ _ (by simp)) (by simp [Value.oneCell']) hmx (by omega) (by have h9 := hCp.kp.size; first | (simp; omega) | (simp at h9 ⊢; omega)) ?_; intro u' w4 hown' hgrow _; have hC4 := hCp.app hown' hgrow; clear tok1 hown' hgrow)
          go_roundw
          case rel => exact ⟨k - 1, xs ++ [49], by go_num, by simp; omega, hC4⟩
          case measure => simp [intOf]; omega
        · go_wp2_with (at_builtin; have _t := tok1; refine wpList_append_own _ rfl _ _ 22 rfl w.heap.size 5 i0 (.int .u8 0) 1 1 Tryd.underlying22 hi hz0 hz1 hz2 rfl (by decide) _ _ _ rfl (hCp.row.alloc _) ⟨_, 0, none⟩ 1 1 [.int .u8 (45)] rfl rfl (cell_one_at _ _ _ _ (by simp)) (by simp [Value.oneCell']) hmx (by omega) (by have h9 := hCp.kp.size; first | (simp; omega) | (simp at h9 ⊢; omega)) ?_; intro u' w4 hown' hgrow _; have hC4 := hCp.app hown' hgrow; clear tok1 hown' hgrow)
          go_roundw
          case rel => exact ⟨k - 1, xs ++ [45], by go_num, by simp; omega, hC4⟩
          case measure => simp [intOf]; omega
end Go.Proofs.YtphgheojfnlgjaaDoor
namespace Go.Proofs.YtphgheojfnlgjaaDoor
end Go.Proofs.YtphgheojfnlgjaaDoor
