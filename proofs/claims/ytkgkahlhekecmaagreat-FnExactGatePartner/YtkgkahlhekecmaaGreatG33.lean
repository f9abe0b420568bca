/- Texts of ours put together: ItI, IsC, ItW. -/
import Derived.Test.YtkgkahlhekecmaaGreatG32
import Derived.Shelf.RegionOpen
import Derived.Deep.QuietTactic
import Derived.BigQuiet
import Derived.BigRegion
import Derived.Test.YtkgkahlhekecmaaGreatG28
import Derived.Test.YtkgkahlhekecmaaGreatG00
namespace Go.Proofs.YtkgkahlhekecmaaGreat
open Go.ChangeShapes Go.WideShapes Go.ChangeAt Go.RowKit
open Go.Lib (compareBytes)
theorem fl_twoC (w : World) (a b : Obj) : ((w.alloc a).alloc b).heap[w.heap.size]? = some a ∧ ((w.alloc a).alloc b).heap[w.heap.size + 1]? = some b := by
  have e : ((w.alloc a).alloc b).heap = (w.heap.push a).push b := rfl
  rw [e]
  simp only [Array.getElem?_push, Array.size_push]
  refine ⟨?_, ?_⟩
  · rw [if_neg (by omega), if_pos trivial]
  · rw [if_pos trivial]
theorem cell_newC (W : World) (c : Array Value) (t i : Nat) (x : Value) (h : c[i]? = some x) : (W.alloc (.cells c t)).cell? ⟨W.heap.size, i, none⟩ = some x := by
  have e := World.alloc_heap_new W (.cells c t)
  unfold World.cell?
  rw [e]
  exact h
set_option maxRecDepth 100000 in
theorem compareString_anyC (a b : ByteArray) (w : World) : Calls Tryz.prog 149 #[.string a, .string b] w fun e w' => e = .returned (.int .i64 (compareBytes a.data.toList b.data.toList)) ∧ w' = w := by
  go_enter Tryz.func149, Tryz.ntmps149
  go_wp2
  rw [run_callFunc_extern Tryz.func165 (by kernel_rfl) (by kernel_rfl) (by kernel_rfl) (e := Extern.BytealgCompare.compare) (by kernel_rfl), Lib.run_compareString]
  simp only [Result.andThen]
  rw [Oper.upon_value]
  go_wp2
  go_ret
  exact ⟨rfl, rfl⟩
theorem compare_anyC (a b : ByteArray) (w : World) : Calls Tryz.prog 115 #[.string a, .string b] w fun e w' => e = .returned (.int .i64 (compareBytes a.data.toList b.data.toList)) ∧ w' = w := by
  go_enter Tryz.func115, Tryz.ntmps115
  go_wp2_with (go_at_call 149; refine (compareString_anyC _ _ _).mono ?_; rintro e w' ⟨rfl, rfl⟩)
  go_ret
  exact ⟨rfl, rfl⟩
def orZC (x y : Int) : Int := if x = 0 then y else x
set_option maxHeartbeats 1000000 in
/-- cmp.Or of two numbers. -/
theorem or_any (x y : Int) (B : Nat) (w : World) (h0 : w.cell? ⟨B, 0, none⟩ = some (.int .i64 x)) (h1 : w.cell? ⟨B, 1, none⟩ = some (.int .i64 y)) :
    Calls Tryz.prog 136 #[.slice (some ⟨B, 0, none⟩) 2 2] w fun e w' => e = .returned (.int .i64 (orZC x y)) ∧ w' = w := by
  unfold orZC
  go_enter Tryz.func136, Tryz.ntmps136
  go_wp2
  by_cases hx : x = 0
  · by_cases hy : y = 0
    · subst hx hy
      go_loopw [8] (fun i wr => ∃ k : Nat, i = .int .i64 (k : Int) ∧ k ≤ 2 ∧ wr = w) (fun i _ => 2 - (intOf i).toNat)
      case atStart => exact ⟨0, rfl, by omega, rfl⟩
      case round =>
        obtain ⟨k, rfl, hk, rfl⟩ := hrel
        obtain rfl | rfl | rfl : k = 0 ∨ k = 1 ∨ k = 2 := by omega
        · go_wp2
          go_roundw
          case rel => exact ⟨1, by go_num, by omega, trivial⟩
          case measure => simp [intOf]
        · go_wp2
          go_roundw
          case rel => exact ⟨2, by go_num, by omega, trivial⟩
          case measure => simp [intOf]
        · go_wp2
          go_ret
          exact ⟨rfl, rfl⟩
    · subst hx
      go_loopw [8] (fun i wr => ∃ k : Nat, i = .int .i64 (k : Int) ∧ k ≤ 1 ∧ wr = w) (fun i _ => 2 - (intOf i).toNat)
      case atStart => exact ⟨0, rfl, by omega, rfl⟩
      case round =>
        obtain ⟨k, rfl, hk, rfl⟩ := hrel
        obtain rfl | rfl : k = 0 ∨ k = 1 := by omega
        · go_wp2
          go_roundw
          case rel => exact ⟨1, by go_num, by omega, trivial⟩
          case measure => simp [intOf]
        · go_wp2
          go_ret
          exact ⟨rfl, rfl⟩
  · go_loopw [8] (fun i wr => i = .int .i64 0 ∧ wr = w) (fun i _ => 2 - (intOf i).toNat)
    case atStart => exact ⟨rfl, rfl⟩
    case round =>
      obtain ⟨rfl, rfl⟩ := hrel
      go_wp2
      go_ret
      exact ⟨rfl, rfl⟩
set_option maxHeartbeats 1000000 in
theorem theirKey_any (c : Crs) (w : World) : Calls Tryz.prog 129 #[.agg #[.string c.partner, .string c.theirs, .string c.own]] w fun e w' => e = .returned (.agg #[.string c.partner, .string c.theirs]) ∧ Below w.heap.size w w' := by
  obtain ⟨partner, theirs, own⟩ := c
  dsimp only
  go_enter Tryz.func129, Tryz.ntmps129
  go_wp2
  exact bodyPost_ret (v := .agg #[.string partner, .string theirs]) (by simp [results, Tryz.results129, go_sem]) rfl ⟨rfl, ((Below.refl _ _).alloc (Nat.le_refl _) _).alloc (by simp) _⟩
set_option maxHeartbeats 1000000 in
theorem ownKey_any (c : Crs) (w : World) : Calls Tryz.prog 130 #[.agg #[.string c.partner, .string c.theirs, .string c.own]] w fun e w' => e = .returned (.agg #[.string c.partner, .string c.own]) ∧ Below w.heap.size w w' := by
  obtain ⟨partner, theirs, own⟩ := c
  dsimp only
  go_enter Tryz.func130, Tryz.ntmps130
  go_wp2
  exact bodyPost_ret (v := .agg #[.string partner, .string own]) (by simp [results, Tryz.results130, go_sem]) rfl ⟨rfl, ((Below.refl _ _).alloc (Nat.le_refl _) _).alloc (by simp) _⟩
set_option maxHeartbeats 2000000 in
/-- itemKey's compare. -/
theorem kcmp_grows (a b : ByteArray × ByteArray) (w : World) : Calls Tryz.prog 132 #[.agg #[.string a.1, .string a.2], .agg #[.string b.1, .string b.2]] w fun e w' => e = .returned (.int .i64 (kcmp a b)) ∧ ∃ o1 o2 o3, w' = (((w.alloc o1).alloc o2).alloc o3).drew := by
  obtain ⟨a1, a2⟩ := a
  obtain ⟨b1, b2⟩ := b
  dsimp only
  obtain ⟨W0, hW0⟩ : ∃ W0, ((w.alloc (.cells #[.string a1, .string a2] 180)).alloc (.cells #[.string b1, .string b2] 180)) = W0 := ⟨_, rfl⟩
  have HW : Hid (∃ o1 o2, W0 = (w.alloc o1).alloc o2) := ⟨_, _, hW0.symm⟩
  have hB : W0.heap.size = w.heap.size + 2 := by rw [← hW0]; simp
  go_enter Tryz.func132, Tryz.ntmps132
  go_upto_region 1 with fail
  try rw [hW0]
  obtain ⟨k0, k1⟩ := fl_twoC w (.cells #[.string a1, .string a2] 180) (.cells #[.string b1, .string b2] 180)
  rw [hW0] at k0 k1
  have z0 : W0.cell? ⟨w.heap.size, 0, none⟩ = some (.string a1) := by simp [World.cell?, k0]
  have z1 : W0.cell? ⟨w.heap.size, 1, none⟩ = some (.string a2) := by simp [World.cell?, k0]
  have z2 : W0.cell? ⟨w.heap.size + 1, 0, none⟩ = some (.string b1) := by simp [World.cell?, k1]
  have z3 : W0.cell? ⟨w.heap.size + 1, 1, none⟩ = some (.string b2) := by simp [World.cell?, k1]
  clear k0 k1
  clear hW0
  have HN : Hid (∀ x y : Int, (W0.alloc (.cells #[.int .i64 x, .int .i64 y] 3)).drew.cell? ⟨w.heap.size + 2, 0, none⟩ = some (.int .i64 x) ∧ (W0.alloc (.cells #[.int .i64 x, .int .i64 y] 3)).drew.cell? ⟨w.heap.size + 2, 1, none⟩ = some (.int .i64 y)) := fun x y => by
    rw [← hB]
    exact ⟨cell_newC W0 _ _ 0 _ rfl, cell_newC W0 _ _ 1 _ rfl⟩
  go_region_held3 (fun W => W.cell? ⟨w.heap.size, 0, none⟩ = some (.string a1) ∧ W.cell? ⟨w.heap.size, 1, none⟩ = some (.string a2) ∧ W.cell? ⟨w.heap.size + 1, 0, none⟩ = some (.string b1) ∧ W.cell? ⟨w.heap.size + 1, 1, none⟩ = some (.string b2)) (go_keep) (first | (go_at_call 115; refine (compare_anyC _ _ _).mono ?_; rintro e w2 ⟨rfl, rfl⟩) | (go_at_call 136; refine (or_any _ _ _ _ (HN.out _ _).1 (HN.out _ _).2).mono ?_; rintro e w3 ⟨rfl, rfl⟩))
  rename_i hHeld
  clear hHeld
  go_wp2
  go_ret
  obtain ⟨o1, o2, e⟩ := HW.out
  exact ⟨rfl, o1, o2, _, by rw [e]⟩
theorem kcmp_any (a b : ByteArray × ByteArray) (w : World) : Calls Tryz.prog 132 #[.agg #[.string a.1, .string a.2], .agg #[.string b.1, .string b.2]] w fun e w' => e = .returned (.int .i64 (kcmp a b)) ∧ Below w.heap.size w w' :=
  (kcmp_grows a b w).mono fun _ _ ⟨he, o1, o2, o3, hw⟩ => ⟨he, by rw [hw]; exact ((((Below.refl _ _).alloc (Nat.le_refl _) _).alloc (by simp) _).alloc (by simp; omega) _).drew⟩
end Go.Proofs.YtkgkahlhekecmaaGreat
namespace Go.Proofs.YtkgkahlhekecmaaGreat
open Go.ChangeShapes Go.WideShapes Go.ChangeAt Go.RowKit
set_option maxHeartbeats 1000000 in
theorem isCross_any (c : Crs) (w : World) : Calls Tryz.prog 131 #[.agg #[.string c.partner, .string c.theirs, .string c.own]] w fun e w' => e = .returned (.bool (crsB c)) ∧ Below w.heap.size w w' := by
  obtain ⟨partner, theirs, own⟩ := c
  unfold crsB
  dsimp only
  have HB : Hid (Below w.heap.size w (w.alloc (.cells #[.string partner, .string theirs, .string own] 106))) := (Below.refl _ _).alloc (Nat.le_refl _) _
  go_enter Tryz.func131, Tryz.ntmps131
  go_wp2_with fail
  refine (isName_any partner _).mono ?_
  rintro e w2 ⟨rfl, rfl⟩
  cases h1 : nameB partner
  · go_wp2
    go_ret
    exact ⟨by rw [h1]; rfl, HB.out⟩
  go_wp2_with fail
  refine (isName_any theirs _).mono ?_
  rintro e w2 ⟨rfl, rfl⟩
  cases h2 : nameB theirs
  · go_wp2
    go_ret
    exact ⟨by rw [h1, h2]; rfl, HB.out⟩
  go_wp2_with fail
  refine (isName_any own _).mono ?_
  rintro e w2 ⟨rfl, rfl⟩
  cases h3 : nameB own
  · go_wp2
    go_ret
    exact ⟨by rw [h1, h2, h3]; rfl, HB.out⟩
  · go_wp2
    go_ret
    exact ⟨by rw [h1, h2, h3]; rfl, HB.out⟩
end Go.Proofs.YtkgkahlhekecmaaGreat
namespace Go.Proofs.YtkgkahlhekecmaaGreat
open Go.ChangeShapes Go.WideShapes Go.ChangeAt Go.RowKit
/-- All but the blocks B and b as it lay. -/
structure KeepM (B b : Nat) (w w' : World) : Prop where
  os : w'.os = w.os
  tape : w'.tape = w.tape
  output : w'.output = w.output
  size : w.heap.size ≤ w'.heap.size
  block : ∀ k, k < w.heap.size → k ≠ B → k ≠ b → w'.heap[k]? = w.heap[k]?
theorem KeepM.below {B b N : Nat} {w w' : World} (h : KeepM B b w w') (h1 : N ≤ B) (h2 : N ≤ b) (h3 : N ≤ w.heap.size) : Below N w w' :=
  ⟨h.os, h.tape, h.output, h.size, fun k hk => h.block k (by omega) (by omega) (by omega)⟩
/-- The boxes of put, and the two maps. -/
structure QP (w W : World) (b1 b2 : Nat) (c : Crs) (l1 l2 : List Crs) : Prop where
  keep : KeepM b1 b2 w W
  wb : W.heap[w.heap.size]? = some (.cells #[.map (some b1), .map (some b2)] 155)
  cb : W.heap[w.heap.size + 1]? = some (.cells #[.string c.partner, .string c.theirs, .string c.own] 106)
  m1 : MC W b1 thK l1
  m2 : MC W b2 owK l2
  lt1 : b1 < w.heap.size
  lt2 : b2 < w.heap.size
  ne : b1 ≠ b2
theorem QP.below {w W W' : World} {b1 b2 : Nat} {c : Crs} {l1 l2 : List Crs} (h : QP w W b1 b2 c l1 l2) (hb : Below W.heap.size W W') : QP w W' b1 b2 c l1 l2 :=
  ⟨⟨hb.os.trans h.keep.os, hb.tape.trans h.keep.tape, hb.output.trans h.keep.output, Nat.le_trans h.keep.size hb.size, fun k hk x y => (hb.block k (Nat.lt_of_lt_of_le hk h.keep.size)).trans (h.keep.block k hk x y)⟩, (hb.block _ (Array.getElem?_eq_some_iff.1 h.wb).1).trans h.wb, (hb.block _ (Array.getElem?_eq_some_iff.1 h.cb).1).trans h.cb, h.m1.below hb, h.m2.below hb, h.lt1, h.lt2, h.ne⟩
theorem QP.cells {w W : World} {b1 b2 : Nat} {c : Crs} {l1 l2 : List Crs} (h : QP w W b1 b2 c l1 l2) : W.cell? ⟨w.heap.size, 0, none⟩ = some (.map (some b1)) ∧ W.cell? ⟨w.heap.size, 1, none⟩ = some (.map (some b2)) ∧ W.cell? ⟨w.heap.size + 1, 0, none⟩ = some (.string c.partner) ∧ W.cell? ⟨w.heap.size + 1, 1, none⟩ = some (.string c.theirs) ∧ W.cell? ⟨w.heap.size + 1, 2, none⟩ = some (.string c.own) := by
  have h1 := h.wb
  have h2 := h.cb
  refine ⟨?_, ?_, ?_, ?_, ?_⟩ <;> simp [World.cell?, h1, h2]
theorem QP.grow {w W W' : World} {b1 b2 b : Nat} {c : Crs} {l1 l2 l1' l2' : List Crs} (h : QP w W b1 b2 c l1 l2) (hg : W.grownBy W' (some b)) (hb : b = b1 ∨ b = b2) (m1 : MC W' b1 thK l1') (m2 : MC W' b2 owK l2') : QP w W' b1 b2 c l1' l2' := by
  have hs := h.keep.size
  have h1 := h.lt1
  have h2 := h.lt2
  refine ⟨⟨hg.os.trans h.keep.os, hg.tape.trans h.keep.tape, hg.output.trans h.keep.output, Nat.le_trans hs hg.size, fun k hk x y => (hg.block k (by omega) ?_).trans (h.keep.block k hk x y)⟩, (hg.block _ (Array.getElem?_eq_some_iff.1 h.wb).1 ?_).trans h.wb, (hg.block _ (Array.getElem?_eq_some_iff.1 h.cb).1 ?_).trans h.cb, m1, m2, h1, h2, h.ne⟩
  all_goals simp only [ne_eq, Option.some.injEq]
  all_goals omega
theorem QP.put1 {w W : World} {b1 b2 : Nat} {c : Crs} {l1 l2 : List Crs} (h : QP w W b1 b2 c l1 l2) (hk : KS (thK c)) : ∃ W', (Instr.mapUpdate 153 (.map (some b1)) (.agg #[.string c.partner, .string c.theirs]) (.agg #[.string c.partner, .string c.theirs, .string c.own])).run Tryz.prog W = .ok () W' ∧ QP w W' b1 b2 c (putC thK c l1) l2 := by
  obtain ⟨W', h1, h2, h3⟩ := h.m1.put c hk
  exact ⟨W', h1, h.grow h3 (.inl rfl) h2 (h.m2.of_block (h3.block b2 h.m2.lt (by simp only [ne_eq, Option.some.injEq]; exact fun e => h.ne e.symm)))⟩
theorem QP.put2 {w W : World} {b1 b2 : Nat} {c : Crs} {l1 l2 : List Crs} (h : QP w W b1 b2 c l1 l2) (hk : KS (owK c)) : ∃ W', (Instr.mapUpdate 153 (.map (some b2)) (.agg #[.string c.partner, .string c.own]) (.agg #[.string c.partner, .string c.theirs, .string c.own])).run Tryz.prog W = .ok () W' ∧ QP w W' b1 b2 c l1 (putC owK c l2) := by
  obtain ⟨W', h1, h2, h3⟩ := h.m2.put c hk
  exact ⟨W', h1, h.grow h3 (.inr rfl) (h.m1.of_block (h3.block b1 h.m1.lt (by simp only [ne_eq, Option.some.injEq]; exact h.ne))) h2⟩
set_option maxHeartbeats 4000000 in
theorem put_any (b1 b2 : Nat) (c : Crs) (l1 l2 : List Crs) (w : World) (h1 : MC w b1 thK l1) (h2 : MC w b2 owK l2) (hne : b1 ≠ b2) (k1 : KS (thK c)) (k2 : KS (owK c)) :
    Calls Tryz.prog 133 #[.agg #[.map (some b1), .map (some b2)], .agg #[.string c.partner, .string c.theirs, .string c.own]] w fun e w' => e = .returned (.tuple #[]) ∧ MC w' b1 thK (putC thK c l1) ∧ MC w' b2 owK (putC owK c l2) ∧ KeepM b1 b2 w w' := by
  obtain ⟨W0, hW0⟩ : ∃ W0, ((w.alloc (.cells #[.map (some b1), .map (some b2)] 155)).alloc (.cells #[.string c.partner, .string c.theirs, .string c.own] 106)) = W0 := ⟨_, rfl⟩
  have hb0 : Below w.heap.size w W0 := by rw [← hW0]; exact ((Below.refl _ _).alloc (Nat.le_refl _) _).alloc (by simp) _
  obtain ⟨e0, e1⟩ := fl_twoC w (.cells #[.map (some b1), .map (some b2)] 155) (.cells #[.string c.partner, .string c.theirs, .string c.own] 106)
  rw [hW0] at e0 e1
  have q0 : QP w W0 b1 b2 c l1 l2 := ⟨⟨hb0.os, hb0.tape, hb0.output, hb0.size, fun k hk _ _ => hb0.block k hk⟩, e0, e1, h1.below hb0, h2.below hb0, h1.lt, h2.lt, hne⟩
  have HK : Hid (KS (thK c) ∧ KS (owK c)) := ⟨k1, k2⟩
  clear hb0 e0 e1 h1 h2 hne k1 k2
  go_enter Tryz.func133, Tryz.ntmps133
  go_upto_region 1 with fail
  try rw [hW0]
  clear hW0
  obtain ⟨z0, z1, z2, z3, z4⟩ := q0.cells
  have Q0 : Hid (QP w W0 b1 b2 c l1 l2) := q0
  clear q0
  go_region_held3 (fun W => W.cell? ⟨w.heap.size, 0, none⟩ = some (.map (some b1)) ∧ W.cell? ⟨w.heap.size + 1, 0, none⟩ = some (.string c.partner) ∧ W.cell? ⟨w.heap.size + 1, 1, none⟩ = some (.string c.theirs) ∧ W.cell? ⟨w.heap.size + 1, 2, none⟩ = some (.string c.own)) (go_keep) (first | (go_at_call 129; refine (theirKey_any c _).mono ?_; rintro e w2 ⟨rfl, hb2⟩; have q2 := (Q0.out.below (Below.refl _ _).drew).below hb2; clear hb2; obtain ⟨y0, y1, y2, y3, y4⟩ := q2.cells; obtain ⟨w3, hrun3, q3⟩ := q2.put1 HK.out.1; obtain ⟨x0, x1, x2, x3, x4⟩ := q3.cells; have Q3 : Hid (QP w w3 b1 b2 c (putC thK c l1) l2) := q3; clear q3 q2))
  rename_i hHeld
  clear hHeld z0 z1 z2 z3 z4 y0 y1 y2 y3 y4 hrun3
  go_upto_region 2 with fail
  go_region_held3 (fun W => W.cell? ⟨w.heap.size, 1, none⟩ = some (.map (some b2)) ∧ W.cell? ⟨w.heap.size + 1, 0, none⟩ = some (.string c.partner) ∧ W.cell? ⟨w.heap.size + 1, 1, none⟩ = some (.string c.theirs) ∧ W.cell? ⟨w.heap.size + 1, 2, none⟩ = some (.string c.own)) (go_keep) (first | (go_at_call 130; refine (ownKey_any c _).mono ?_; rintro e w4 ⟨rfl, hb4⟩; have q4 := (Q3.out.below (Below.refl _ _).drew).below hb4; clear hb4; obtain ⟨y0, y1, y2, y3, y4⟩ := q4.cells; obtain ⟨w5, hrun5, q5⟩ := q4.put2 HK.out.2; obtain ⟨v0, v1, v2, v3, v4⟩ := q5.cells; have Q5 : Hid (QP w w5 b1 b2 c (putC thK c l1) (putC owK c l2)) := q5; clear q5 q4))
  rename_i hHeld
  clear hHeld
  go_wp2
  go_end0
  exact ⟨rfl, Q5.out.m1, Q5.out.m2, Q5.out.keep⟩
end Go.Proofs.YtkgkahlhekecmaaGreat
