/- Texts of ours put together: PbS, MarkT, ToS, MwA. -/
import Derived.Test.YtcdebinldmblkaaGreatDoorG08
import Derived.Test.YtcdebinldmblkaaGreatDoorG45
import Derived.Test.YtcdebinldmblkaaGreatDoorG31
import Derived.Test.YtcdebinldmblkaaGreatDoorRows
import Derived.Test.YtcdebinldmblkaaGreatDoorG00
import Derived.WalkKit
import Derived.ProofKit
import Derived.OpenShut
import Derived.ShutString
import Derived.ChangeOld
import Derived.Below
import Derived.WalkLawsBesides
import Derived.WalkSpells
import Derived.Deep.Light
import Derived.Handy
import Derived.Laws.BytesArg
import Derived.Test.YtcdebinldmblkaaGreatDoorG01
import Derived.Test.YtcdebinldmblkaaGreatDoorG04
import Derived.Deep.OwnRows
namespace Go.Proofs.YtcdebinldmblkaaGreatDoor
open Go.ChangeShapes Go.WideShapes Go.ChangeAt Go.RowKit
set_option maxHeartbeats 4000000 in
theorem paperBody_spec (p : Pap) (un ul : Value) (w : World) (hI : PapI p) (hP : PapR w un ul p) (hB : BdP 1048576 p) :
    Calls Tryz.prog 5 #[.agg #[.int .i64 p.kind, .string p.ref, .string p.other, .int .i64 p.day, un, ul]] w fun e w' => ∃ u ps, e = .returned u ∧ OwnL w.heap.size w' u ps (pbG p) ∧ Below w.heap.size w w' := by
  obtain ⟨An, Cn, rfl⟩ := hP.ns.val
  obtain ⟨Al, Cl, rfl⟩ := hP.ls.val
  obtain ⟨W0, hW0⟩ : ∃ W0, w.alloc (.cells #[.int .i64 p.kind, .string p.ref, .string p.other, .int .i64 p.day, (.slice An p.notes.length Cn), (.slice Al p.lines.length Cl)] 31) = W0 := ⟨_, rfl⟩
  have hb0 : Below w.heap.size w W0 := by rw [← hW0]; exact (Below.refl _ _).alloc (Nat.le_refl _) _
  have k0 : W0.heap[w.heap.size]? = some (.cells #[.int .i64 p.kind, .string p.ref, .string p.other, .int .i64 p.day, (.slice An p.notes.length Cn), (.slice Al p.lines.length Cl)] 31) := by rw [← hW0]; exact World.alloc_heap_new _ _
  have H0 : Hid (Below w.heap.size w W0 ∧ PapR W0 (.slice An p.notes.length Cn) (.slice Al p.lines.length Cl) p ∧ W0.heap[w.heap.size]? = some (.cells #[.int .i64 p.kind, .string p.ref, .string p.other, .int .i64 p.day, (.slice An p.notes.length Cn), (.slice Al p.lines.length Cl)] 31)) := ⟨hb0, hP.below hb0, k0⟩
  have HI : Hid (PapI p ∧ BdP 1048576 p) := ⟨hI, hB⟩
  skip
  obtain ⟨y, hy⟩ : ∃ y, y = papB p := ⟨_, rfl⟩
  have HY : Hid (y = papB p) := hy
  have Q := paperRight_spec p (.slice An p.notes.length Cn) (.slice Al p.lines.length Cl) W0 hI (hP.below hb0) hB
  rw [← hy] at Q
  clear hP hb0 k0 hI hB hy
  go_enter Tryz.func5, Tryz.ntmps5
  go_upto_region 1 with fail
  try rw [hW0]
  clear hW0
  obtain ⟨x0, x1, x2, x3, x4, x5⟩ := pbox H0.out.2.2
  go_wp2_with fail
  refine Q.mono ?_
  rintro e w1 ⟨rfl, hb1⟩
  have H1 : Hid (Below W0.heap.size W0 w1 ∧ w1.heap[w.heap.size]? = some (.cells #[.int .i64 p.kind, .string p.ref, .string p.other, .int .i64 p.day, (.slice An p.notes.length Cn), (.slice Al p.lines.length Cl)] 31)) := ⟨hb1, (hb1.block _ (Array.getElem?_eq_some_iff.1 H0.out.2.2).1).trans H0.out.2.2⟩
  clear hb1 Q x0 x1 x2 x3 x4 x5
  cases y with
  | false =>
    have HN : Hid (pbG p = []) := by show _ = _; unfold pbG; rw [← HY.out]; rfl
    have HB : Hid (Below w.heap.size w w1) := H0.out.1.trans (H1.out.1.mono H0.out.1.size)
    go_wp2
    go_ret
    refine ⟨_, [], rfl, ?_, HB.out.alloc HB.out.size _⟩
    rw [HN.out]
    exact ⟨rfl, ⟨rfl, .inr ⟨_, 0, #[], rfl, HB.out.size, World.alloc_heap_new _ _, Nat.le_refl _, Nat.zero_le _, rfl, rfl⟩⟩, fun i p g h => by simp at h, fun i j p q _ h => by simp at h⟩
  | true =>
    have HN : Hid (pbG p = bodyW wordsS p) := by
      show _ = _
      unfold pbG
      rw [← HY.out]
      exact (body_eq (note3I (papB_ok HY.out.symm).sm)).symm
    have hkd := (papB_ok HY.out.symm).kd
    obtain ⟨x0, x1, x2, x3, x4, x5⟩ := pbox H1.out.2
    go_wp2_with fail
    refine (l05Body_any p _ _ _ HI.out.1 (H0.out.2.1.below H1.out.1) HI.out.2).mono ?_
    rintro e w2 ⟨u, ps, rfl, hO, hb2⟩
    have HE : Hid (OwnL w.heap.size w2 u ps (pbG p) ∧ Below w.heap.size w w2) := by
      have hb := H0.out.1.trans (H1.out.1.mono H0.out.1.size)
      rw [HN.out]
      exact ⟨hO.mono hb.size, hb.trans (hb2.mono hb.size)⟩
    clear hO hb2 hkd x0 x1 x2 x3 x4 x5
    go_wp2
    go_ret
    exact ⟨u, ps, rfl, HE.out⟩
end Go.Proofs.YtcdebinldmblkaaGreatDoor
namespace Go.Proofs.YtcdebinldmblkaaGreatDoor
open Go.ChangeShapes Go.WideShapes Go.ChangeAt Go.RowKit
/-- The digits of a number ahead of a text. -/
def digs : Nat → Nat → ByteArray → ByteArray
  | 0, _, acc => acc
  | f + 1, k, acc => if k = 0 then acc else digs f (k / 10) (strOfNums [48 + ((k % 10 : Nat) : Int)] ++ acc)
theorem digs_zero (f : Nat) (acc : ByteArray) : digs f 0 acc = acc := by cases f <;> simp [digs]
def mt (k : Nat) : ByteArray := ⟨#[109]⟩ ++ digs 6 k ⟨#[]⟩
set_option maxHeartbeats 1000000 in
theorem markText_any (k0 : Nat) (w : World) (h0 : 0 < k0) (h1 : k0 ≤ 99999) :
    Calls Tryz.prog 26 #[.int .i64 k0] w fun e w' => e = .returned (.string (mt k0)) ∧ Below w.heap.size w w' := by
  have h0' : (0 : Int) < (k0 : Int) := by omega
  have h1' : (k0 : Int) ≤ 99999 := by omega
  have hz0 : decide (k0 = 0) = false := by simp; omega
  go_enter Tryz.func26, Tryz.ntmps26
  go_wp2
  go_loopw [0, 3] (fun kv o wr => ∃ (f j : Nat) (acc : ByteArray), kv = .int .i64 j ∧ o = .string acc ∧ j < 10 ^ f ∧ j ≤ 99999 ∧ acc.size + f ≤ 6 ∧ digs f j acc = digs 6 k0 ⟨#[]⟩ ∧ Below w.heap.size w wr) (fun kv _ _ => (intOf kv).toNat)
  case atStart => exact ⟨6, k0, ⟨#[]⟩, rfl, rfl, by omega, h1, by decide, rfl, Below.refl _ _⟩
  case round =>
    obtain ⟨f, j, acc, rfl, rfl, hj, hj2, hac, hd, hb⟩ := hrel
    have H : Hid (j < 10 ^ f ∧ digs f j acc = digs 6 k0 ⟨#[]⟩ ∧ Below w.heap.size w wr) := ⟨hj, hd, hb⟩
    have hwz := hb.size
    clear hj hd hb
    have hcv := conv1 wr
    by_cases hp : 0 < j
    · have hp' : (0 : Int) < (j : Int) := by omega
      have hsn : (strOfNums [48 + (j : Int) % 10]).size = 1 := by rw [strOfNums_size]; rfl
      go_wp2
      obtain ⟨f, rfl⟩ : ∃ f', f = f' + 1 := by
        cases f with
        | zero =>
          have := H.out.1
          simp at this
          omega
        | succ f => exact ⟨f, rfl⟩
      have hd := H.out.2.1
      unfold digs at hd
      rw [if_neg (by omega)] at hd
      have hlt : j / 10 < 10 ^ f := by
        have := H.out.1
        rw [Nat.pow_succ] at this
        omega
      go_roundw
      case rel => exact ⟨f, j / 10, strOfNums [48 + ((j % 10 : Nat) : Int)] ++ acc, by simp, by simp, hlt, by omega, by rw [ByteArray.size_append, strOfNums_size]; simp; omega, hd, H.out.2.2.alloc hwz _⟩
      case measure => simp [intOf]; omega
    · obtain rfl : j = 0 := by omega
      have hacc : acc.size ≤ 6 := by omega
      have hd := H.out.2.1
      rw [digs_zero] at hd
      have HD : Hid (acc = digs 6 k0 ⟨#[]⟩) := hd
      clear hd
      go_wp2
      go_ret
      exact ⟨by unfold mt; rw [← HD.out]; rfl, H.out.2.2⟩
end Go.Proofs.YtcdebinldmblkaaGreatDoor
namespace Go.Proofs.YtcdebinldmblkaaGreatDoor
open Go.ChangeShapes Go.WideShapes Go.ChangeAt Go.RowKit
theorem infoS : (Tryz.prog.info? 9).map (fun i => (i.zero, i.size, i.bytes)) = some (some (.string ⟨#[]⟩), 1, 16) := by kernel_rfl
/-- A list of texts in a block of its own, not below B. -/
def OwnS (B : Nat) (W : World) (v : Value) (ss : List ByteArray) : Prop := ∃ b, B ≤ b ∧ v = .slice (some ⟨b, 0, none⟩) ss.length ss.length ∧ W.rowIs b 9 ss.length (fun i => .string (ss[i]?.getD ⟨#[]⟩))
theorem OwnS.below {B : Nat} {W W' : World} {v : Value} {ss : List ByteArray} (h : OwnS B W v ss) (hb : Below W.heap.size W W') : OwnS B W' v ss := by
  obtain ⟨b, h1, h2, h3⟩ := h
  exact ⟨b, h1, h2, h3.of_block (hb.block b h3.lt)⟩
theorem OwnS.set {B : Nat} {W : World} {v : Value} {ss : List ByteArray} (h : OwnS (B + 1) W v ss) (i : Nat) (x : Value) : OwnS (B + 1) (W.setCell ⟨B, i, none⟩ x) v ss := by
  obtain ⟨b, h1, h2, h3⟩ := h
  exact ⟨b, h1, h2, h3.setOther (show b ≠ B by omega) x⟩
theorem OwnS.mono {B C : Nat} {W : World} {v : Value} {ss : List ByteArray} (h : OwnS B W v ss) (hC : C ≤ B) : OwnS C W v ss := by
  obtain ⟨b, h1, h2, h3⟩ := h
  exact ⟨b, by omega, h2, h3⟩
theorem OwnS.row {B : Nat} {W : World} {v : Value} {ss : List ByteArray} (h : OwnS B W v ss) (hl : ss.length ≤ 9223372036854775807) (hs : ∀ (i : Nat) (s : ByteArray), ss[i]? = some s → s.size ≤ 9223372036854775807) : RowS W v ss := by
  obtain ⟨b, h1, h2, h3⟩ := h
  refine ⟨⟨_, _, h2, fun _ => ⟨b, 0, rfl, fun i s hi => ?_⟩⟩, hl, hs⟩
  have := h3.cell (List.getElem?_eq_some_iff.1 hi).1
  rw [hi, Option.getD_some] at this
  rwa [Nat.zero_add]
set_option maxHeartbeats 1000000 in
theorem toS_any (v : Value) (ss : List ByteArray) (w : World) (h : RowS w v ss) (hn : ss.length ≤ 1048576) :
    Calls Tryz.prog 17 #[v] w fun e w' => ∃ v', e = .returned v' ∧ OwnS w.heap.size w' v' ss ∧ Below w.heap.size w w' := by
  have hlen := h.len
  obtain ⟨a, cap, rfl⟩ := h.val
  have H : Hid (RowS w (.slice a ss.length cap) ss) := h
  clear h
  have hmk := run_make_row' (P := Tryz.prog) 22 9 (.string ⟨#[]⟩) 16 Tryz.underlying22 infoS rfl .i64 .i64 ss.length (by omega) (by omega)
  go_enter Tryz.func17, Tryz.ntmps17
  go_wp2
  go_loopw [4] (fun i wr => ∃ k : Nat, i = .int .i64 (k : Int) ∧ k ≤ ss.length ∧ wr.rowIs w.heap.size 9 ss.length (fun j => if j < k then .string (ss[j]?.getD ⟨#[]⟩) else .string ⟨#[]⟩) ∧ Below w.heap.size w wr) (fun i _ => ss.length - (intOf i).toNat)
  case atStart => exact ⟨0, rfl, by omega, (World.rowIs_made w (.string ⟨#[]⟩) ss.length 9).congr (fun i _ => by simp), (Below.refl _ _).alloc (Nat.le_refl _) _⟩
  case round =>
    obtain ⟨k, rfl, hk, hR, hb⟩ := hrel
    by_cases hlt : k < ss.length
    · have hlt' : (k : Int) < (ss.length : Int) := by omega
      obtain ⟨b, o, cap', s, e, hs, hc, hsz⟩ := (H.out.below hb).at hlt
      simp only [Value.slice.injEq, true_and] at e
      obtain ⟨rfl, rfl⟩ := e
      have hfz := hR.frozen
      have hck := hR.cell hlt
      simp only [Nat.lt_irrefl, if_false] at hck
      have HS : Hid (ss[k]? = some s ∧ wr.rowIs w.heap.size 9 ss.length (fun j => if j < k then .string (ss[j]?.getD ⟨#[]⟩) else .string ⟨#[]⟩) ∧ Below w.heap.size w wr) := ⟨hs, hR, hb⟩
      clear hs hR hb
      go_wp2
      go_roundw
      case rel =>
        refine ⟨k + 1, by go_num, by omega, (HS.out.2.1.set k (.string s)).congr (fun j hj => ?_), HS.out.2.2.setCell (Nat.le_refl _) _⟩
        by_cases e : j = k
        · subst e
          rw [if_pos rfl, if_pos (by omega), HS.out.1, Option.getD_some]
        · rw [if_neg e]
          by_cases g : j < k
          · rw [if_pos g, if_pos (by omega)]
          · rw [if_neg g, if_neg (by omega)]
      case measure => simp [intOf]; omega
    · obtain rfl : k = ss.length := by omega
      have HS : Hid (wr.rowIs w.heap.size 9 ss.length (fun j => if j < ss.length then .string (ss[j]?.getD ⟨#[]⟩) else .string ⟨#[]⟩) ∧ Below w.heap.size w wr) := ⟨hR, hb⟩
      clear hR hb
      go_wp2
      go_ret
      exact ⟨_, rfl, ⟨w.heap.size, Nat.le_refl _, rfl, HS.out.1.congr (fun j hj => by rw [if_pos hj])⟩, HS.out.2⟩
theorem three (w : World) (o0 o1 o2 : Obj) : (((w.alloc o0).alloc o1).alloc o2).heap[w.heap.size]? = some o0 ∧ (((w.alloc o0).alloc o1).alloc o2).heap[w.heap.size + 1]? = some o1 ∧ (((w.alloc o0).alloc o1).alloc o2).heap[w.heap.size + 1 + 1]? = some o2 := by
  have e : (((w.alloc o0).alloc o1).alloc o2).heap = ((w.heap.push o0).push o1).push o2 := rfl
  rw [e]
  simp only [Array.getElem?_push, Array.size_push]
  refine ⟨?_, ?_, ?_⟩
  · rw [if_neg (by omega), if_neg (by omega), if_pos trivial]
  · rw [if_neg (by omega), if_pos trivial]
  · rw [if_pos trivial]
end Go.Proofs.YtcdebinldmblkaaGreatDoor
namespace Go.Proofs.YtcdebinldmblkaaGreatDoor
open Go.ChangeShapes Go.WideShapes Go.ChangeAt Go.RowKit
/-- Scalars of the blocks from lo to hi may have changed, nothing else. -/
structure Tame (lo hi : Nat) (W W' : World) : Prop where
  os : W'.os = W.os
  tape : W'.tape = W.tape
  output : W'.output = W.output
  size : W.heap.size ≤ W'.heap.size
  block : ∀ k, k < W.heap.size → (k < lo ∨ hi ≤ k) → W'.heap[k]? = W.heap[k]?
  sl : ∀ b o a n c, W.cell? ⟨b, o, none⟩ = some (.slice a n c) → W'.cell? ⟨b, o, none⟩ = some (.slice a n c)
  st : ∀ b o t, W.cell? ⟨b, o, none⟩ = some (.string t) → ∃ t', W'.cell? ⟨b, o, none⟩ = some (.string t')
  nu : ∀ b o z, W.cell? ⟨b, o, none⟩ = some (.int .i64 z) → ∃ z', W'.cell? ⟨b, o, none⟩ = some (.int .i64 z')
  fz : ∀ b o, b < W.heap.size → W.frozen? ⟨b, o, none⟩ = false → W'.frozen? ⟨b, o, none⟩ = false
theorem Tame.refl (lo hi : Nat) (W : World) : Tame lo hi W W := ⟨rfl, rfl, rfl, Nat.le_refl _, fun _ _ _ => rfl, fun _ _ _ _ _ h => h, fun _ _ t h => ⟨t, h⟩, fun _ _ z h => ⟨z, h⟩, fun _ _ _ h => h⟩
theorem Tame.trans {lo hi : Nat} {a b c : World} (h : Tame lo hi a b) (k : Tame lo hi b c) : Tame lo hi a c :=
  ⟨k.os.trans h.os, k.tape.trans h.tape, k.output.trans h.output, Nat.le_trans h.size k.size, fun i hi' hz => (k.block i (Nat.lt_of_lt_of_le hi' h.size) hz).trans (h.block i hi' hz),
    fun b o a n c e => k.sl _ _ _ _ _ (h.sl b o a n c e), fun b o t e => by obtain ⟨t', e'⟩ := h.st b o t e; exact k.st _ _ _ e', fun b o z e => by obtain ⟨z', e'⟩ := h.nu b o z e; exact k.nu _ _ _ e',
    fun b o hb e => k.fz b o (Nat.lt_of_lt_of_le hb h.size) (h.fz b o hb e)⟩
theorem Tame.of_below {lo hi : Nat} {W W' : World} (h : Below W.heap.size W W') : Tame lo hi W W' :=
  ⟨h.os, h.tape, h.output, h.size, fun k hk _ => h.block k hk, fun b o _ _ _ e => (h.cell (p := ⟨b, o, none⟩) (cell_lt e)).trans e, fun b o t e => ⟨t, (h.cell (p := ⟨b, o, none⟩) (cell_lt e)).trans e⟩,
    fun b o z e => ⟨z, (h.cell (p := ⟨b, o, none⟩) (cell_lt e)).trans e⟩, fun b o hb e => (h.frozen (p := ⟨b, o, none⟩) hb).trans e⟩
theorem setAt_cases (W : World) (b o b' o' : Nat) (x u : Value) (hx : W.cell? ⟨b, o, none⟩ = some u) : (b' = b ∧ o' = o ∧ (W.setCell ⟨b, o, none⟩ x).cell? ⟨b', o', none⟩ = some x) ∨ ((W.setCell ⟨b, o, none⟩ x).cell? ⟨b', o', none⟩ = W.cell? ⟨b', o', none⟩ ∧ ¬ (b' = b ∧ o' = o)) := by
  by_cases e : b' = b ∧ o' = o
  · obtain ⟨rfl, rfl⟩ := e
    exact .inl ⟨rfl, rfl, World.cell?_setCell_same' _ _ _ (by rw [hx]; rfl)⟩
  · exact .inr ⟨World.cell?_setCell_other _ _ _ _ (by simp <;> omega), e⟩
theorem Tame.setS {lo hi b o : Nat} {W : World} {t : ByteArray} (h1 : lo ≤ b) (h2 : b < hi) (hc : W.cell? ⟨b, o, none⟩ = some (.string t)) (t' : ByteArray) : Tame lo hi W (W.setCell ⟨b, o, none⟩ (.string t')) := by
  refine ⟨rfl, rfl, rfl, by simp [World.setCell], fun k _ hk => Below.heap_setCell W ⟨b, o, none⟩ _ k (show k ≠ b by omega), fun b' o' a n c e => ?_, fun b' o' s e => ?_, fun b' o' z e => ?_, fun b' o' _ e => by rw [World.frozen?_setCell]; exact e⟩
  · rcases setAt_cases W b o b' o' (.string t') _ hc with ⟨rfl, rfl, _⟩ | ⟨q, _⟩
    · rw [hc] at e; cases e
    · rw [q]; exact e
  · rcases setAt_cases W b o b' o' (.string t') _ hc with ⟨_, _, q⟩ | ⟨q, _⟩
    · exact ⟨_, q⟩
    · exact ⟨s, q.trans e⟩
  · rcases setAt_cases W b o b' o' (.string t') _ hc with ⟨rfl, rfl, _⟩ | ⟨q, _⟩
    · rw [hc] at e; cases e
    · exact ⟨z, q.trans e⟩
theorem Tame.setI {lo hi b o : Nat} {W : World} {z : Int} (h1 : lo ≤ b) (h2 : b < hi) (hc : W.cell? ⟨b, o, none⟩ = some (.int .i64 z)) (z' : Int) : Tame lo hi W (W.setCell ⟨b, o, none⟩ (.int .i64 z')) := by
  refine ⟨rfl, rfl, rfl, by simp [World.setCell], fun k _ hk => Below.heap_setCell W ⟨b, o, none⟩ _ k (show k ≠ b by omega), fun b' o' a n c e => ?_, fun b' o' s e => ?_, fun b' o' y e => ?_, fun b' o' _ e => by rw [World.frozen?_setCell]; exact e⟩
  · rcases setAt_cases W b o b' o' (.int .i64 z') _ hc with ⟨rfl, rfl, _⟩ | ⟨q, _⟩
    · rw [hc] at e; cases e
    · rw [q]; exact e
  · rcases setAt_cases W b o b' o' (.int .i64 z') _ hc with ⟨rfl, rfl, _⟩ | ⟨q, _⟩
    · rw [hc] at e; cases e
    · exact ⟨s, q.trans e⟩
  · rcases setAt_cases W b o b' o' (.int .i64 z') _ hc with ⟨_, _, q⟩ | ⟨q, _⟩
    · exact ⟨_, q⟩
    · exact ⟨y, q.trans e⟩
/-- Rows whose scalars may be written, in blocks from lo to hi. -/
def ShS (lo hi : Nat) (W : World) (v : Value) (n : Nat) : Prop := ∃ A C, v = .slice A n C ∧ (0 < n → ∃ b, A = some ⟨b, 0, none⟩ ∧ lo ≤ b ∧ b < hi ∧ (∀ o, W.frozen? ⟨b, o, none⟩ = false) ∧ ∀ i, i < n → ∃ t, W.cell? ⟨b, i, none⟩ = some (.string t))
theorem ShS.tame {lo hi n : Nat} {W W' : World} {v : Value} (h : ShS lo hi W v n) (k : Tame lo hi W W') : ShS lo hi W' v n := by
  obtain ⟨A, C, e, h⟩ := h
  refine ⟨A, C, e, fun h0 => ?_⟩
  obtain ⟨b, e1, h1, h2, h3, h4⟩ := h h0
  obtain ⟨t, ht⟩ := h4 0 h0
  exact ⟨b, e1, h1, h2, fun o => k.fz b o (cell_lt ht) (h3 o), fun i hi' => by obtain ⟨t, ht⟩ := h4 i hi'; exact k.st _ _ _ ht⟩
theorem OwnS.sh {B : Nat} {W : World} {v : Value} {ss : List ByteArray} (h : OwnS B W v ss) {lo hi : Nat} (hlo : lo ≤ B) (hhi : W.heap.size ≤ hi) : ShS lo hi W v ss.length := by
  obtain ⟨b, h1, h2, h3⟩ := h
  have := h3.lt
  exact ⟨_, _, h2, fun _ => ⟨b, rfl, by omega, by omega, h3.frozen, fun i hi' => ⟨_, h3.cell hi'⟩⟩⟩
set_option maxHeartbeats 1000000 in
/-- markText at any number. -/
theorem markText_w (k0 : Nat) (w : World) (h0 : 0 < k0) (h1 : k0 < 1099511627776) :
    Calls Tryz.prog 26 #[.int .i64 k0] w fun e w' => ∃ t, e = .returned (.string t) ∧ Below w.heap.size w w' := by
  have h0' : (0 : Int) < (k0 : Int) := by omega
  have h1' : (k0 : Int) < 1099511627776 := by omega
  have hz0 : decide (k0 = 0) = false := by simp; omega
  go_enter Tryz.func26, Tryz.ntmps26
  go_wp2
  go_loopw [0, 3] (fun kv o wr => ∃ (f j : Nat) (acc : ByteArray), kv = .int .i64 j ∧ o = .string acc ∧ j < 2 ^ f ∧ j < 1099511627776 ∧ acc.size + f ≤ 40 ∧ Below w.heap.size w wr) (fun kv _ _ => (intOf kv).toNat)
  case atStart => exact ⟨40, k0, ⟨#[]⟩, rfl, rfl, h1, h1, by decide, Below.refl _ _⟩
  case round =>
    obtain ⟨f, j, acc, rfl, rfl, hj, hj2, hac, hb⟩ := hrel
    have H : Hid (j < 2 ^ f ∧ Below w.heap.size w wr) := ⟨hj, hb⟩
    have hwz := hb.size
    clear hj hb
    have hcv := conv1 wr
    by_cases hp : 0 < j
    · have hp' : (0 : Int) < (j : Int) := by omega
      have hsn : (strOfNums [48 + (j : Int) % 10]).size = 1 := by rw [strOfNums_size]; rfl
      go_wp2
      obtain ⟨f, rfl⟩ : ∃ f', f = f' + 1 := by
        cases f with
        | zero =>
          have := H.out.1
          simp at this
          omega
        | succ f => exact ⟨f, rfl⟩
      have hlt : j / 10 < 2 ^ f := by
        have := H.out.1
        rw [Nat.pow_succ] at this
        omega
      go_roundw
      case rel => exact ⟨f, j / 10, strOfNums [48 + ((j % 10 : Nat) : Int)] ++ acc, by simp, by simp, hlt, by omega, by rw [ByteArray.size_append, strOfNums_size]; simp; omega, H.out.2.alloc hwz _⟩
      case measure => simp [intOf]; omega
    · obtain rfl : j = 0 := by omega
      have hacc : acc.size ≤ 40 := by omega
      go_wp2
      go_ret
      exact ⟨_, rfl, H.out.2⟩
set_option maxHeartbeats 1000000 in
theorem markS_w (v : Value) (n lo hi k0 : Nat) (w : World) (h : ShS lo hi w v n) (hk0 : 0 < k0) (hk1 : k0 + n < 1099511627776) :
    Calls Tryz.prog 24 #[v, .int .i64 k0] w fun e w' => e = .returned (.int .i64 ((k0 + n : Nat) : Int)) ∧ Tame lo hi w w' := by
  obtain ⟨A, C, rfl, h⟩ := h
  have HT : Hid (ShS lo hi w (.slice A n C) n) := ⟨A, C, rfl, h⟩
  clear h
  go_enter Tryz.func24, Tryz.ntmps24
  go_wp2
  go_loopw [1, 5] (fun kv i wr => ∃ k : Nat, k ≤ n ∧ i = .int .i64 k ∧ kv = .int .i64 ((k0 + k : Nat) : Int) ∧ Tame lo hi w wr) (fun _ i _ => n - (intOf i).toNat)
  case atStart => exact ⟨0, Nat.zero_le _, rfl, by simp, Tame.refl _ _ _⟩
  case round =>
    obtain ⟨k, hk, rfl, rfl, hT⟩ := hrel
    have HK : Hid (Tame lo hi w wr) := hT
    clear hT
    by_cases hlt : k < n
    · have hlt' : (k : Int) < (n : Int) := by omega
      obtain ⟨A', C', ee, hh⟩ := HT.out
      simp only [Value.slice.injEq, true_and] at ee
      obtain ⟨rfl, rfl⟩ := ee
      obtain ⟨b, rfl, hlo, hhi, _⟩ := hh (by omega)
      clear hh
      go_wp2_with fail
      refine (markText_w (k0 + k) _ (by omega) (by omega)).mono ?_
      rintro e w3 ⟨t3, rfl, hb3⟩
      have hT3 := HK.out.trans (Tame.of_below (lo := lo) (hi := hi) hb3)
      obtain ⟨A', C', ee, hh⟩ := HT.out.tame hT3
      simp only [Value.slice.injEq, true_and] at ee
      obtain ⟨rfl, rfl⟩ := ee
      obtain ⟨b', eb, _, _, zu, hc⟩ := hh (by omega)
      simp only [Option.some.injEq, Addr.mk.injEq, and_true] at eb
      subst eb
      obtain ⟨t, ku⟩ := hc k hlt
      have HM : Hid (Tame lo hi w (w3.setCell ⟨b, k, none⟩ (.string t3))) := hT3.trans (Tame.setS hlo hhi ku t3)
      clear hh hc hT3 hb3 HK
      go_wp2
      go_roundw
      case rel => exact ⟨k + 1, by omega, by go_num, by first | go_num | (congr 1; omega), HM.out⟩
      case measure => simp [intOf]; omega
    · have hge : (n : Int) ≤ (k : Int) := by omega
      obtain rfl : k = n := by omega
      go_wp2
      go_ret
      exact ⟨rfl, HK.out⟩
end Go.Proofs.YtcdebinldmblkaaGreatDoor
