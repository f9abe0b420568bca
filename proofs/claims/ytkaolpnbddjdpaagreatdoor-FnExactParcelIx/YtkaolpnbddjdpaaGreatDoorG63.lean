/- Texts of ours put together: MwA, MkLn, MkPc, EqRow (what the other groups do not tell). -/
import Derived.WalkKit
import Derived.Below
import Derived.WalkSmall
import Derived.RangeFuncRecord
import Derived.ProofKit
import Derived.OpenShut
import Derived.ShutString
import Derived.ChangeOld
import Derived.WalkLawsBesides
import Derived.WalkSpells
import Derived.Deep.Light
import Derived.Handy
import Derived.Deep.QuietTactic
import Derived.BigQuiet
import Derived.BigRegion
import Derived.Deep.OwnRows
import Derived.Laws.OwnMore
import Derived.Lib.ParseIntB
import Derived.Lib.ItoaNum
import Derived.Lib.Strings
import Derived.Shelf.LaysM
import Derived.Shelf.Strconv.ParseIntPublic10
import Derived.Shelf.Strings.Prefix
import Derived.Lib.AtoiErrMem
import Derived.Laws.BytesArg
import Derived.Lib.Bytealg
import Derived.Lib.SlTrimSet
import Derived.Stop.Joined
import Derived.MakeChecks
import Derived.LaidLaws
import Derived.Lib.SmallJoins
import Derived.Shelf.Slices.Clone
import Derived.Lib.AppendIntMem
import Derived.Deep.RegionHeld3
import Derived.Deep.RegionLaw
import Derived.Deep.AppendLies
import Derived.RangeFuncBox
import Derived.Shelf.Strconv.Clone
import Derived.Shelf.Strconv.Itoa4
import Derived.Lib.LaidTab
import Derived.Shelf.Strings.Count
import Derived.Deep.DeepMust
import Derived.Deep.Cut
import Derived.Deep.CutRange
import Derived.Laws.AppendOwn
import Derived.Maps.AppendAt
import Derived.Shelf.Strings.SlTrimAscii
import Derived.Shelf.Strings.Search2
import Derived.Laws.StructEq
import Derived.Deep.CutBlock
import Derived.Deep.SlicePairs
import Derived.Deep.Slices
import Derived.SliceStrings
import Derived.Stop.LaidErr
import Derived.OpenVars
import Derived.LaidMore
import Derived.SevenTiedAt
import Derived.Lay
import Derived.Test.YtkaolpnbddjdpaaGreatDoorG00
import Derived.Test.YtkaolpnbddjdpaaGreatDoorG01
import Derived.Test.YtkaolpnbddjdpaaGreatDoorG02
import Derived.Test.YtkaolpnbddjdpaaGreatDoorG03
import Derived.Test.YtkaolpnbddjdpaaGreatDoorG04
import Derived.Test.YtkaolpnbddjdpaaGreatDoorG05
import Derived.Test.YtkaolpnbddjdpaaGreatDoorG06
import Derived.Test.YtkaolpnbddjdpaaGreatDoorG07
import Derived.Test.YtkaolpnbddjdpaaGreatDoorG08
import Derived.Test.YtkaolpnbddjdpaaGreatDoorG09
import Derived.Test.YtkaolpnbddjdpaaGreatDoorG10
import Derived.Test.YtkaolpnbddjdpaaGreatDoorG11
import Derived.Test.YtkaolpnbddjdpaaGreatDoorG12
import Derived.Test.YtkaolpnbddjdpaaGreatDoorG13
import Derived.Test.YtkaolpnbddjdpaaGreatDoorG14
import Derived.Test.YtkaolpnbddjdpaaGreatDoorG15
import Derived.Test.YtkaolpnbddjdpaaGreatDoorG16
import Derived.Test.YtkaolpnbddjdpaaGreatDoorG17
import Derived.Test.YtkaolpnbddjdpaaGreatDoorG18
import Derived.Test.YtkaolpnbddjdpaaGreatDoorG19
import Derived.Test.YtkaolpnbddjdpaaGreatDoorG20
import Derived.Test.YtkaolpnbddjdpaaGreatDoorG21
import Derived.Test.YtkaolpnbddjdpaaGreatDoorG22
import Derived.Test.YtkaolpnbddjdpaaGreatDoorG23
import Derived.Test.YtkaolpnbddjdpaaGreatDoorG24
import Derived.Test.YtkaolpnbddjdpaaGreatDoorG25
import Derived.Test.YtkaolpnbddjdpaaGreatDoorG26
import Derived.Test.YtkaolpnbddjdpaaGreatDoorG27
import Derived.Test.YtkaolpnbddjdpaaGreatDoorG28
import Derived.Test.YtkaolpnbddjdpaaGreatDoorG29
import Derived.Test.YtkaolpnbddjdpaaGreatDoorG30
import Derived.Test.YtkaolpnbddjdpaaGreatDoorG31
import Derived.Test.YtkaolpnbddjdpaaGreatDoorG32
import Derived.Test.YtkaolpnbddjdpaaGreatDoorG51
import Derived.Test.YtkaolpnbddjdpaaGreatDoorG33
import Derived.Test.YtkaolpnbddjdpaaGreatDoorG34
import Derived.Test.YtkaolpnbddjdpaaGreatDoorG35
import Derived.Test.YtkaolpnbddjdpaaGreatDoorG36
import Derived.Test.YtkaolpnbddjdpaaGreatDoorG37
import Derived.Test.YtkaolpnbddjdpaaGreatDoorG60
import Derived.Test.YtkaolpnbddjdpaaGreatDoorG61
import Derived.Test.YtkaolpnbddjdpaaGreatDoorG62
namespace Go.Proofs.YtkaolpnbddjdpaaGreatDoor
open Go.ChangeShapes Go.WideShapes Go.ChangeAt Go.RowKit
/-- Scalars of the blocks from lo to hi may have changed, nothing else. -/
structure Tame (lo hi : Nat) (W W' : World) : Prop where
  os : W'.os = W.os
  tape : W'.tape = W.tape
  output : W'.output = W.output
  size : W.heap.size ≤ W'.heap.size
  block : ∀ k, k < W.heap.size → (k < lo ∨ hi ≤ k) → W'.heap[k]? = W.heap[k]?
  sl : ∀ b o a n c, W.cell? ⟨b, o, none⟩ = some (.slice a n c) → W'.cell? ⟨b, o, none⟩ = some (.slice a n c)
  st : ∀ b o t, W.cell? ⟨b, o, none⟩ = some (.string t) → ∃ t', W'.cell? ⟨b, o, none⟩ = some (.string t')
  nu : ∀ b o z, W.cell? ⟨b, o, none⟩ = some (.int .i64 z) → ∃ z', W'.cell? ⟨b, o, none⟩ = some (.int .i64 z')
  fz : ∀ b o, b < W.heap.size → W.frozen? ⟨b, o, none⟩ = false → W'.frozen? ⟨b, o, none⟩ = false
theorem Tame.refl (lo hi : Nat) (W : World) : Tame lo hi W W := ⟨rfl, rfl, rfl, Nat.le_refl _, fun _ _ _ => rfl, fun _ _ _ _ _ h => h, fun _ _ t h => ⟨t, h⟩, fun _ _ z h => ⟨z, h⟩, fun _ _ _ h => h⟩
theorem Tame.trans {lo hi : Nat} {a b c : World} (h : Tame lo hi a b) (k : Tame lo hi b c) : Tame lo hi a c :=
  ⟨k.os.trans h.os, k.tape.trans h.tape, k.output.trans h.output, Nat.le_trans h.size k.size, fun i hi' hz => (k.block i (Nat.lt_of_lt_of_le hi' h.size) hz).trans (h.block i hi' hz),
    fun b o a n c e => k.sl _ _ _ _ _ (h.sl b o a n c e), fun b o t e => by obtain ⟨t', e'⟩ := h.st b o t e; exact k.st _ _ _ e', fun b o z e => by obtain ⟨z', e'⟩ := h.nu b o z e; exact k.nu _ _ _ e',
    fun b o hb e => k.fz b o (Nat.lt_of_lt_of_le hb h.size) (h.fz b o hb e)⟩
theorem Tame.of_below {lo hi : Nat} {W W' : World} (h : Below W.heap.size W W') : Tame lo hi W W' :=
  ⟨h.os, h.tape, h.output, h.size, fun k hk _ => h.block k hk, fun b o _ _ _ e => (h.cell (p := ⟨b, o, none⟩) (cell_lt e)).trans e, fun b o t e => ⟨t, (h.cell (p := ⟨b, o, none⟩) (cell_lt e)).trans e⟩,
    fun b o z e => ⟨z, (h.cell (p := ⟨b, o, none⟩) (cell_lt e)).trans e⟩, fun b o hb e => (h.frozen (p := ⟨b, o, none⟩) hb).trans e⟩
theorem setAt_cases (W : World) (b o b' o' : Nat) (x u : Value) (hx : W.cell? ⟨b, o, none⟩ = some u) : (b' = b ∧ o' = o ∧ (W.setCell ⟨b, o, none⟩ x).cell? ⟨b', o', none⟩ = some x) ∨ ((W.setCell ⟨b, o, none⟩ x).cell? ⟨b', o', none⟩ = W.cell? ⟨b', o', none⟩ ∧ ¬ (b' = b ∧ o' = o)) := by
  by_cases e : b' = b ∧ o' = o
  · obtain ⟨rfl, rfl⟩ := e
    exact .inl ⟨rfl, rfl, World.cell?_setCell_same' _ _ _ (by rw [hx]; rfl)⟩
  · exact .inr ⟨World.cell?_setCell_other _ _ _ _ (by simp <;> omega), e⟩
theorem Tame.setS {lo hi b o : Nat} {W : World} {t : ByteArray} (h1 : lo ≤ b) (h2 : b < hi) (hc : W.cell? ⟨b, o, none⟩ = some (.string t)) (t' : ByteArray) : Tame lo hi W (W.setCell ⟨b, o, none⟩ (.string t')) := by
  refine ⟨rfl, rfl, rfl, by simp [World.setCell], fun k _ hk => Below.heap_setCell W ⟨b, o, none⟩ _ k (show k ≠ b by omega), fun b' o' a n c e => ?_, fun b' o' s e => ?_, fun b' o' z e => ?_, fun b' o' _ e => by rw [World.frozen?_setCell]; exact e⟩
  · rcases setAt_cases W b o b' o' (.string t') _ hc with ⟨rfl, rfl, _⟩ | ⟨q, _⟩
    · rw [hc] at e; cases e
    · rw [q]; exact e
  · rcases setAt_cases W b o b' o' (.string t') _ hc with ⟨_, _, q⟩ | ⟨q, _⟩
    · exact ⟨_, q⟩
    · exact ⟨s, q.trans e⟩
  · rcases setAt_cases W b o b' o' (.string t') _ hc with ⟨rfl, rfl, _⟩ | ⟨q, _⟩
    · rw [hc] at e; cases e
    · exact ⟨z, q.trans e⟩
theorem Tame.setI {lo hi b o : Nat} {W : World} {z : Int} (h1 : lo ≤ b) (h2 : b < hi) (hc : W.cell? ⟨b, o, none⟩ = some (.int .i64 z)) (z' : Int) : Tame lo hi W (W.setCell ⟨b, o, none⟩ (.int .i64 z')) := by
  refine ⟨rfl, rfl, rfl, by simp [World.setCell], fun k _ hk => Below.heap_setCell W ⟨b, o, none⟩ _ k (show k ≠ b by omega), fun b' o' a n c e => ?_, fun b' o' s e => ?_, fun b' o' y e => ?_, fun b' o' _ e => by rw [World.frozen?_setCell]; exact e⟩
  · rcases setAt_cases W b o b' o' (.int .i64 z') _ hc with ⟨rfl, rfl, _⟩ | ⟨q, _⟩
    · rw [hc] at e; cases e
    · rw [q]; exact e
  · rcases setAt_cases W b o b' o' (.int .i64 z') _ hc with ⟨rfl, rfl, _⟩ | ⟨q, _⟩
    · rw [hc] at e; cases e
    · exact ⟨s, q.trans e⟩
  · rcases setAt_cases W b o b' o' (.int .i64 z') _ hc with ⟨_, _, q⟩ | ⟨q, _⟩
    · exact ⟨_, q⟩
    · exact ⟨y, q.trans e⟩
/-- Rows whose scalars may be written, in blocks from lo to hi. -/
def ShS (lo hi : Nat) (W : World) (v : Value) (n : Nat) : Prop := ∃ A C, v = .slice A n C ∧ (0 < n → ∃ b, A = some ⟨b, 0, none⟩ ∧ lo ≤ b ∧ b < hi ∧ (∀ o, W.frozen? ⟨b, o, none⟩ = false) ∧ ∀ i, i < n → ∃ t, W.cell? ⟨b, i, none⟩ = some (.string t))
theorem ShS.tame {lo hi n : Nat} {W W' : World} {v : Value} (h : ShS lo hi W v n) (k : Tame lo hi W W') : ShS lo hi W' v n := by
  obtain ⟨A, C, e, h⟩ := h
  refine ⟨A, C, e, fun h0 => ?_⟩
  obtain ⟨b, e1, h1, h2, h3, h4⟩ := h h0
  obtain ⟨t, ht⟩ := h4 0 h0
  exact ⟨b, e1, h1, h2, fun o => k.fz b o (cell_lt ht) (h3 o), fun i hi' => by obtain ⟨t, ht⟩ := h4 i hi'; exact k.st _ _ _ ht⟩
theorem OwnS.sh {B : Nat} {W : World} {v : Value} {ss : List ByteArray} (h : OwnS B W v ss) {lo hi : Nat} (hlo : lo ≤ B) (hhi : W.heap.size ≤ hi) : ShS lo hi W v ss.length := by
  obtain ⟨b, h1, h2, h3⟩ := h
  have := h3.lt
  exact ⟨_, _, h2, fun _ => ⟨b, rfl, by omega, by omega, h3.frozen, fun i hi' => ⟨_, h3.cell hi'⟩⟩⟩
set_option maxHeartbeats 1000000 in
/-- markText at any number. -/
theorem markText_w (k0 : Nat) (w : World) (h0 : 0 < k0) (h1 : k0 < 1125899906842624) :
    Calls Tryz.prog 88 #[.int .i64 k0] w fun e w' => ∃ t, e = .returned (.string t) ∧ Below w.heap.size w w' := by
  have h0' : (0 : Int) < (k0 : Int) := by omega
  have h1' : (k0 : Int) < 1125899906842624 := by omega
  have hz0 : decide (k0 = 0) = false := by simp; omega
  go_enter Tryz.func88, Tryz.ntmps88
  go_wp2
  go_loopw [0, 3] (fun kv o wr => ∃ (f j : Nat) (acc : ByteArray), kv = .int .i64 j ∧ o = .string acc ∧ j < 2 ^ f ∧ j < 1125899906842624 ∧ acc.size + f ≤ 50 ∧ Below w.heap.size w wr) (fun kv _ _ => (intOf kv).toNat)
  case atStart => exact ⟨50, k0, ⟨#[]⟩, rfl, rfl, h1, h1, by decide, Below.refl _ _⟩
  case round =>
    obtain ⟨f, j, acc, rfl, rfl, hj, hj2, hac, hb⟩ := hrel
    have H : Hid (j < 2 ^ f ∧ Below w.heap.size w wr) := ⟨hj, hb⟩
    have hwz := hb.size
    clear hj hb
    have hcv := conv1 wr
    by_cases hp : 0 < j
    · have hp' : (0 : Int) < (j : Int) := by omega
      have hsn : (strOfNums [48 + (j : Int) % 10]).size = 1 := by rw [strOfNums_size]; rfl
      go_wp2
      obtain ⟨f, rfl⟩ : ∃ f', f = f' + 1 := by
        cases f with
        | zero =>
          have := H.out.1
          simp at this
          omega
        | succ f => exact ⟨f, rfl⟩
      have hlt : j / 10 < 2 ^ f := by
        have := H.out.1
        rw [Nat.pow_succ] at this
        omega
      go_roundw
      case rel => exact ⟨f, j / 10, strOfNums [48 + ((j % 10 : Nat) : Int)] ++ acc, by simp, by simp, hlt, by omega, by rw [ByteArray.size_append, strOfNums_size]; simp; omega, H.out.2.alloc hwz _⟩
      case measure => simp [intOf]; omega
    · obtain rfl : j = 0 := by omega
      have hacc : acc.size ≤ 50 := by omega
      go_wp2
      go_ret
      exact ⟨_, rfl, H.out.2⟩
set_option maxHeartbeats 1000000 in
theorem markS_w (v : Value) (n lo hi k0 : Nat) (w : World) (h : ShS lo hi w v n) (hk0 : 0 < k0) (hk1 : k0 + n < 1125899906842624) :
    Calls Tryz.prog 89 #[v, .int .i64 k0] w fun e w' => e = .returned (.int .i64 ((k0 + n : Nat) : Int)) ∧ Tame lo hi w w' := by
  obtain ⟨A, C, rfl, h⟩ := h
  have HT : Hid (ShS lo hi w (.slice A n C) n) := ⟨A, C, rfl, h⟩
  clear h
  go_enter Tryz.func89, Tryz.ntmps89
  go_wp2
  go_loopw [1, 5] (fun kv i wr => ∃ k : Nat, k ≤ n ∧ i = .int .i64 k ∧ kv = .int .i64 ((k0 + k : Nat) : Int) ∧ Tame lo hi w wr) (fun _ i _ => n - (intOf i).toNat)
  case atStart => exact ⟨0, Nat.zero_le _, rfl, by simp, Tame.refl _ _ _⟩
  case round =>
    obtain ⟨k, hk, rfl, rfl, hT⟩ := hrel
    have HK : Hid (Tame lo hi w wr) := hT
    clear hT
    by_cases hlt : k < n
    · have hlt' : (k : Int) < (n : Int) := by omega
      obtain ⟨A', C', ee, hh⟩ := HT.out
      simp only [Value.slice.injEq, true_and] at ee
      obtain ⟨rfl, rfl⟩ := ee
      obtain ⟨b, rfl, hlo, hhi, _⟩ := hh (by omega)
      clear hh
      go_wp2_with fail
      refine (markText_w (k0 + k) _ (by omega) (by omega)).mono ?_
      rintro e w3 ⟨t3, rfl, hb3⟩
      have hT3 := HK.out.trans (Tame.of_below (lo := lo) (hi := hi) hb3)
      obtain ⟨A', C', ee, hh⟩ := HT.out.tame hT3
      simp only [Value.slice.injEq, true_and] at ee
      obtain ⟨rfl, rfl⟩ := ee
      obtain ⟨b', eb, _, _, zu, hc⟩ := hh (by omega)
      simp only [Option.some.injEq, Addr.mk.injEq, and_true] at eb
      subst eb
      obtain ⟨t, ku⟩ := hc k hlt
      have HM : Hid (Tame lo hi w (w3.setCell ⟨b, k, none⟩ (.string t3))) := hT3.trans (Tame.setS hlo hhi ku t3)
      clear hh hc hT3 hb3 HK
      go_wp2
      go_roundw
      case rel => exact ⟨k + 1, by omega, by go_num, by first | go_num | (congr 1; omega), HM.out⟩
      case measure => simp [intOf]; omega
    · have hge : (n : Int) ≤ (k : Int) := by omega
      obtain rfl : k = n := by omega
      go_wp2
      go_ret
      exact ⟨rfl, HK.out⟩
end Go.Proofs.YtkaolpnbddjdpaaGreatDoor
namespace Go.Proofs.YtkaolpnbddjdpaaGreatDoor
open Go.ChangeShapes Go.WideShapes Go.ChangeAt Go.RowKit
/-- A row of lines whose scalars may be written. -/
def ShL (lo hi : Nat) (W : World) (v : Value) (n : Nat) : Prop := ∃ A C, v = .slice A n C ∧ (0 < n → ∃ b, A = some ⟨b, 0, none⟩ ∧ lo ≤ b ∧ b < hi ∧ (∀ o, W.frozen? ⟨b, o, none⟩ = false) ∧ ∀ i, i < n → (∃ z, W.cell? ⟨b, i * 5, none⟩ = some (.int .i64 z)) ∧ (∃ t, W.cell? ⟨b, i * 5 + 1, none⟩ = some (.string t)) ∧ (∃ z, W.cell? ⟨b, i * 5 + 2, none⟩ = some (.int .i64 z)) ∧ (∃ z, W.cell? ⟨b, i * 5 + 3, none⟩ = some (.int .i64 z)) ∧ ∃ t, W.cell? ⟨b, i * 5 + 4, none⟩ = some (.string t))
theorem ShL.tame {lo hi n : Nat} {W W' : World} {v : Value} (h : ShL lo hi W v n) (k : Tame lo hi W W') : ShL lo hi W' v n := by
  obtain ⟨A, C, rfl, h⟩ := h
  refine ⟨A, C, rfl, fun hn => ?_⟩
  obtain ⟨b, h1, h2, h3, h4, h5⟩ := h hn
  obtain ⟨⟨z0, c0⟩, _⟩ := h5 0 hn
  have hb : b < W.heap.size := cell_lt c0
  refine ⟨b, h1, h2, h3, fun o => k.fz b o hb (h4 o), fun i hi' => ?_⟩
  obtain ⟨⟨a0, q0⟩, ⟨a1, q1⟩, ⟨a2, q2⟩, ⟨a3, q3⟩, a4, q4⟩ := h5 i hi'
  exact ⟨k.nu _ _ _ q0, k.st _ _ _ q1, k.nu _ _ _ q2, k.nu _ _ _ q3, k.st _ _ _ q4⟩
theorem OwnLn.sh {B : Nat} {W : World} {v : Value} {ls : List Ln} (h : OwnLn B W v ls) {lo hi : Nat} (hlo : lo ≤ B) (hhi : W.heap.size ≤ hi) : ShL lo hi W v ls.length := by
  obtain ⟨b, f, h1, h2, h3, h4⟩ := h
  have := h3.lt
  refine ⟨_, _, h2, fun _ => ⟨b, rfl, by omega, by omega, h3.frozen, fun i hi' => ?_⟩⟩
  obtain ⟨e0, e1, e2, e3, e4⟩ := h4 i _ (List.getElem?_eq_getElem hi')
  have c0 := h3.cell (i := i * 5) (by omega)
  have c1 := h3.cell (i := i * 5 + 1) (by omega)
  have c2 := h3.cell (i := i * 5 + 2) (by omega)
  have c3 := h3.cell (i := i * 5 + 3) (by omega)
  have c4 := h3.cell (i := i * 5 + 4) (by omega)
  rw [e0] at c0
  rw [e1] at c1
  rw [e2] at c2
  rw [e3] at c3
  rw [e4] at c4
  exact ⟨⟨_, c0⟩, ⟨_, c1⟩, ⟨_, c2⟩, ⟨_, c3⟩, _, c4⟩
set_option maxHeartbeats 2000000 in
theorem markLn_w (v : Value) (n lo hi k0 : Nat) (w : World) (h : ShL lo hi w v n) (hn : n ≤ 1048576) (hk0 : 0 < k0) (hk1 : k0 + n * 5 < 1125899906842624) :
    Calls Tryz.prog 90 #[v, .int .i64 k0] w fun e w' => e = .returned (.int .i64 ((k0 + n * 5 : Nat) : Int)) ∧ Tame lo hi w w' := by
  obtain ⟨A, C, rfl, h⟩ := h
  have HT : Hid (ShL lo hi w (.slice A n C) n) := ⟨A, C, rfl, h⟩
  clear h
  go_enter Tryz.func90, Tryz.ntmps90
  go_wp2
  go_loopw [1, 5] (fun kv i wr => ∃ k : Nat, k ≤ n ∧ i = .int .i64 k ∧ kv = .int .i64 ((k0 + k * 5 : Nat) : Int) ∧ Tame lo hi w wr) (fun _ i _ => n - (intOf i).toNat)
  case atStart => exact ⟨0, Nat.zero_le _, rfl, by simp, Tame.refl _ _ _⟩
  case round =>
    obtain ⟨k, hk, rfl, rfl, hT⟩ := hrel
    by_cases hlt : k < n
    · have hlt' : (k : Int) < (n : Int) := by omega
      obtain ⟨A', C', ee, hh⟩ := HT.out.tame hT
      simp only [Value.slice.injEq, true_and] at ee
      obtain ⟨rfl, rfl⟩ := ee
      obtain ⟨b, rfl, hlo, hhi, zu, hc⟩ := hh (by omega)
      obtain ⟨⟨z0, p0⟩, ⟨z1, p1⟩, ⟨z2, p2⟩, ⟨z3, p3⟩, z4, p4⟩ := hc k hlt
      obtain ⟨m, hm⟩ : ∃ m, m = k0 + k * 5 := ⟨_, rfl⟩
      have HM0 : Hid (m = k0 + k * 5) := hm
      rw [← hm]
      have hmb : 0 < m ∧ m + 5 < 1125899906842624 := by omega
      have FA : Hid (∀ W, Tame lo hi w W → (∀ o, W.frozen? ⟨b, o, none⟩ = false) ∧ (∃ z, W.cell? ⟨b, k * 5, none⟩ = some (.int .i64 z)) ∧ (∃ t, W.cell? ⟨b, k * 5 + 1, none⟩ = some (.string t)) ∧ (∃ z, W.cell? ⟨b, k * 5 + 2, none⟩ = some (.int .i64 z)) ∧ (∃ z, W.cell? ⟨b, k * 5 + 3, none⟩ = some (.int .i64 z)) ∧ ∃ t, W.cell? ⟨b, k * 5 + 4, none⟩ = some (.string t)) := fun W hW => by
        obtain ⟨A', C', ee, hh⟩ := HT.out.tame hW
        simp only [Value.slice.injEq, true_and] at ee
        obtain ⟨rfl, rfl⟩ := ee
        obtain ⟨b', eb, _, _, zu, hc⟩ := hh (by omega)
        simp only [Option.some.injEq, Addr.mk.injEq, and_true] at eb
        subst eb
        exact ⟨zu, hc k hlt⟩
      have H1 : Hid (Tame lo hi w (wr.setCell ⟨b, k * 5, none⟩ (.int .i64 (m : Int)))) := hT.trans (Tame.setI hlo hhi p0 _)
      clear hh hc hT hm
      go_wp2_with fail
      refine (markText_w (m + 1) _ (by omega) (by omega)).mono ?_
      rintro e w3 ⟨t3, rfl, hb3⟩
      have hT3 := H1.out.trans (Tame.of_below (lo := lo) (hi := hi) hb3)
      clear zu p0 p1 p2 p3 p4 hb3
      obtain ⟨zu, ⟨z0, p0⟩, ⟨z1, p1⟩, ⟨z2, p2⟩, ⟨z3, p3⟩, z4, p4⟩ := FA.out w3 hT3
      have hT4 := hT3.trans (Tame.setS hlo hhi p1 t3)
      obtain ⟨_, _, _, ⟨_, o2⟩, _⟩ := FA.out _ hT4
      have hT5 := hT4.trans (Tame.setI hlo hhi o2 ((m + 2 : Nat) : Int))
      obtain ⟨_, _, _, _, ⟨_, o3⟩, _⟩ := FA.out _ hT5
      have H6 : Hid (Tame lo hi w (((w3.setCell ⟨b, k * 5 + 1, none⟩ (.string t3)).setCell ⟨b, k * 5 + 2, none⟩ (.int .i64 ((m + 2 : Nat) : Int))).setCell ⟨b, k * 5 + 3, none⟩ (.int .i64 ((m + 3 : Nat) : Int)))) := hT5.trans (Tame.setI hlo hhi o3 _)
      clear hT3 hT4 hT5 o2 o3 H1
      go_wp2_with fail
      refine (markText_w (m + 4) _ (by omega) (by omega)).mono ?_
      rintro e w7 ⟨t7, rfl, hb7⟩
      have hT7 := H6.out.trans (Tame.of_below (lo := lo) (hi := hi) hb7)
      clear zu p0 p1 p2 p3 p4 hb7
      obtain ⟨zu, _, _, _, _, z4, p4⟩ := FA.out w7 hT7
      have HM : Hid (Tame lo hi w (w7.setCell ⟨b, k * 5 + 4, none⟩ (.string t7))) := hT7.trans (Tame.setS hlo hhi p4 t7)
      clear hT7 H6
      go_wp2
      go_roundw
      case rel => exact ⟨k + 1, by omega, by go_num, by have := HM0.out; first | go_num | (congr 1; omega), HM.out⟩
      case measure => simp [intOf]; omega
    · have hge : (n : Int) ≤ (k : Int) := by omega
      obtain rfl : k = n := by omega
      have HK : Hid (Tame lo hi w wr) := hT
      clear hT
      go_wp2
      go_ret
      exact ⟨rfl, HK.out⟩
end Go.Proofs.YtkaolpnbddjdpaaGreatDoor
namespace Go.Proofs.YtkaolpnbddjdpaaGreatDoor
open Go.ChangeShapes Go.WideShapes Go.ChangeAt Go.RowKit
/-- How many marks a paper takes. -/
def cPp (p : Pap) : Nat := 4 + p.notes.length + p.lines.length * 5
theorem offR_mono {X : Type} (c : X → Nat) (xs : List X) : ∀ {i j : Nat}, i ≤ j → offR c xs i ≤ offR c xs j := by
  intro i j h
  induction j with
  | zero => obtain rfl : i = 0 := by omega
            exact Nat.le_refl _
  | succ j ih =>
    rcases Nat.lt_or_ge i (j + 1) with g | g
    · refine Nat.le_trans (ih (by omega)) ?_
      cases hx : xs[j]? with
      | none =>
        have hl : xs.length ≤ j := List.getElem?_eq_none_iff.1 hx
        unfold offR
        rw [List.take_of_length_le hl, List.take_of_length_le (by omega)]
        exact Nat.le_refl _
      | some x => rw [offR_succ hx]; omega
    · obtain rfl : i = j + 1 := by omega
      exact Nat.le_refl _
/-- A row of papers whose scalars may be written. -/
def ShPs (lo hi : Nat) (W : World) (v : Value) (ps : List Pap) : Prop := ∃ A C, v = .slice A ps.length C ∧ (0 < ps.length → ∃ b, A = some ⟨b, 0, none⟩ ∧ lo ≤ b ∧ b < hi ∧ (∀ o, W.frozen? ⟨b, o, none⟩ = false) ∧ ∀ (i : Nat) (p : Pap), ps[i]? = some p → (∃ z, W.cell? ⟨b, i * 6, none⟩ = some (.int .i64 z)) ∧ (∃ t, W.cell? ⟨b, i * 6 + 1, none⟩ = some (.string t)) ∧ (∃ t, W.cell? ⟨b, i * 6 + 2, none⟩ = some (.string t)) ∧ (∃ z, W.cell? ⟨b, i * 6 + 3, none⟩ = some (.int .i64 z)) ∧
  ∃ An Cn Al Cl, W.cell? ⟨b, i * 6 + 4, none⟩ = some (.slice An p.notes.length Cn) ∧ W.cell? ⟨b, i * 6 + 5, none⟩ = some (.slice Al p.lines.length Cl) ∧ ShS lo hi W (.slice An p.notes.length Cn) p.notes.length ∧ ShL lo hi W (.slice Al p.lines.length Cl) p.lines.length)
theorem ShPs.tame {lo hi : Nat} {W W' : World} {v : Value} {ps : List Pap} (h : ShPs lo hi W v ps) (k : Tame lo hi W W') : ShPs lo hi W' v ps := by
  obtain ⟨A, C, rfl, h⟩ := h
  refine ⟨A, C, rfl, fun hn => ?_⟩
  obtain ⟨b, h1, h2, h3, h4, h5⟩ := h hn
  obtain ⟨⟨z0, c0⟩, _⟩ := h5 0 _ (List.getElem?_eq_getElem hn)
  have hb : b < W.heap.size := cell_lt c0
  refine ⟨b, h1, h2, h3, fun o => k.fz b o hb (h4 o), fun i p hi' => ?_⟩
  obtain ⟨⟨a0, q0⟩, ⟨a1, q1⟩, ⟨a2, q2⟩, ⟨a3, q3⟩, An, Cn, Al, Cl, q4, q5, s4, s5⟩ := h5 i p hi'
  exact ⟨k.nu _ _ _ q0, k.st _ _ _ q1, k.st _ _ _ q2, k.nu _ _ _ q3, An, Cn, Al, Cl, k.sl _ _ _ _ _ q4, k.sl _ _ _ _ _ q5, s4.tame k, s5.tame k⟩
theorem OwnPs.sh {B : Nat} {W : World} {v : Value} {ps : List Pap} (h : OwnPs B W v ps) {lo hi : Nat} (hlo : lo ≤ B) (hhi : W.heap.size ≤ hi) : ShPs lo hi W v ps := by
  obtain ⟨b, f, h1, h2, h3, h4⟩ := h
  have := h3.lt
  refine ⟨_, _, h2, fun _ => ⟨b, rfl, by omega, by omega, h3.frozen, fun i p hi' => ?_⟩⟩
  have hlt := (List.getElem?_eq_some_iff.1 hi').1
  obtain ⟨e0, e1, e2, e3, e4, e5⟩ := h4 i p hi'
  have c0 := h3.cell (i := i * 6) (by omega)
  have c1 := h3.cell (i := i * 6 + 1) (by omega)
  have c2 := h3.cell (i := i * 6 + 2) (by omega)
  have c3 := h3.cell (i := i * 6 + 3) (by omega)
  have c4 := h3.cell (i := i * 6 + 4) (by omega)
  have c5 := h3.cell (i := i * 6 + 5) (by omega)
  rw [e0] at c0
  rw [e1] at c1
  rw [e2] at c2
  rw [e3] at c3
  have s4 := e4.sh (lo := lo) (hi := hi) (by omega) hhi
  have s5 := e5.sh (lo := lo) (hi := hi) (by omega) hhi
  obtain ⟨An, Cn, ev4, _⟩ := s4
  obtain ⟨Al, Cl, ev5, _⟩ := s5
  have s4 := e4.sh (lo := lo) (hi := hi) (by omega) hhi
  have s5 := e5.sh (lo := lo) (hi := hi) (by omega) hhi
  rw [ev4] at c4 s4
  rw [ev5] at c5 s5
  exact ⟨⟨_, c0⟩, ⟨_, c1⟩, ⟨_, c2⟩, ⟨_, c3⟩, An, Cn, Al, Cl, c4, c5, s4, s5⟩
set_option maxRecDepth 20000 in
set_option maxHeartbeats 8000000 in
theorem markPs_w (v : Value) (ps : List Pap) (lo hi k0 : Nat) (w : World) (h : ShPs lo hi w v ps) (hn : ps.length ≤ 1048576) (hl : ∀ p ∈ ps, p.notes.length ≤ 1048576 ∧ p.lines.length ≤ 1048576) (hk0 : 0 < k0) (hk1 : k0 + offR cPp ps ps.length < 1125899906842624) :
    Calls Tryz.prog 49 #[v, .int .i64 k0] w fun e w' => e = .returned (.int .i64 ((k0 + offR cPp ps ps.length : Nat) : Int)) ∧ Tame lo hi w w' := by
  obtain ⟨A, C, rfl, h⟩ := h
  have HT : Hid (ShPs lo hi w (.slice A ps.length C) ps ∧ ∀ p ∈ ps, p.notes.length ≤ 1048576 ∧ p.lines.length ≤ 1048576) := ⟨⟨A, C, rfl, h⟩, hl⟩
  clear h hl
  go_enter Tryz.func49, Tryz.ntmps49
  go_wp2
  go_loopw [1, 5] (fun kv i wr => ∃ k : Nat, k ≤ ps.length ∧ i = .int .i64 k ∧ kv = .int .i64 ((k0 + offR cPp ps k : Nat) : Int) ∧ Tame lo hi w wr) (fun _ i _ => ps.length - (intOf i).toNat)
  case atStart => exact ⟨0, Nat.zero_le _, rfl, by simp [offR_zero], Tame.refl _ _ _⟩
  case round =>
    obtain ⟨k, hk, rfl, rfl, hT⟩ := hrel
    by_cases hlt : k < ps.length
    · have hlt' : (k : Int) < (ps.length : Int) := by omega
      obtain ⟨p, hp⟩ : ∃ p, ps[k]? = some p := ⟨_, List.getElem?_eq_getElem hlt⟩
      obtain ⟨hl1, hl2⟩ := HT.out.2 p (List.mem_of_getElem? hp)
      have hsc := offR_succ (c := cPp) hp
      have hmo := offR_mono cPp ps (show k + 1 ≤ ps.length by omega)
      obtain ⟨nn, hnn⟩ : ∃ nn, nn = p.notes.length := ⟨_, rfl⟩
      obtain ⟨nl, hnl⟩ : ∃ nl, nl = p.lines.length := ⟨_, rfl⟩
      have hcp : cPp p = 4 + nn + nl * 5 := by rw [hnn, hnl]; rfl
      rw [hcp] at hsc
      rw [← hnn] at hl1
      rw [← hnl] at hl2
      obtain ⟨A', C', ee, hh⟩ := HT.out.1.tame hT
      simp only [Value.slice.injEq, true_and] at ee
      obtain ⟨rfl, rfl⟩ := ee
      obtain ⟨b, rfl, hlo, hhi, zu, hc⟩ := hh (by omega)
      obtain ⟨⟨z0, p0⟩, ⟨z1, p1⟩, ⟨z2, p2⟩, ⟨z3, p3⟩, An, Cn, Al, Cl, p4, p5, _, _⟩ := hc k p hp
      rw [← hnn] at p4
      rw [← hnl] at p5
      obtain ⟨m, hm⟩ : ∃ m, m = k0 + offR cPp ps k := ⟨_, rfl⟩
      have HM0 : Hid (m = k0 + offR cPp ps k ∧ offR cPp ps (k + 1) = offR cPp ps k + (4 + nn + nl * 5)) := ⟨hm, hsc⟩
      rw [← hm]
      have hmb : 0 < m ∧ m + 4 + nn + nl * 5 < 1125899906842624 := by omega
      have FA : Hid (∀ W, Tame lo hi w W → (∀ o, W.frozen? ⟨b, o, none⟩ = false) ∧ (∃ z, W.cell? ⟨b, k * 6, none⟩ = some (.int .i64 z)) ∧ (∃ t, W.cell? ⟨b, k * 6 + 1, none⟩ = some (.string t)) ∧ (∃ t, W.cell? ⟨b, k * 6 + 2, none⟩ = some (.string t)) ∧ (∃ z, W.cell? ⟨b, k * 6 + 3, none⟩ = some (.int .i64 z)) ∧ ∃ An Cn Al Cl, W.cell? ⟨b, k * 6 + 4, none⟩ = some (.slice An nn Cn) ∧ W.cell? ⟨b, k * 6 + 5, none⟩ = some (.slice Al nl Cl) ∧ ShS lo hi W (.slice An nn Cn) nn ∧ ShL lo hi W (.slice Al nl Cl) nl) := fun W hW => by
        obtain ⟨A', C', ee, hh⟩ := HT.out.1.tame hW
        simp only [Value.slice.injEq, true_and] at ee
        obtain ⟨rfl, rfl⟩ := ee
        obtain ⟨b', eb, _, _, zu, hc⟩ := hh (by omega)
        simp only [Option.some.injEq, Addr.mk.injEq, and_true] at eb
        subst eb
        have hc := hc k p hp
        rw [← hnn, ← hnl] at hc
        exact ⟨zu, hc⟩
      have H1 : Hid (Tame lo hi w (wr.setCell ⟨b, k * 6, none⟩ (.int .i64 (m : Int)))) := hT.trans (Tame.setI hlo hhi p0 _)
      clear hh hc hT hm hnn hnl hsc hmo hp hcp
      go_wp2_with fail
      refine (markText_w (m + 1) _ (by omega) (by omega)).mono ?_
      rintro e w3 ⟨t3, rfl, hb3⟩
      have hT3 := H1.out.trans (Tame.of_below (lo := lo) (hi := hi) hb3)
      clear zu p0 p1 p2 p3 p4 p5 hb3
      obtain ⟨zu, ⟨z0, p0⟩, ⟨z1, p1⟩, ⟨z2, p2⟩, ⟨z3, p3⟩, An, Cn, Al, Cl, p4, p5, _, _⟩ := FA.out w3 hT3
      have H4 : Hid (Tame lo hi w (w3.setCell ⟨b, k * 6 + 1, none⟩ (.string t3))) := hT3.trans (Tame.setS hlo hhi p1 t3)
      clear hT3 H1
      go_wp2_with fail
      refine (markText_w (m + 2) _ (by omega) (by omega)).mono ?_
      rintro e w5 ⟨t5, rfl, hb5⟩
      have hT5 := H4.out.trans (Tame.of_below (lo := lo) (hi := hi) hb5)
      clear zu p0 p1 p2 p3 p4 p5 hb5
      obtain ⟨zu, ⟨z0, p0⟩, ⟨z1, p1⟩, ⟨z2, p2⟩, ⟨z3, p3⟩, An, Cn, Al, Cl, p4, p5, _, _⟩ := FA.out w5 hT5
      have hT6 := hT5.trans (Tame.setS hlo hhi p2 t5)
      obtain ⟨_, _, _, _, ⟨_, o3⟩, _⟩ := FA.out _ hT6
      have hT7 := hT6.trans (Tame.setI hlo hhi o3 ((m : Int) + 1 + 1 + 1))
      obtain ⟨_, _, _, _, _, Ao, Co, Alo, Clo, o4, o5, s4, s5⟩ := FA.out _ hT7
      have H7 : Hid (Tame lo hi w ((w5.setCell ⟨b, k * 6 + 2, none⟩ (.string t5)).setCell ⟨b, k * 6 + 3, none⟩ (.int .i64 ((m : Int) + 1 + 1 + 1))) ∧ ShS lo hi ((w5.setCell ⟨b, k * 6 + 2, none⟩ (.string t5)).setCell ⟨b, k * 6 + 3, none⟩ (.int .i64 ((m : Int) + 1 + 1 + 1))) (.slice Ao nn Co) nn) := ⟨hT7, s4⟩
      clear hT5 hT6 hT7 o3 H4 s4 s5
      clear p4 p5
      go_wp2_with fail
      refine (markS_w _ nn lo hi (m + 4) _ H7.out.2 (by omega) (by omega)).mono ?_
      rintro e w8 ⟨rfl, hT8⟩
      have hT9 := H7.out.1.trans hT8
      clear zu p0 p1 p2 p3 o4 o5 hT8 H7
      obtain ⟨zu, _, _, _, _, Ap, Cp, Alp, Clp, o4, o5, s4, s5⟩ := FA.out w8 hT9
      have H9 : Hid (Tame lo hi w w8 ∧ ShL lo hi w8 (.slice Alp nl Clp) nl) := ⟨hT9, s5⟩
      clear hT9 s4 s5
      go_wp2_with fail
      refine (markLn_w _ nl lo hi (m + 4 + nn) _ H9.out.2 hl2 (by omega) (by omega)).mono ?_
      rintro e w10 ⟨rfl, hT10⟩
      have HM : Hid (Tame lo hi w w10) := H9.out.1.trans hT10
      clear hT10 H9 zu o4 o5
      go_wp2
      go_roundw
      case rel => exact ⟨k + 1, by omega, by go_num, by have := HM0.out; first | go_num | (congr 1; omega), HM.out⟩
      case measure => simp [intOf]; omega
    · have hge : (ps.length : Int) ≤ (k : Int) := by omega
      obtain rfl : k = ps.length := by omega
      have HK : Hid (Tame lo hi w wr) := hT
      clear hT
      go_wp2
      go_ret
      exact ⟨rfl, HK.out⟩
set_option maxHeartbeats 2000000 in
theorem markPc_w (f t : ByteArray) (num : Int) (v : Value) (ps : List Pap) (lo hi k0 : Nat) (w : World) (h : ShPs lo hi w v ps) (hn : ps.length ≤ 1048576) (hl : ∀ p ∈ ps, p.notes.length ≤ 1048576 ∧ p.lines.length ≤ 1048576) (hk0 : 0 < k0) (hk1 : k0 + offR cPp ps ps.length < 1125899906842624) :
    Calls Tryz.prog 21 #[.agg #[.string f, .string t, .int .i64 num, v], .int .i64 k0] w fun e w' => e = .returned (.int .i64 ((k0 + offR cPp ps ps.length : Nat) : Int)) ∧ Tame lo hi w w' := by
  obtain ⟨A, C, e0, h'⟩ := h
  subst e0
  have hs : ShPs lo hi w (.slice A ps.length C) ps := ⟨A, C, rfl, h'⟩
  clear h'
  have t0 : Tame lo hi w (w.alloc (.cells #[.string f, .string t, .int .i64 num, .slice A ps.length C] 27)) := Tame.of_below ((Below.refl _ _).alloc (Nat.le_refl _) _)
  have H0 : Hid (ShPs lo hi (w.alloc (.cells #[.string f, .string t, .int .i64 num, .slice A ps.length C] 27)) (.slice A ps.length C) ps ∧ Tame lo hi w (w.alloc (.cells #[.string f, .string t, .int .i64 num, .slice A ps.length C] 27))) := ⟨hs.tame t0, t0⟩
  clear t0 hs
  go_enter Tryz.func21, Tryz.ntmps21
  go_wp2_with fail
  refine (markPs_w _ ps lo hi k0 _ H0.out.1 hn hl hk0 hk1).mono ?_
  rintro e w1 ⟨rfl, hT⟩
  have H1 : Hid (Tame lo hi w w1) := H0.out.2.trans hT
  clear hT
  go_wp2
  go_ret
  exact ⟨rfl, H1.out⟩
end Go.Proofs.YtkaolpnbddjdpaaGreatDoor
namespace Go.Proofs.YtkaolpnbddjdpaaGreatDoor
open Go.ChangeShapes Go.WideShapes Go.ChangeAt Go.RowKit
set_option maxHeartbeats 400000 in
theorem eqEl_any (v v' : Value) (ss : List ByteArray) (w : World) (h : RowS w v ss) (h' : RowS w v' ss) :
    Calls Tryz.prog 218 #[.agg #[v], .agg #[v']] w fun e w' => e = .returned (.bool true) ∧ Below w.heap.size w w' := by
  obtain ⟨a, cap, rfl⟩ := h.val
  obtain ⟨a', cap', rfl⟩ := h'.val
  have H : Hid (RowS w (.slice a ss.length cap) ss ∧ RowS w (.slice a' ss.length cap') ss) := ⟨h, h'⟩
  clear h h'
  go_enter Tryz.func218, Tryz.ntmps218
  go_wp2_with fail
  have hb0 : Below w.heap.size w ((w.alloc (.cells #[.slice a ss.length cap] 141)).alloc (.cells #[.slice a' ss.length cap'] 141)) := ((Below.refl _ _).alloc (Nat.le_refl _) _).alloc (by simp) _
  refine (eqS_any _ _ ss _ (H.out.1.below hb0) (H.out.2.below hb0)).mono ?_
  rintro e w1 ⟨rfl, hb⟩
  have HB : Hid (Below w.heap.size w w1) := hb0.trans (hb.mono (by simp; omega))
  clear hb hb0
  go_wp2
  go_ret
  exact ⟨rfl, HB.out⟩
set_option maxHeartbeats 1000000 in
theorem eqE_any (v v' : Value) (es : List (List ByteArray)) (w : World) (h : RowE w v es) (h' : RowE w v' es) :
    Calls Tryz.prog 206 #[v, v'] w fun e w' => e = .returned (.bool true) ∧ Below w.heap.size w w' := by
  have hlen := h.len
  obtain ⟨a, cap, rfl⟩ := h.val
  obtain ⟨a', cap', rfl⟩ := h'.val
  have H : Hid (RowE w (.slice a es.length cap) es ∧ RowE w (.slice a' es.length cap') es) := ⟨h, h'⟩
  clear h h'
  go_enter Tryz.func206, Tryz.ntmps206
  go_wp2
  go_loopw [5] (fun i wr => ∃ k : Nat, i = .int .i64 (k : Int) ∧ k ≤ es.length ∧ Below w.heap.size w wr) (fun i _ => es.length - (intOf i).toNat)
  case atStart => exact ⟨0, rfl, by omega, Below.refl _ _⟩
  case round =>
    obtain ⟨k, rfl, hk, hb⟩ := hrel
    by_cases hlt : k < es.length
    · have hlt' : (k : Int) < (es.length : Int) := by omega
      obtain ⟨b, o, c1, s, u, e, hs, hc, hS⟩ := (H.out.1.below hb).at hlt
      obtain ⟨b', o', c2, s', u', e', hs', hc', hS'⟩ := (H.out.2.below hb).at hlt
      simp only [Value.slice.injEq, true_and] at e e'
      obtain ⟨rfl, rfl⟩ := e
      obtain ⟨rfl, rfl⟩ := e'
      obtain rfl : s = s' := by rw [hs] at hs'; exact Option.some.inj hs'
      have HB : Hid (Below w.heap.size w wr ∧ RowS wr u s ∧ RowS wr u' s) := ⟨hb, hS, hS'⟩
      clear hs hs' hb hS hS'
      have hlb := cell_lt hc
      have hlb' := cell_lt hc'
      go_wp2_with fail
      go_region_held3 (fun W => W.cell? ⟨b, o + k, none⟩ = some u ∧ W.cell? ⟨b', o' + k, none⟩ = some u') (go_keep) (first | (go_at_call 218; refine (eqEl_any u u' s _ (HB.out.2.1.below (Below.refl _ _).drew) (HB.out.2.2.below (Below.refl _ _).drew)).mono ?_; rintro e w2 ⟨rfl, hb2⟩; have y0 : w2.cell? ⟨b, o + k, none⟩ = some u := (hb2.cell (p := ⟨b, o + k, none⟩) hlb).trans hc; have y1 : w2.cell? ⟨b', o' + k, none⟩ = some u' := (hb2.cell (p := ⟨b', o' + k, none⟩) hlb').trans hc'))
      have HB2 : Hid (Below w.heap.size w w2) := HB.out.1.drew.trans (hb2.mono HB.out.1.size)
      clear hb2
      rename_i hHeld
      clear hHeld
      go_wp2
      go_roundw
      case rel => exact ⟨k + 1, by go_num, by omega, HB2.out⟩
      case measure => simp [intOf]; omega
    · obtain rfl : k = es.length := by omega
      have HB : Hid (Below w.heap.size w wr) := hb
      clear hb
      go_wp2
      go_ret
      exact ⟨rfl, HB.out⟩
set_option maxHeartbeats 400000 in
theorem eqG_any (tag : ByteArray) (v v' : Value) (es : List (List ByteArray)) (w : World) (h : RowE w v es) (h' : RowE w v' es) :
    Calls Tryz.prog 196 #[.agg #[.string tag, v], .agg #[.string tag, v']] w fun e w' => e = .returned (.bool true) ∧ Below w.heap.size w w' := by
  obtain ⟨a, cap, rfl⟩ := h.val
  obtain ⟨a', cap', rfl⟩ := h'.val
  have H : Hid (RowE w (.slice a es.length cap) es ∧ RowE w (.slice a' es.length cap') es) := ⟨h, h'⟩
  clear h h'
  go_enter Tryz.func196, Tryz.ntmps196
  go_wp2_with fail
  have hb0 : Below w.heap.size w ((w.alloc (.cells #[.string tag, .slice a es.length cap] 90)).alloc (.cells #[.string tag, .slice a' es.length cap'] 90)) := ((Below.refl _ _).alloc (Nat.le_refl _) _).alloc (by simp) _
  refine (eqE_any _ _ es _ (H.out.1.below hb0) (H.out.2.below hb0)).mono ?_
  rintro e w1 ⟨rfl, hb⟩
  have HB : Hid (Below w.heap.size w w1) := hb0.trans (hb.mono (by simp; omega))
  clear hb hb0
  go_wp2
  go_ret
  exact ⟨rfl, HB.out⟩
end Go.Proofs.YtkaolpnbddjdpaaGreatDoor
