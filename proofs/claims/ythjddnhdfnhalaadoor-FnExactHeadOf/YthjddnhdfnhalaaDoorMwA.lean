/- Marks written into a row of texts: only scalars of a zone of blocks are changed. -/
import Derived.Test.YthjddnhdfnhalaaDoorMarkT
import Derived.Test.YthjddnhdfnhalaaDoorToS
namespace Go.Proofs.YthjddnhdfnhalaaDoor
open Go.ChangeShapes Go.WideShapes Go.ChangeAt Go.RowKit
/-- Scalars of the blocks from lo to hi may have changed, nothing else. -/
structure Tame (lo hi : Nat) (W W' : World) : Prop where
  os : W'.os = W.os
  tape : W'.tape = W.tape
  output : W'.output = W.output
  size : W.heap.size ≤ W'.heap.size
  block : ∀ k, k < W.heap.size → (k < lo ∨ hi ≤ k) → W'.heap[k]? = W.heap[k]?
  sl : ∀ b o a n c, W.cell? ⟨b, o, none⟩ = some (.slice a n c) → W'.cell? ⟨b, o, none⟩ = some (.slice a n c)
  st : ∀ b o t, W.cell? ⟨b, o, none⟩ = some (.string t) → ∃ t', W'.cell? ⟨b, o, none⟩ = some (.string t')
  nu : ∀ b o z, W.cell? ⟨b, o, none⟩ = some (.int .i64 z) → ∃ z', W'.cell? ⟨b, o, none⟩ = some (.int .i64 z')
  fz : ∀ b o, b < W.heap.size → W.frozen? ⟨b, o, none⟩ = false → W'.frozen? ⟨b, o, none⟩ = false
theorem Tame.refl (lo hi : Nat) (W : World) : Tame lo hi W W := ⟨rfl, rfl, rfl, Nat.le_refl _, fun _ _ _ => rfl, fun _ _ _ _ _ h => h, fun _ _ t h => ⟨t, h⟩, fun _ _ z h => ⟨z, h⟩, fun _ _ _ h => h⟩
theorem Tame.trans {lo hi : Nat} {a b c : World} (h : Tame lo hi a b) (k : Tame lo hi b c) : Tame lo hi a c :=
  ⟨k.os.trans h.os, k.tape.trans h.tape, k.output.trans h.output, Nat.le_trans h.size k.size, fun i hi' hz => (k.block i (Nat.lt_of_lt_of_le hi' h.size) hz).trans (h.block i hi' hz),
    fun b o a n c e => k.sl _ _ _ _ _ (h.sl b o a n c e), fun b o t e => by obtain ⟨t', e'⟩ := h.st b o t e; exact k.st _ _ _ e', fun b o z e => by obtain ⟨z', e'⟩ := h.nu b o z e; exact k.nu _ _ _ e',
    fun b o hb e => k.fz b o (Nat.lt_of_lt_of_le hb h.size) (h.fz b o hb e)⟩
theorem Tame.of_below {lo hi : Nat} {W W' : World} (h : Below W.heap.size W W') : Tame lo hi W W' :=
  ⟨h.os, h.tape, h.output, h.size, fun k hk _ => h.block k hk, fun b o _ _ _ e => (h.cell (p := ⟨b, o, none⟩) (cell_lt e)).trans e, fun b o t e => ⟨t, (h.cell (p := ⟨b, o, none⟩) (cell_lt e)).trans e⟩,
    fun b o z e => ⟨z, (h.cell (p := ⟨b, o, none⟩) (cell_lt e)).trans e⟩, fun b o hb e => (h.frozen (p := ⟨b, o, none⟩) hb).trans e⟩
theorem setAt_cases (W : World) (b o b' o' : Nat) (x u : Value) (hx : W.cell? ⟨b, o, none⟩ = some u) : (b' = b ∧ o' = o ∧ (W.setCell ⟨b, o, none⟩ x).cell? ⟨b', o', none⟩ = some x) ∨ ((W.setCell ⟨b, o, none⟩ x).cell? ⟨b', o', none⟩ = W.cell? ⟨b', o', none⟩ ∧ ¬ (b' = b ∧ o' = o)) := by
  by_cases e : b' = b ∧ o' = o
  · obtain ⟨rfl, rfl⟩ := e
    exact .inl ⟨rfl, rfl, World.cell?_setCell_same' _ _ _ (by rw [hx]; rfl)⟩
  · exact .inr ⟨World.cell?_setCell_other _ _ _ _ (by simp <;> omega), e⟩
theorem Tame.setS {lo hi b o : Nat} {W : World} {t : ByteArray} (h1 : lo ≤ b) (h2 : b < hi) (hc : W.cell? ⟨b, o, none⟩ = some (.string t)) (t' : ByteArray) : Tame lo hi W (W.setCell ⟨b, o, none⟩ (.string t')) := by
  refine ⟨rfl, rfl, rfl, by simp [World.setCell], fun k _ hk => Below.heap_setCell W ⟨b, o, none⟩ _ k (show k ≠ b by omega), fun b' o' a n c e => ?_, fun b' o' s e => ?_, fun b' o' z e => ?_, fun b' o' _ e => by rw [World.frozen?_setCell]; exact e⟩
  · rcases setAt_cases W b o b' o' (.string t') _ hc with ⟨rfl, rfl, _⟩ | ⟨q, _⟩
    · rw [hc] at e; cases e
    · rw [q]; exact e
  · rcases setAt_cases W b o b' o' (.string t') _ hc with ⟨_, _, q⟩ | ⟨q, _⟩
    · exact ⟨_, q⟩
    · exact ⟨s, q.trans e⟩
  · rcases setAt_cases W b o b' o' (.string t') _ hc with ⟨rfl, rfl, _⟩ | ⟨q, _⟩
    · rw [hc] at e; cases e
    · exact ⟨z, q.trans e⟩
theorem Tame.setI {lo hi b o : Nat} {W : World} {z : Int} (h1 : lo ≤ b) (h2 : b < hi) (hc : W.cell? ⟨b, o, none⟩ = some (.int .i64 z)) (z' : Int) : Tame lo hi W (W.setCell ⟨b, o, none⟩ (.int .i64 z')) := by
  refine ⟨rfl, rfl, rfl, by simp [World.setCell], fun k _ hk => Below.heap_setCell W ⟨b, o, none⟩ _ k (show k ≠ b by omega), fun b' o' a n c e => ?_, fun b' o' s e => ?_, fun b' o' y e => ?_, fun b' o' _ e => by rw [World.frozen?_setCell]; exact e⟩
  · rcases setAt_cases W b o b' o' (.int .i64 z') _ hc with ⟨rfl, rfl, _⟩ | ⟨q, _⟩
    · rw [hc] at e; cases e
    · rw [q]; exact e
  · rcases setAt_cases W b o b' o' (.int .i64 z') _ hc with ⟨rfl, rfl, _⟩ | ⟨q, _⟩
    · rw [hc] at e; cases e
    · exact ⟨s, q.trans e⟩
  · rcases setAt_cases W b o b' o' (.int .i64 z') _ hc with ⟨_, _, q⟩ | ⟨q, _⟩
    · exact ⟨_, q⟩
    · exact ⟨y, q.trans e⟩
/-- Rows whose scalars may be written, in blocks from lo to hi. -/
def ShS (lo hi : Nat) (W : World) (v : Value) (n : Nat) : Prop := ∃ A C, v = .slice A n C ∧ (0 < n → ∃ b, A = some ⟨b, 0, none⟩ ∧ lo ≤ b ∧ b < hi ∧ (∀ o, W.frozen? ⟨b, o, none⟩ = false) ∧ ∀ i, i < n → ∃ t, W.cell? ⟨b, i, none⟩ = some (.string t))
theorem ShS.tame {lo hi n : Nat} {W W' : World} {v : Value} (h : ShS lo hi W v n) (k : Tame lo hi W W') : ShS lo hi W' v n := by
  obtain ⟨A, C, e, h⟩ := h
  refine ⟨A, C, e, fun h0 => ?_⟩
  obtain ⟨b, e1, h1, h2, h3, h4⟩ := h h0
  obtain ⟨t, ht⟩ := h4 0 h0
  exact ⟨b, e1, h1, h2, fun o => k.fz b o (cell_lt ht) (h3 o), fun i hi' => by obtain ⟨t, ht⟩ := h4 i hi'; exact k.st _ _ _ ht⟩
theorem OwnS.sh {B : Nat} {W : World} {v : Value} {ss : List ByteArray} (h : OwnS B W v ss) {lo hi : Nat} (hlo : lo ≤ B) (hhi : W.heap.size ≤ hi) : ShS lo hi W v ss.length := by
  obtain ⟨b, h1, h2, h3⟩ := h
  have := h3.lt
  exact ⟨_, _, h2, fun _ => ⟨b, rfl, by omega, by omega, h3.frozen, fun i hi' => ⟨_, h3.cell hi'⟩⟩⟩
set_option maxHeartbeats 1000000 in
/-- markText at any number. -/
theorem markText_w (k0 : Nat) (w : World) (h0 : 0 < k0) (h1 : k0 < 1099511627776) :
    Calls Tryd.prog 28 #[.int .i64 k0] w fun e w' => ∃ t, e = .returned (.string t) ∧ Below w.heap.size w w' := by
  have h0' : (0 : Int) < (k0 : Int) := by omega
  have h1' : (k0 : Int) < 1099511627776 := by omega
  have hz0 : decide (k0 = 0) = false := by simp; omega
  go_enter Tryd.func28, Tryd.ntmps28
  go_wp2
  go_loopw [0, 3] (fun kv o wr => ∃ (f j : Nat) (acc : ByteArray), kv = .int .i64 j ∧ o = .string acc ∧ j < 2 ^ f ∧ j < 1099511627776 ∧ acc.size + f ≤ 40 ∧ Below w.heap.size w wr) (fun kv _ _ => (intOf kv).toNat)
  case atStart => exact ⟨40, k0, ⟨#[]⟩, rfl, rfl, h1, h1, by decide, Below.refl _ _⟩
  case round =>
    obtain ⟨f, j, acc, rfl, rfl, hj, hj2, hac, hb⟩ := hrel
    have H : Hid (j < 2 ^ f ∧ Below w.heap.size w wr) := ⟨hj, hb⟩
    have hwz := hb.size
    clear hj hb
    have hcv := conv1 wr
    by_cases hp : 0 < j
    · have hp' : (0 : Int) < (j : Int) := by omega
      have hsn : (strOfNums [48 + (j : Int) % 10]).size = 1 := by rw [strOfNums_size]; rfl
      go_wp2
      obtain ⟨f, rfl⟩ : ∃ f', f = f' + 1 := by
        cases f with
        | zero =>
          have := H.out.1
          simp at this
          omega
        | succ f => exact ⟨f, rfl⟩
      have hlt : j / 10 < 2 ^ f := by
        have := H.out.1
        rw [Nat.pow_succ] at this
        omega
      go_roundw
      case rel => exact ⟨f, j / 10, strOfNums [48 + ((j % 10 : Nat) : Int)] ++ acc, by simp, by simp, hlt, by omega, by rw [ByteArray.size_append, strOfNums_size]; simp; omega, H.out.2.alloc hwz _⟩
      case measure => simp [intOf]; omega
    · obtain rfl : j = 0 := by omega
      have hacc : acc.size ≤ 40 := by omega
      go_wp2
      go_ret
      exact ⟨_, rfl, H.out.2⟩
set_option maxHeartbeats 1000000 in
theorem markS_w (v : Value) (n lo hi k0 : Nat) (w : World) (h : ShS lo hi w v n) (hk0 : 0 < k0) (hk1 : k0 + n < 1099511627776) :
    Calls Tryd.prog 43 #[v, .int .i64 k0] w fun e w' => e = .returned (.int .i64 ((k0 + n : Nat) : Int)) ∧ Tame lo hi w w' := by
  obtain ⟨A, C, rfl, h⟩ := h
  have HT : Hid (ShS lo hi w (.slice A n C) n) := ⟨A, C, rfl, h⟩
  clear h
  go_enter Tryd.func43, Tryd.ntmps43
  go_wp2
  go_loopw [1, 5] (fun kv i wr => ∃ k : Nat, k ≤ n ∧ i = .int .i64 k ∧ kv = .int .i64 ((k0 + k : Nat) : Int) ∧ Tame lo hi w wr) (fun _ i _ => n - (intOf i).toNat)
  case atStart => exact ⟨0, Nat.zero_le _, rfl, by simp, Tame.refl _ _ _⟩
  case round =>
    obtain ⟨k, hk, rfl, rfl, hT⟩ := hrel
    have HK : Hid (Tame lo hi w wr) := hT
    clear hT
    by_cases hlt : k < n
    · have hlt' : (k : Int) < (n : Int) := by omega
      obtain ⟨A', C', ee, hh⟩ := HT.out
      simp only [Value.slice.injEq, true_and] at ee
      obtain ⟨rfl, rfl⟩ := ee
      obtain ⟨b, rfl, hlo, hhi, _⟩ := hh (by omega)
      clear hh
      go_wp2_with fail
      refine (markText_w (k0 + k) _ (by omega) (by omega)).mono ?_
      rintro e w3 ⟨t3, rfl, hb3⟩
      have hT3 := HK.out.trans (Tame.of_below (lo := lo) (hi := hi) hb3)
      obtain ⟨A', C', ee, hh⟩ := HT.out.tame hT3
      simp only [Value.slice.injEq, true_and] at ee
      obtain ⟨rfl, rfl⟩ := ee
      obtain ⟨b', eb, _, _, zu, hc⟩ := hh (by omega)
      simp only [Option.some.injEq, Addr.mk.injEq, and_true] at eb
      subst eb
      obtain ⟨t, ku⟩ := hc k hlt
      have HM : Hid (Tame lo hi w (w3.setCell ⟨b, k, none⟩ (.string t3))) := hT3.trans (Tame.setS hlo hhi ku t3)
      clear hh hc hT3 hb3 HK
      go_wp2
      go_roundw
      case rel => exact ⟨k + 1, by omega, by go_num, by first | go_num | (congr 1; omega), HM.out⟩
      case measure => simp [intOf]; omega
    · have hge : (n : Int) ≤ (k : Int) := by omega
      obtain rfl : k = n := by omega
      go_wp2
      go_ret
      exact ⟨rfl, HK.out⟩
end Go.Proofs.YthjddnhdfnhalaaDoor
