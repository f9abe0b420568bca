/- Texts of ours put together: I64B, ShFmt, FmtI, DecG. -/
import Derived.Test.YtcdebinldmblkaaGreatDoorRows
import Derived.Shelf.LaysM
import Derived.Shelf.Strconv.Itoa4
import Derived.Test.YtcdebinldmblkaaGreatDoorG07
import Derived.Test.YtcdebinldmblkaaGreatDoorG00
import Derived.Lib.LaidTab
import Derived.Lib.AppendIntMem
import Derived.Test.YtcdebinldmblkaaGreatDoorG01
namespace Go.Proofs.YtcdebinldmblkaaGreatDoor
def i64B (n : Int) : Prop := -9223372036854775808 ≤ n ∧ n ≤ 9223372036854775807
end Go.Proofs.YtcdebinldmblkaaGreatDoor
namespace Go.Proofs.YtcdebinldmblkaaGreatDoor
open Go.Shelf Go.RowKit Go.Lib
def laysM173_ren : Go.Shelf.Ren := ⟨fun | 173 => 78 | 246 => 85 | 283 => 95 | 284 => 96 | 285 => 97 | 286 => 98 | 129 => 106 | 317 => 105 | 318 => 107 | 319 => 108 | 320 => 109 | 337 => 132 | 338 => 133 | n => n, fun | 2 => 2 | 3 => 3 | 9 => 9 | 4 => 4 | 171 => 132 | 0 => 0 | 53 => 133 | 37 => 73 | 5 => 5 | 173 => 136 | 212 => 145 | 51 => 146 | 20 => 20 | 213 => 147 | 46 => 149 | 232 => 176 | 233 => 177 | n => n, fun | 17 => 2 | 18 => 5 | 19 => 6 | n => n⟩
theorem laysM173 : Go.Proofs.LaysM.n173 Tryz.prog laysM173_ren := {
  mixed := by kernel_rfl
  f129 := Tryz.func106.trans (congrArg some (by kernel_rfl))
  f173 := Tryz.func78.trans (congrArg some (by kernel_rfl))
  f246 := Tryz.func85.trans (congrArg some (by kernel_rfl))
  f283 := Tryz.func95.trans (congrArg some (by kernel_rfl))
  f284 := Tryz.func96.trans (congrArg some (by kernel_rfl))
  f285 := Tryz.func97.trans (congrArg some (by kernel_rfl))
  f286 := Tryz.func98.trans (congrArg some (by kernel_rfl))
  f317 := Tryz.func105.trans (congrArg some (by kernel_rfl))
  f318 := Tryz.func107.trans (congrArg some (by kernel_rfl))
  f319 := Tryz.func108.trans (congrArg some (by kernel_rfl))
  f320 := Tryz.func109.trans (congrArg some (by kernel_rfl))
  f337 := Tryz.func132.trans (congrArg some (by kernel_rfl))
  f338 := Tryz.func133.trans (congrArg some (by kernel_rfl))
  t0 := Tryz.underlying0
  a0 := Tryz.isAgg0
  z0 := Tryz.sizeOf0
  v0 := Tryz.zeroValue0
  t2 := Tryz.underlying2
  a2 := Tryz.isAgg2
  z2 := Tryz.sizeOf2
  v2 := Tryz.zeroValue2
  t3 := Tryz.underlying3
  a3 := Tryz.isAgg3
  z3 := Tryz.sizeOf3
  v3 := Tryz.zeroValue3
  t4 := Tryz.underlying4
  a4 := Tryz.isAgg4
  z4 := Tryz.sizeOf4
  v4 := Tryz.zeroValue4
  t5 := Tryz.underlying5
  a5 := Tryz.isAgg5
  z5 := Tryz.sizeOf5
  v5 := Tryz.zeroValue5
  t9 := Tryz.underlying9
  a9 := Tryz.isAgg9
  z9 := Tryz.sizeOf9
  v9 := Tryz.zeroValue9
  t20 := Tryz.underlying20
  a20 := Tryz.isAgg20
  z20 := Tryz.sizeOf20
  v20 := Tryz.zeroValue20
  t37 := Tryz.underlying73
  a37 := Tryz.isAgg73
  z37 := Tryz.sizeOf73
  v37 := Tryz.zeroValue73
  t46 := Tryz.underlying149
  a46 := Tryz.isAgg149
  z46 := Tryz.sizeOf149
  v46 := Tryz.zeroValue149
  t51 := Tryz.underlying146
  a51 := Tryz.isAgg146
  z51 := Tryz.sizeOf146
  v51 := Tryz.zeroValue146
  t53 := Tryz.underlying133
  a53 := Tryz.isAgg133
  z53 := Tryz.sizeOf133
  v53 := Tryz.zeroValue133
  t171 := Tryz.underlying132
  a171 := Tryz.isAgg132
  z171 := Tryz.sizeOf132
  v171 := Tryz.zeroValue132
  t173 := Tryz.underlying136
  a173 := Tryz.isAgg136
  z173 := Tryz.sizeOf136
  v173 := Tryz.zeroValue136
  t212 := Tryz.underlying145
  a212 := Tryz.isAgg145
  z212 := Tryz.sizeOf145
  v212 := Tryz.zeroValue145
  t213 := Tryz.underlying147
  a213 := Tryz.isAgg147
  z213 := Tryz.sizeOf147
  t232 := Tryz.underlying176
  a232 := Tryz.isAgg176
  z232 := Tryz.sizeOf176
  v232 := Tryz.zeroValue176
  t233 := Tryz.underlying177
  a233 := Tryz.isAgg177
  z233 := Tryz.sizeOf177
  v233 := Tryz.zeroValue177
  g17 := by kernel_rfl
  g18 := by kernel_rfl
  g19 := by kernel_rfl
  i0 := by kernel_rfl
  i2 := by kernel_rfl
  i3 := by kernel_rfl
  i4 := by kernel_rfl
  i5 := by kernel_rfl
  i9 := by kernel_rfl
  i20 := by kernel_rfl
  i37 := by kernel_rfl
  i46 := by kernel_rfl
  i51 := by kernel_rfl
  i53 := by kernel_rfl
  i171 := by kernel_rfl
  i173 := by kernel_rfl
  i212 := by kernel_rfl
  i232 := by kernel_rfl
  i233 := by kernel_rfl
  m17 := by kernel_rfl
  m18 := by kernel_rfl
  m19 := by kernel_rfl }
end Go.Proofs.YtcdebinldmblkaaGreatDoor
namespace Go.Proofs.YtcdebinldmblkaaGreatDoor
open Go.ChangeShapes Go.WideShapes Go.ChangeAt Go.RowKit
/-- The table of tens lies in its variable. -/
def TabOk (w : World) : Prop := Lib.TabIs Tryz.prog w "internal/strconv.uint64pow10" .u64 Lib.pow10Tab
theorem gPow : Tryz.prog.globalNamed "internal/strconv.uint64pow10" = some 2 := by kernel_rfl
theorem TabOk.lt {w : World} (h : TabOk w) : 2 < w.heap.size := by
  unfold TabOk Lib.TabIs World.var? at h
  rw [gPow] at h
  simp only [Option.bind_some] at h
  rcases Nat.lt_or_ge 2 w.heap.size with q | q
  · exact q
  · rw [Array.getElem?_eq_none q] at h
    cases h
theorem TabOk.of {w w' : World} (h : TabOk w) (hb : w'.heap[2]? = w.heap[2]?) : TabOk w' := by
  unfold TabOk Lib.TabIs World.var? at h ⊢
  rw [gPow] at h ⊢
  simp only [Option.bind_some] at h ⊢
  rw [hb]
  exact h
theorem TabOk.below {w w' : World} (h : TabOk w) (hb : Below w.heap.size w w') : TabOk w' := h.of (hb.block _ h.lt)
theorem fmt_any (n : Int) (w : World) (h0 : -9223372036854775808 ≤ n) (h1 : n ≤ 9223372036854775807) (ht : TabOk w) : Calls Tryz.prog 78 #[.int .i64 n, .int .i64 10] w fun e w' => e = .returned (.string (decS n)) ∧ Below w.heap.size w w' :=
  (Any.strconv_FormatInt_10 laysM173 n h0 h1 w ht).mono fun _ _ ⟨he, k, os, hw⟩ => ⟨he, by rw [hw]; exact Lib.below_grow _ _ (Nat.le_refl _) k os⟩
end Go.Proofs.YtcdebinldmblkaaGreatDoor
namespace Go.Proofs.YtcdebinldmblkaaGreatDoor
open Go.ChangeShapes Go.WideShapes Go.ChangeAt Go.RowKit
set_option maxHeartbeats 1000000 in
theorem l01Dec_all (n : Int) (w : World) (h0 : -9223372036854775808 ≤ n) (h1 : n ≤ 9223372036854775807) :
    Calls Tryz.prog 33 #[.int .i64 n] w fun e w' => e = .returned (.string (strL (Lib.itoa n))) ∧ Below w.heap.size w w' := by
  by_cases hz : n = 0
  · subst hz
    go_enter Tryz.func33, Tryz.ntmps33
    go_wp2
    go_ret
    exact ⟨ret_str (by rw [show Lib.itoa 0 = [48] by unfold Lib.itoa; rw [if_neg (by omega)]; exact Lib.decDigits_one (by omega)]; rfl), Below.refl _ _⟩
  · have hz' : (n == 0) = false := by simpa using hz
    rcases Int.lt_or_le n 0 with hneg | hpos
    · obtain ⟨k0, rfl⟩ : ∃ k0 : Nat, n = -(k0 : Int) := ⟨n.natAbs, by omega⟩
      have hd : decide (-(k0 : Int) < 0) = true := by simpa using hneg
      have hk0 : 0 < k0 := by omega
      go_enter Tryz.func33, Tryz.ntmps33
      go_wp2
      go_loopw [0, 4] (fun kv o wr => ∃ (f j : Nat) (acc : ByteArray), kv = .int .i64 (-(j : Int)) ∧ o = .string acc ∧ j < 10 ^ f ∧ j ≤ 9223372036854775808 ∧ acc.size + f ≤ 19 ∧ preD j ++ acc.data.toList = Lib.decDigits k0 ∧ Below w.heap.size w wr) (fun kv _ _ => (intOf kv).natAbs)
      case atStart => exact ⟨19, k0, ⟨#[]⟩, rfl, rfl, by omega, by omega, by decide, by unfold preD; rw [if_neg (by omega)]; simp, Below.refl _ _⟩
      case round =>
        obtain ⟨f, j, acc, rfl, rfl, hjf, hj, hac, hd, hb⟩ := hrel
        have H : Hid (j < 10 ^ f ∧ preD j ++ acc.data.toList = Lib.decDigits k0 ∧ Below w.heap.size w wr) := ⟨hjf, hd, hb⟩
        have hwz := hb.size
        have hacs : acc.size ≤ 19 := by omega
        clear hjf hd hb
        have hcv := conv1 wr
        by_cases hp : 0 < j
        · have hp' : (-(j : Int) == 0) = false := by simp; omega
          obtain ⟨f, rfl⟩ : ∃ f', f = f' + 1 := by
            cases f with
            | zero =>
              have := H.out.1
              simp at this
              omega
            | succ f => exact ⟨f, rfl⟩
          have hlt : j / 10 < 10 ^ f := by
            have := H.out.1
            rw [Nat.pow_succ] at this
            omega
          by_cases hm : (j : Int) % 10 = 0
          · have hsn := one_size 48
            have hsn0 := one_size (48 + -((j : Int) % 10))
            have hm1 : ¬ 0 < (j : Int) % 10 := by omega
            go_wp2
            go_roundw
            case rel =>
              refine ⟨f, j / 10, _, by first | rfl | simp, rfl, hlt, by omega, by rw [ByteArray.size_append, one_size]; omega, preD_next hp H.out.2.1 (one_zero hm), H.out.2.2.alloc hwz _⟩
            case measure => simp [intOf]; omega
          · have hsn := one_size (48 + (j : Int) % 10)
            have hm1 : 0 < (j : Int) % 10 := by omega
            go_wp2
            go_roundw
            case rel =>
              refine ⟨f, j / 10, _, by first | rfl | simp, rfl, hlt, by omega, by rw [ByteArray.size_append, one_size]; omega, preD_next hp H.out.2.1 (one_mod j), H.out.2.2.alloc hwz _⟩
            case measure => simp [intOf]; omega
        · obtain rfl : j = 0 := by omega
          have hd := H.out.2.1
          have HD : Hid (acc.data.toList = Lib.decDigits k0) := by
            have e : preD 0 = [] := rfl
            rw [e, List.nil_append] at hd
            exact hd
          clear hd
          go_wp2
          go_ret
          exact ⟨ret_str (itoa_neg hk0 HD.out), H.out.2.2⟩
    · obtain ⟨k0, rfl⟩ : ∃ k0 : Nat, n = (k0 : Int) := ⟨n.toNat, by omega⟩
      have hd : decide ((k0 : Int) < 0) = false := by simp
      have hk0 : 0 < k0 := by omega
      go_enter Tryz.func33, Tryz.ntmps33
      go_wp2
      go_loopw [0, 4] (fun kv o wr => ∃ (f j : Nat) (acc : ByteArray), kv = .int .i64 ((j : Int)) ∧ o = .string acc ∧ j < 10 ^ f ∧ j ≤ 9223372036854775807 ∧ acc.size + f ≤ 19 ∧ preD j ++ acc.data.toList = Lib.decDigits k0 ∧ Below w.heap.size w wr) (fun kv _ _ => (intOf kv).natAbs)
      case atStart => exact ⟨19, k0, ⟨#[]⟩, rfl, rfl, by omega, by omega, by decide, by unfold preD; rw [if_neg (by omega)]; simp, Below.refl _ _⟩
      case round =>
        obtain ⟨f, j, acc, rfl, rfl, hjf, hj, hac, hdd, hb⟩ := hrel
        have H : Hid (j < 10 ^ f ∧ preD j ++ acc.data.toList = Lib.decDigits k0 ∧ Below w.heap.size w wr) := ⟨hjf, hdd, hb⟩
        have hwz := hb.size
        have hacs : acc.size ≤ 19 := by omega
        clear hjf hdd hb
        have hk1 : k0 ≤ 9223372036854775807 := by omega
        clear h0 h1 hz hz' hd hpos
        have hcv := conv1 wr
        by_cases hp : 0 < j
        · have hp' : (0 : Int) < (j : Int) := by omega
          obtain ⟨f, rfl⟩ : ∃ f', f = f' + 1 := by
            cases f with
            | zero =>
              have := H.out.1
              simp at this
              omega
            | succ f => exact ⟨f, rfl⟩
          have hlt : j / 10 < 10 ^ f := by
            have := H.out.1
            rw [Nat.pow_succ] at this
            omega
          · have hsn := one_size (48 + (j : Int) % 10)
            go_wp2
            go_roundw
            case rel =>
              refine ⟨f, j / 10, _, by first | rfl | simp, rfl, hlt, by omega, by rw [ByteArray.size_append, one_size]; omega, preD_next hp H.out.2.1 (one_mod j), H.out.2.2.alloc hwz _⟩
            case measure => simp [intOf]; omega
        · obtain rfl : j = 0 := by omega
          have hd := H.out.2.1
          have HD : Hid (acc.data.toList = Lib.decDigits k0) := by
            have e : preD 0 = [] := rfl
            rw [e, List.nil_append] at hd
            exact hd
          clear hd
          go_wp2
          go_ret
          exact ⟨ret_str (itoa_pos HD.out), H.out.2.2⟩
theorem decG_any (n : Int) (w : World) (h0 : -9223372036854775808 ≤ n) (h1 : n ≤ 9223372036854775807) :
    Calls Tryz.prog 33 #[.int .i64 n] w fun e w' => e = .returned (.string (decS n)) ∧ Below w.heap.size w w' := l01Dec_all n w h0 h1
theorem decS_long (n : Int) (h0 : -9223372036854775808 ≤ n) (h1 : n ≤ 9223372036854775807) : 1 ≤ (decS n).size ∧ (decS n).size ≤ 20 := by
  have hs : (decS n).size = (Lib.itoa n).length := by
    show (decS n).data.size = _
    simp [decS]
  rw [hs]
  unfold Lib.itoa
  split
  · have := dec_len 18 n.natAbs (by omega)
    simp only [List.length_cons]
    omega
  · have := dec_len 18 n.toNat (by omega)
    have h2 : (Lib.decDigits n.toNat).length ≠ 0 := fun e => dec_ne _ (List.eq_nil_of_length_eq_zero e)
    omega
end Go.Proofs.YtcdebinldmblkaaGreatDoor
