/- Texts of ours put together: ShFmt, FmtI, DecG, PiA. -/
import Derived.Shelf.LaysM
import Derived.Shelf.Strconv.Itoa4
import Derived.Test.YtgecdmpokahahaaGreatDoorRows
import Derived.Test.YtgecdmpokahahaaGreatDoorG10
import Derived.Test.YtgecdmpokahahaaGreatDoorG00
import Derived.Lib.LaidTab
import Derived.Lib.AppendIntMem
import Derived.Test.YtgecdmpokahahaaGreatDoorG02
import Derived.Test.YtgecdmpokahahaaGreatDoorG01
namespace Go.Proofs.YtgecdmpokahahaaGreatDoor
open Go.Shelf Go.RowKit Go.Lib
def laysM173_ren : Go.Shelf.Ren := ⟨fun | 173 => 85 | 246 => 95 | 283 => 104 | 284 => 105 | 285 => 106 | 286 => 107 | 129 => 128 | 317 => 127 | 318 => 129 | 319 => 130 | 320 => 131 | 337 => 146 | 338 => 147 | n => n, fun | 2 => 2 | 3 => 3 | 9 => 9 | 4 => 4 | 171 => 138 | 0 => 0 | 53 => 139 | 37 => 87 | 5 => 5 | 173 => 142 | 212 => 161 | 51 => 162 | 20 => 20 | 213 => 163 | 46 => 155 | 232 => 182 | 233 => 183 | n => n, fun | 17 => 2 | 18 => 5 | 19 => 6 | n => n⟩
theorem laysM173 : Go.Proofs.LaysM.n173 Tryz.prog laysM173_ren := {
  mixed := by kernel_rfl
  f129 := Tryz.func128.trans (congrArg some (by kernel_rfl))
  f173 := Tryz.func85.trans (congrArg some (by kernel_rfl))
  f246 := Tryz.func95.trans (congrArg some (by kernel_rfl))
  f283 := Tryz.func104.trans (congrArg some (by kernel_rfl))
  f284 := Tryz.func105.trans (congrArg some (by kernel_rfl))
  f285 := Tryz.func106.trans (congrArg some (by kernel_rfl))
  f286 := Tryz.func107.trans (congrArg some (by kernel_rfl))
  f317 := Tryz.func127.trans (congrArg some (by kernel_rfl))
  f318 := Tryz.func129.trans (congrArg some (by kernel_rfl))
  f319 := Tryz.func130.trans (congrArg some (by kernel_rfl))
  f320 := Tryz.func131.trans (congrArg some (by kernel_rfl))
  f337 := Tryz.func146.trans (congrArg some (by kernel_rfl))
  f338 := Tryz.func147.trans (congrArg some (by kernel_rfl))
  t0 := Tryz.underlying0
  a0 := Tryz.isAgg0
  z0 := Tryz.sizeOf0
  v0 := Tryz.zeroValue0
  t2 := Tryz.underlying2
  a2 := Tryz.isAgg2
  z2 := Tryz.sizeOf2
  v2 := Tryz.zeroValue2
  t3 := Tryz.underlying3
  a3 := Tryz.isAgg3
  z3 := Tryz.sizeOf3
  v3 := Tryz.zeroValue3
  t4 := Tryz.underlying4
  a4 := Tryz.isAgg4
  z4 := Tryz.sizeOf4
  v4 := Tryz.zeroValue4
  t5 := Tryz.underlying5
  a5 := Tryz.isAgg5
  z5 := Tryz.sizeOf5
  v5 := Tryz.zeroValue5
  t9 := Tryz.underlying9
  a9 := Tryz.isAgg9
  z9 := Tryz.sizeOf9
  v9 := Tryz.zeroValue9
  t20 := Tryz.underlying20
  a20 := Tryz.isAgg20
  z20 := Tryz.sizeOf20
  v20 := Tryz.zeroValue20
  t37 := Tryz.underlying87
  a37 := Tryz.isAgg87
  z37 := Tryz.sizeOf87
  v37 := Tryz.zeroValue87
  t46 := Tryz.underlying155
  a46 := Tryz.isAgg155
  z46 := Tryz.sizeOf155
  v46 := Tryz.zeroValue155
  t51 := Tryz.underlying162
  a51 := Tryz.isAgg162
  z51 := Tryz.sizeOf162
  v51 := Tryz.zeroValue162
  t53 := Tryz.underlying139
  a53 := Tryz.isAgg139
  z53 := Tryz.sizeOf139
  v53 := Tryz.zeroValue139
  t171 := Tryz.underlying138
  a171 := Tryz.isAgg138
  z171 := Tryz.sizeOf138
  v171 := Tryz.zeroValue138
  t173 := Tryz.underlying142
  a173 := Tryz.isAgg142
  z173 := Tryz.sizeOf142
  v173 := Tryz.zeroValue142
  t212 := Tryz.underlying161
  a212 := Tryz.isAgg161
  z212 := Tryz.sizeOf161
  v212 := Tryz.zeroValue161
  t213 := Tryz.underlying163
  a213 := Tryz.isAgg163
  z213 := Tryz.sizeOf163
  t232 := Tryz.underlying182
  a232 := Tryz.isAgg182
  z232 := Tryz.sizeOf182
  v232 := Tryz.zeroValue182
  t233 := Tryz.underlying183
  a233 := Tryz.isAgg183
  z233 := Tryz.sizeOf183
  v233 := Tryz.zeroValue183
  g17 := by kernel_rfl
  g18 := by kernel_rfl
  g19 := by kernel_rfl
  i0 := by kernel_rfl
  i2 := by kernel_rfl
  i3 := by kernel_rfl
  i4 := by kernel_rfl
  i5 := by kernel_rfl
  i9 := by kernel_rfl
  i20 := by kernel_rfl
  i37 := by kernel_rfl
  i46 := by kernel_rfl
  i51 := by kernel_rfl
  i53 := by kernel_rfl
  i171 := by kernel_rfl
  i173 := by kernel_rfl
  i212 := by kernel_rfl
  i232 := by kernel_rfl
  i233 := by kernel_rfl
  m17 := by kernel_rfl
  m18 := by kernel_rfl
  m19 := by kernel_rfl }
end Go.Proofs.YtgecdmpokahahaaGreatDoor
namespace Go.Proofs.YtgecdmpokahahaaGreatDoor
open Go.ChangeShapes Go.WideShapes Go.ChangeAt Go.RowKit
/-- The table of tens lies in its variable. -/
def TabOk (w : World) : Prop := Lib.TabIs Tryz.prog w "internal/strconv.uint64pow10" .u64 Lib.pow10Tab
theorem gPow : Tryz.prog.globalNamed "internal/strconv.uint64pow10" = some 2 := by kernel_rfl
theorem TabOk.lt {w : World} (h : TabOk w) : 2 < w.heap.size := by
  unfold TabOk Lib.TabIs World.var? at h
  rw [gPow] at h
  simp only [Option.bind_some] at h
  rcases Nat.lt_or_ge 2 w.heap.size with q | q
  · exact q
  · rw [Array.getElem?_eq_none q] at h
    cases h
theorem TabOk.of {w w' : World} (h : TabOk w) (hb : w'.heap[2]? = w.heap[2]?) : TabOk w' := by
  unfold TabOk Lib.TabIs World.var? at h ⊢
  rw [gPow] at h ⊢
  simp only [Option.bind_some] at h ⊢
  rw [hb]
  exact h
theorem TabOk.below {w w' : World} (h : TabOk w) (hb : Below w.heap.size w w') : TabOk w' := h.of (hb.block _ h.lt)
theorem fmt_any (n : Int) (w : World) (h0 : -9223372036854775808 ≤ n) (h1 : n ≤ 9223372036854775807) (ht : TabOk w) : Calls Tryz.prog 85 #[.int .i64 n, .int .i64 10] w fun e w' => e = .returned (.string (decS n)) ∧ Below w.heap.size w w' :=
  (Any.strconv_FormatInt_10 laysM173 n h0 h1 w ht).mono fun _ _ ⟨he, k, os, hw⟩ => ⟨he, by rw [hw]; exact Lib.below_grow _ _ (Nat.le_refl _) k os⟩
end Go.Proofs.YtgecdmpokahahaaGreatDoor
namespace Go.Proofs.YtgecdmpokahahaaGreatDoor
open Go.ChangeShapes Go.WideShapes Go.ChangeAt Go.RowKit
set_option maxHeartbeats 1000000 in
theorem l01Dec_all (n : Int) (w : World) (h0 : -9223372036854775808 ≤ n) (h1 : n ≤ 9223372036854775807) :
    Calls Tryz.prog 40 #[.int .i64 n] w fun e w' => e = .returned (.string (strL (Lib.itoa n))) ∧ Below w.heap.size w w' := by
  by_cases hz : n = 0
  · subst hz
    go_enter Tryz.func40, Tryz.ntmps40
    go_wp2
    go_ret
    exact ⟨ret_str (by rw [show Lib.itoa 0 = [48] by unfold Lib.itoa; rw [if_neg (by omega)]; exact Lib.decDigits_one (by omega)]; rfl), Below.refl _ _⟩
  · have hz' : (n == 0) = false := by simpa using hz
    rcases Int.lt_or_le n 0 with hneg | hpos
    · obtain ⟨k0, rfl⟩ : ∃ k0 : Nat, n = -(k0 : Int) := ⟨n.natAbs, by omega⟩
      have hd : decide (-(k0 : Int) < 0) = true := by simpa using hneg
      have hk0 : 0 < k0 := by omega
      go_enter Tryz.func40, Tryz.ntmps40
      go_wp2
      go_loopw [0, 4] (fun kv o wr => ∃ (f j : Nat) (acc : ByteArray), kv = .int .i64 (-(j : Int)) ∧ o = .string acc ∧ j < 10 ^ f ∧ j ≤ 9223372036854775808 ∧ acc.size + f ≤ 19 ∧ preD j ++ acc.data.toList = Lib.decDigits k0 ∧ Below w.heap.size w wr) (fun kv _ _ => (intOf kv).natAbs)
      case atStart => exact ⟨19, k0, ⟨#[]⟩, rfl, rfl, by omega, by omega, by decide, by unfold preD; rw [if_neg (by omega)]; simp, Below.refl _ _⟩
      case round =>
        obtain ⟨f, j, acc, rfl, rfl, hjf, hj, hac, hd, hb⟩ := hrel
        have H : Hid (j < 10 ^ f ∧ preD j ++ acc.data.toList = Lib.decDigits k0 ∧ Below w.heap.size w wr) := ⟨hjf, hd, hb⟩
        have hwz := hb.size
        have hacs : acc.size ≤ 19 := by omega
        clear hjf hd hb
        have hcv := conv1 wr
        by_cases hp : 0 < j
        · have hp' : (-(j : Int) == 0) = false := by simp; omega
          obtain ⟨f, rfl⟩ : ∃ f', f = f' + 1 := by
            cases f with
            | zero =>
              have := H.out.1
              simp at this
              omega
            | succ f => exact ⟨f, rfl⟩
          have hlt : j / 10 < 10 ^ f := by
            have := H.out.1
            rw [Nat.pow_succ] at this
            omega
          by_cases hm : (j : Int) % 10 = 0
          · have hsn := one_size 48
            have hsn0 := one_size (48 + -((j : Int) % 10))
            have hm1 : ¬ 0 < (j : Int) % 10 := by omega
            go_wp2
            go_roundw
            case rel =>
              refine ⟨f, j / 10, _, by first | rfl | simp, rfl, hlt, by omega, by rw [ByteArray.size_append, one_size]; omega, preD_next hp H.out.2.1 (one_zero hm), H.out.2.2.alloc hwz _⟩
            case measure => simp [intOf]; omega
          · have hsn := one_size (48 + (j : Int) % 10)
            have hm1 : 0 < (j : Int) % 10 := by omega
            go_wp2
            go_roundw
            case rel =>
              refine ⟨f, j / 10, _, by first | rfl | simp, rfl, hlt, by omega, by rw [ByteArray.size_append, one_size]; omega, preD_next hp H.out.2.1 (one_mod j), H.out.2.2.alloc hwz _⟩
            case measure => simp [intOf]; omega
        · obtain rfl : j = 0 := by omega
          have hd := H.out.2.1
          have HD : Hid (acc.data.toList = Lib.decDigits k0) := by
            have e : preD 0 = [] := rfl
            rw [e, List.nil_append] at hd
            exact hd
          clear hd
          go_wp2
          go_ret
          exact ⟨ret_str (itoa_neg hk0 HD.out), H.out.2.2⟩
    · obtain ⟨k0, rfl⟩ : ∃ k0 : Nat, n = (k0 : Int) := ⟨n.toNat, by omega⟩
      have hd : decide ((k0 : Int) < 0) = false := by simp
      have hk0 : 0 < k0 := by omega
      go_enter Tryz.func40, Tryz.ntmps40
      go_wp2
      go_loopw [0, 4] (fun kv o wr => ∃ (f j : Nat) (acc : ByteArray), kv = .int .i64 ((j : Int)) ∧ o = .string acc ∧ j < 10 ^ f ∧ j ≤ 9223372036854775807 ∧ acc.size + f ≤ 19 ∧ preD j ++ acc.data.toList = Lib.decDigits k0 ∧ Below w.heap.size w wr) (fun kv _ _ => (intOf kv).natAbs)
      case atStart => exact ⟨19, k0, ⟨#[]⟩, rfl, rfl, by omega, by omega, by decide, by unfold preD; rw [if_neg (by omega)]; simp, Below.refl _ _⟩
      case round =>
        obtain ⟨f, j, acc, rfl, rfl, hjf, hj, hac, hdd, hb⟩ := hrel
        have H : Hid (j < 10 ^ f ∧ preD j ++ acc.data.toList = Lib.decDigits k0 ∧ Below w.heap.size w wr) := ⟨hjf, hdd, hb⟩
        have hwz := hb.size
        have hacs : acc.size ≤ 19 := by omega
        clear hjf hdd hb
        have hk1 : k0 ≤ 9223372036854775807 := by omega
        clear h0 h1 hz hz' hd hpos
        have hcv := conv1 wr
        by_cases hp : 0 < j
        · have hp' : (0 : Int) < (j : Int) := by omega
          obtain ⟨f, rfl⟩ : ∃ f', f = f' + 1 := by
            cases f with
            | zero =>
              have := H.out.1
              simp at this
              omega
            | succ f => exact ⟨f, rfl⟩
          have hlt : j / 10 < 10 ^ f := by
            have := H.out.1
            rw [Nat.pow_succ] at this
            omega
          · have hsn := one_size (48 + (j : Int) % 10)
            go_wp2
            go_roundw
            case rel =>
              refine ⟨f, j / 10, _, by first | rfl | simp, rfl, hlt, by omega, by rw [ByteArray.size_append, one_size]; omega, preD_next hp H.out.2.1 (one_mod j), H.out.2.2.alloc hwz _⟩
            case measure => simp [intOf]; omega
        · obtain rfl : j = 0 := by omega
          have hd := H.out.2.1
          have HD : Hid (acc.data.toList = Lib.decDigits k0) := by
            have e : preD 0 = [] := rfl
            rw [e, List.nil_append] at hd
            exact hd
          clear hd
          go_wp2
          go_ret
          exact ⟨ret_str (itoa_pos HD.out), H.out.2.2⟩
theorem decG_any (n : Int) (w : World) (h0 : -9223372036854775808 ≤ n) (h1 : n ≤ 9223372036854775807) :
    Calls Tryz.prog 40 #[.int .i64 n] w fun e w' => e = .returned (.string (decS n)) ∧ Below w.heap.size w w' := l01Dec_all n w h0 h1
theorem decS_long (n : Int) (h0 : -9223372036854775808 ≤ n) (h1 : n ≤ 9223372036854775807) : 1 ≤ (decS n).size ∧ (decS n).size ≤ 20 := by
  have hs : (decS n).size = (Lib.itoa n).length := by
    show (decS n).data.size = _
    simp [decS]
  rw [hs]
  unfold Lib.itoa
  split
  · have := dec_len 18 n.natAbs (by omega)
    simp only [List.length_cons]
    omega
  · have := dec_len 18 n.toNat (by omega)
    have h2 : (Lib.decDigits n.toNat).length ≠ 0 := fun e => dec_ne _ (List.eq_nil_of_length_eq_zero e)
    omega
end Go.Proofs.YtgecdmpokahahaaGreatDoor
namespace Go.Proofs.YtgecdmpokahahaaGreatDoor
open Go.ChangeShapes Go.WideShapes Go.ChangeAt Go.RowKit
def i64B (n : Int) : Prop := -9223372036854775808 ≤ n ∧ n ≤ 9223372036854775807
set_option maxHeartbeats 1000000 in
theorem digitsOf_any (n : Int) (w : World) (h : i64B n) (ht : TabOk w) : Calls Tryz.prog 77 #[.int .i64 n] w fun e w' => e = .returned (.string (decS n)) ∧ Below w.heap.size w w' := by
  go_enter Tryz.func77, Tryz.ntmps77
  go_wp2_with fail
  refine (fmt_any n _ h.1 h.2 ht).mono ?_
  rintro e w1 ⟨rfl, hb⟩
  have HB : Hid (Below w.heap.size w w1) := hb
  clear hb
  go_wp2
  go_ret
  exact ⟨rfl, HB.out⟩
/-- A number that is missing if it is nought. -/
def unlN (n : Int) : ByteArray := if n = 0 then eT else decS n
theorem unlN_z : unlN 0 = ⟨#[]⟩ := rfl
theorem unlN_n {n : Int} (h : n ≠ 0) : unlN n = decS n := by unfold unlN; rw [if_neg h]
set_option maxHeartbeats 1000000 in
theorem unless_any (n : Int) (w : World) (h : i64B n) (ht : TabOk w) : Calls Tryz.prog 174 #[.int .i64 n] w fun e w' => e = .returned (.string (unlN n)) ∧ Below w.heap.size w w' := by
  by_cases hz : n = 0
  · subst hz
    go_enter Tryz.func174, Tryz.ntmps174
    go_wp2
    go_ret
    exact ⟨rfl, Below.refl _ _⟩
  · have hz' : (n == 0) = false := by simpa using hz
    have HU : Hid (unlN n = decS n) := unlN_n hz
    go_enter Tryz.func174, Tryz.ntmps174
    go_wp2_with fail
    refine (digitsOf_any n _ h ht).mono ?_
    rintro e w1 ⟨rfl, hb⟩
    have HB : Hid (Below w.heap.size w w1) := hb
    clear hb
    go_wp2
    go_ret
    exact ⟨by rw [HU.out]; rfl, HB.out⟩
theorem parse_e : Lib.parseIntB 64 [] = .syntax := by rfl
set_option maxHeartbeats 1000000 in
theorem numberOf_any (t : ByteArray) (n : Int) (w : World) (hs : t.size ≤ 281474976710656) (hE : ErrsAt w) (h : (numT t.data.toList = some n ∧ i64B n) ∨ (t = eT ∧ n = 0)) : Calls Tryz.prog 84 #[.string t] w fun e w' => e = .returned (.int .i64 n) ∧ Below w.heap.size w w' := by
  go_enter Tryz.func84, Tryz.ntmps84
  go_wp2_with fail
  refine (parse_any t w hs hE).mono ?_
  rintro e w1 ⟨hb, hv⟩
  have HB : Hid (Below w.heap.size w w1) := hb
  clear hb
  rcases hv with ⟨v, hv, rfl⟩ | ⟨m, T, p, hv, rfl⟩
  · have e1 : v = n := by
      rcases h with ⟨h1, h2⟩ | ⟨rfl, _⟩
      · rcases numT_parse h1 with ⟨_, _, q⟩ | ⟨q, _⟩
        · rw [q] at hv; cases hv; rfl
        · unfold i64B at h2; omega
      · have : eT.data.toList = [] := rfl
        rw [this, parse_e] at hv
        cases hv
    subst e1
    clear hv h
    go_wp2
    go_ret
    exact ⟨rfl, HB.out⟩
  · have e1 : n = 0 := by
      rcases h with ⟨h1, h2⟩ | ⟨_, q⟩
      · rcases numT_parse h1 with ⟨_, _, q⟩ | ⟨q, _⟩
        · exact absurd q (hv n)
        · unfold i64B at h2; omega
      · exact q
    subst e1
    clear hv h
    go_wp2
    go_ret
    exact ⟨rfl, HB.out⟩
/-- The type that stands behind a kind. -/
def tyK (k : Int) : Nat := if k = 1 then 110 else if k = 2 then 111 else if k = 3 then 112 else if k = 4 then 114 else if k = 5 then 115 else if k = 6 then 116 else 117
set_option maxHeartbeats 1000000 in
theorem paperKindOf_any (k : Int) (w : World) (hk : 1 ≤ k ∧ k ≤ 7) : Calls Tryz.prog 61 #[.int .i64 k] w fun e w' => e = .returned (.iface (tyK k) (.agg #[])) ∧ w' = w := by
  obtain rfl | rfl | rfl | rfl | rfl | rfl | rfl : k = 1 ∨ k = 2 ∨ k = 3 ∨ k = 4 ∨ k = 5 ∨ k = 6 ∨ k = 7 := by omega
  all_goals
    go_enter Tryz.func61, Tryz.ntmps61
    go_wp2
    go_ret
    exact ⟨rfl, rfl⟩
set_option maxRecDepth 100000 in
set_option maxHeartbeats 4000000 in
theorem rulesOf_any (k : Int) (w : World) (hk : 1 ≤ k ∧ k ≤ 7) : Calls Tryz.prog 75 #[.iface (tyK k) (.agg #[])] w fun e w' => e = .returned (.tuple #[.bool (risB k), .bool (oncB k)]) ∧ w' = w := by
  obtain rfl | rfl | rfl | rfl | rfl | rfl | rfl : k = 1 ∨ k = 2 ∨ k = 3 ∨ k = 4 ∨ k = 5 ∨ k = 6 ∨ k = 7 := by omega
  · show Calls Tryz.prog 75 #[.iface 110 (.agg #[])] w _
    have h_order : ∀ w, (Instr.typeAssert (.iface 110 (.agg #[])) 82 110 true).run Tryz.prog w = .ok (.tuple #[.agg #[], .bool true]) w := fun _ => by kernel_rfl
    have h_answer : ∀ w, (Instr.typeAssert (.iface 110 (.agg #[])) 82 111 true).run Tryz.prog w = .ok (.tuple #[.agg #[], .bool false]) w := fun _ => by kernel_rfl
    have h_sent : ∀ w, (Instr.typeAssert (.iface 110 (.agg #[])) 82 112 true).run Tryz.prog w = .ok (.tuple #[.agg #[], .bool false]) w := fun _ => by kernel_rfl
    have h_got : ∀ w, (Instr.typeAssert (.iface 110 (.agg #[])) 82 114 true).run Tryz.prog w = .ok (.tuple #[.agg #[], .bool false]) w := fun _ => by kernel_rfl
    have h_stock : ∀ w, (Instr.typeAssert (.iface 110 (.agg #[])) 82 115 true).run Tryz.prog w = .ok (.tuple #[.agg #[], .bool false]) w := fun _ => by kernel_rfl
    have h_adjust : ∀ w, (Instr.typeAssert (.iface 110 (.agg #[])) 82 116 true).run Tryz.prog w = .ok (.tuple #[.agg #[], .bool false]) w := fun _ => by kernel_rfl
    go_enter Tryz.func75, Tryz.ntmps75
    go_wp2
    go_ret2
    exact ⟨rfl, rfl⟩
  · show Calls Tryz.prog 75 #[.iface 111 (.agg #[])] w _
    have h_order : ∀ w, (Instr.typeAssert (.iface 111 (.agg #[])) 82 110 true).run Tryz.prog w = .ok (.tuple #[.agg #[], .bool false]) w := fun _ => by kernel_rfl
    have h_answer : ∀ w, (Instr.typeAssert (.iface 111 (.agg #[])) 82 111 true).run Tryz.prog w = .ok (.tuple #[.agg #[], .bool true]) w := fun _ => by kernel_rfl
    have h_sent : ∀ w, (Instr.typeAssert (.iface 111 (.agg #[])) 82 112 true).run Tryz.prog w = .ok (.tuple #[.agg #[], .bool false]) w := fun _ => by kernel_rfl
    have h_got : ∀ w, (Instr.typeAssert (.iface 111 (.agg #[])) 82 114 true).run Tryz.prog w = .ok (.tuple #[.agg #[], .bool false]) w := fun _ => by kernel_rfl
    have h_stock : ∀ w, (Instr.typeAssert (.iface 111 (.agg #[])) 82 115 true).run Tryz.prog w = .ok (.tuple #[.agg #[], .bool false]) w := fun _ => by kernel_rfl
    have h_adjust : ∀ w, (Instr.typeAssert (.iface 111 (.agg #[])) 82 116 true).run Tryz.prog w = .ok (.tuple #[.agg #[], .bool false]) w := fun _ => by kernel_rfl
    go_enter Tryz.func75, Tryz.ntmps75
    go_wp2
    go_ret2
    exact ⟨rfl, rfl⟩
  · show Calls Tryz.prog 75 #[.iface 112 (.agg #[])] w _
    have h_order : ∀ w, (Instr.typeAssert (.iface 112 (.agg #[])) 82 110 true).run Tryz.prog w = .ok (.tuple #[.agg #[], .bool false]) w := fun _ => by kernel_rfl
    have h_answer : ∀ w, (Instr.typeAssert (.iface 112 (.agg #[])) 82 111 true).run Tryz.prog w = .ok (.tuple #[.agg #[], .bool false]) w := fun _ => by kernel_rfl
    have h_sent : ∀ w, (Instr.typeAssert (.iface 112 (.agg #[])) 82 112 true).run Tryz.prog w = .ok (.tuple #[.agg #[], .bool true]) w := fun _ => by kernel_rfl
    have h_got : ∀ w, (Instr.typeAssert (.iface 112 (.agg #[])) 82 114 true).run Tryz.prog w = .ok (.tuple #[.agg #[], .bool false]) w := fun _ => by kernel_rfl
    have h_stock : ∀ w, (Instr.typeAssert (.iface 112 (.agg #[])) 82 115 true).run Tryz.prog w = .ok (.tuple #[.agg #[], .bool false]) w := fun _ => by kernel_rfl
    have h_adjust : ∀ w, (Instr.typeAssert (.iface 112 (.agg #[])) 82 116 true).run Tryz.prog w = .ok (.tuple #[.agg #[], .bool false]) w := fun _ => by kernel_rfl
    go_enter Tryz.func75, Tryz.ntmps75
    go_wp2
    go_ret2
    exact ⟨rfl, rfl⟩
  · show Calls Tryz.prog 75 #[.iface 114 (.agg #[])] w _
    have h_order : ∀ w, (Instr.typeAssert (.iface 114 (.agg #[])) 82 110 true).run Tryz.prog w = .ok (.tuple #[.agg #[], .bool false]) w := fun _ => by kernel_rfl
    have h_answer : ∀ w, (Instr.typeAssert (.iface 114 (.agg #[])) 82 111 true).run Tryz.prog w = .ok (.tuple #[.agg #[], .bool false]) w := fun _ => by kernel_rfl
    have h_sent : ∀ w, (Instr.typeAssert (.iface 114 (.agg #[])) 82 112 true).run Tryz.prog w = .ok (.tuple #[.agg #[], .bool false]) w := fun _ => by kernel_rfl
    have h_got : ∀ w, (Instr.typeAssert (.iface 114 (.agg #[])) 82 114 true).run Tryz.prog w = .ok (.tuple #[.agg #[], .bool true]) w := fun _ => by kernel_rfl
    have h_stock : ∀ w, (Instr.typeAssert (.iface 114 (.agg #[])) 82 115 true).run Tryz.prog w = .ok (.tuple #[.agg #[], .bool false]) w := fun _ => by kernel_rfl
    have h_adjust : ∀ w, (Instr.typeAssert (.iface 114 (.agg #[])) 82 116 true).run Tryz.prog w = .ok (.tuple #[.agg #[], .bool false]) w := fun _ => by kernel_rfl
    go_enter Tryz.func75, Tryz.ntmps75
    go_wp2
    go_ret2
    exact ⟨rfl, rfl⟩
  · show Calls Tryz.prog 75 #[.iface 115 (.agg #[])] w _
    have h_order : ∀ w, (Instr.typeAssert (.iface 115 (.agg #[])) 82 110 true).run Tryz.prog w = .ok (.tuple #[.agg #[], .bool false]) w := fun _ => by kernel_rfl
    have h_answer : ∀ w, (Instr.typeAssert (.iface 115 (.agg #[])) 82 111 true).run Tryz.prog w = .ok (.tuple #[.agg #[], .bool false]) w := fun _ => by kernel_rfl
    have h_sent : ∀ w, (Instr.typeAssert (.iface 115 (.agg #[])) 82 112 true).run Tryz.prog w = .ok (.tuple #[.agg #[], .bool false]) w := fun _ => by kernel_rfl
    have h_got : ∀ w, (Instr.typeAssert (.iface 115 (.agg #[])) 82 114 true).run Tryz.prog w = .ok (.tuple #[.agg #[], .bool false]) w := fun _ => by kernel_rfl
    have h_stock : ∀ w, (Instr.typeAssert (.iface 115 (.agg #[])) 82 115 true).run Tryz.prog w = .ok (.tuple #[.agg #[], .bool true]) w := fun _ => by kernel_rfl
    have h_adjust : ∀ w, (Instr.typeAssert (.iface 115 (.agg #[])) 82 116 true).run Tryz.prog w = .ok (.tuple #[.agg #[], .bool false]) w := fun _ => by kernel_rfl
    go_enter Tryz.func75, Tryz.ntmps75
    go_wp2
    go_ret2
    exact ⟨rfl, rfl⟩
  · show Calls Tryz.prog 75 #[.iface 116 (.agg #[])] w _
    have h_order : ∀ w, (Instr.typeAssert (.iface 116 (.agg #[])) 82 110 true).run Tryz.prog w = .ok (.tuple #[.agg #[], .bool false]) w := fun _ => by kernel_rfl
    have h_answer : ∀ w, (Instr.typeAssert (.iface 116 (.agg #[])) 82 111 true).run Tryz.prog w = .ok (.tuple #[.agg #[], .bool false]) w := fun _ => by kernel_rfl
    have h_sent : ∀ w, (Instr.typeAssert (.iface 116 (.agg #[])) 82 112 true).run Tryz.prog w = .ok (.tuple #[.agg #[], .bool false]) w := fun _ => by kernel_rfl
    have h_got : ∀ w, (Instr.typeAssert (.iface 116 (.agg #[])) 82 114 true).run Tryz.prog w = .ok (.tuple #[.agg #[], .bool false]) w := fun _ => by kernel_rfl
    have h_stock : ∀ w, (Instr.typeAssert (.iface 116 (.agg #[])) 82 115 true).run Tryz.prog w = .ok (.tuple #[.agg #[], .bool false]) w := fun _ => by kernel_rfl
    have h_adjust : ∀ w, (Instr.typeAssert (.iface 116 (.agg #[])) 82 116 true).run Tryz.prog w = .ok (.tuple #[.agg #[], .bool true]) w := fun _ => by kernel_rfl
    go_enter Tryz.func75, Tryz.ntmps75
    go_wp2
    go_ret2
    exact ⟨rfl, rfl⟩
  · show Calls Tryz.prog 75 #[.iface 117 (.agg #[])] w _
    have h_order : ∀ w, (Instr.typeAssert (.iface 117 (.agg #[])) 82 110 true).run Tryz.prog w = .ok (.tuple #[.agg #[], .bool false]) w := fun _ => by kernel_rfl
    have h_answer : ∀ w, (Instr.typeAssert (.iface 117 (.agg #[])) 82 111 true).run Tryz.prog w = .ok (.tuple #[.agg #[], .bool false]) w := fun _ => by kernel_rfl
    have h_sent : ∀ w, (Instr.typeAssert (.iface 117 (.agg #[])) 82 112 true).run Tryz.prog w = .ok (.tuple #[.agg #[], .bool false]) w := fun _ => by kernel_rfl
    have h_got : ∀ w, (Instr.typeAssert (.iface 117 (.agg #[])) 82 114 true).run Tryz.prog w = .ok (.tuple #[.agg #[], .bool false]) w := fun _ => by kernel_rfl
    have h_stock : ∀ w, (Instr.typeAssert (.iface 117 (.agg #[])) 82 115 true).run Tryz.prog w = .ok (.tuple #[.agg #[], .bool false]) w := fun _ => by kernel_rfl
    have h_adjust : ∀ w, (Instr.typeAssert (.iface 117 (.agg #[])) 82 116 true).run Tryz.prog w = .ok (.tuple #[.agg #[], .bool false]) w := fun _ => by kernel_rfl
    go_enter Tryz.func75, Tryz.ntmps75
    go_wp2
    go_ret2
    exact ⟨rfl, rfl⟩
end Go.Proofs.YtgecdmpokahahaaGreatDoor
