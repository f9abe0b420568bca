/- Texts of ours put together: I64B, ShFmt, FmtI, DecG, PiA, PiB. -/
import Derived.Test.YtkaolpnbddjdpaaGreatDoorRows
import Derived.Shelf.LaysM
import Derived.Shelf.Strconv.Itoa4
import Derived.Test.YtkaolpnbddjdpaaGreatDoorG06
import Derived.Test.YtkaolpnbddjdpaaGreatDoorG00
import Derived.Lib.LaidTab
import Derived.Lib.AppendIntMem
import Derived.Test.YtkaolpnbddjdpaaGreatDoorG03
import Derived.Test.YtkaolpnbddjdpaaGreatDoorG02
import Derived.Deep.RegionHeld3
namespace Go.Proofs.YtkaolpnbddjdpaaGreatDoor
def i64B (n : Int) : Prop := -9223372036854775808 ≤ n ∧ n ≤ 9223372036854775807
end Go.Proofs.YtkaolpnbddjdpaaGreatDoor
namespace Go.Proofs.YtkaolpnbddjdpaaGreatDoor
open Go.Shelf Go.RowKit Go.Lib
def laysM173_ren : Go.Shelf.Ren := ⟨fun | 173 => 145 | 246 => 171 | 283 => 185 | 284 => 186 | 285 => 187 | 286 => 188 | 129 => 198 | 317 => 197 | 318 => 199 | 319 => 200 | 320 => 201 | 337 => 207 | 338 => 208 | n => n, fun | 2 => 2 | 3 => 3 | 9 => 9 | 4 => 4 | 171 => 226 | 0 => 0 | 53 => 77 | 37 => 22 | 5 => 5 | 173 => 229 | 212 => 237 | 51 => 238 | 20 => 20 | 213 => 239 | 46 => 86 | 232 => 254 | 233 => 255 | n => n, fun | 17 => 1 | 18 => 3 | 19 => 4 | n => n⟩
theorem laysM173 : Go.Proofs.LaysM.n173 Tryz.prog laysM173_ren := {
  mixed := by kernel_rfl
  f129 := Tryz.func198.trans (congrArg some (by kernel_rfl))
  f173 := Tryz.func145.trans (congrArg some (by kernel_rfl))
  f246 := Tryz.func171.trans (congrArg some (by kernel_rfl))
  f283 := Tryz.func185.trans (congrArg some (by kernel_rfl))
  f284 := Tryz.func186.trans (congrArg some (by kernel_rfl))
  f285 := Tryz.func187.trans (congrArg some (by kernel_rfl))
  f286 := Tryz.func188.trans (congrArg some (by kernel_rfl))
  f317 := Tryz.func197.trans (congrArg some (by kernel_rfl))
  f318 := Tryz.func199.trans (congrArg some (by kernel_rfl))
  f319 := Tryz.func200.trans (congrArg some (by kernel_rfl))
  f320 := Tryz.func201.trans (congrArg some (by kernel_rfl))
  f337 := Tryz.func207.trans (congrArg some (by kernel_rfl))
  f338 := Tryz.func208.trans (congrArg some (by kernel_rfl))
  t0 := Tryz.underlying0
  a0 := Tryz.isAgg0
  z0 := Tryz.sizeOf0
  v0 := Tryz.zeroValue0
  t2 := Tryz.underlying2
  a2 := Tryz.isAgg2
  z2 := Tryz.sizeOf2
  v2 := Tryz.zeroValue2
  t3 := Tryz.underlying3
  a3 := Tryz.isAgg3
  z3 := Tryz.sizeOf3
  v3 := Tryz.zeroValue3
  t4 := Tryz.underlying4
  a4 := Tryz.isAgg4
  z4 := Tryz.sizeOf4
  v4 := Tryz.zeroValue4
  t5 := Tryz.underlying5
  a5 := Tryz.isAgg5
  z5 := Tryz.sizeOf5
  v5 := Tryz.zeroValue5
  t9 := Tryz.underlying9
  a9 := Tryz.isAgg9
  z9 := Tryz.sizeOf9
  v9 := Tryz.zeroValue9
  t20 := Tryz.underlying20
  a20 := Tryz.isAgg20
  z20 := Tryz.sizeOf20
  v20 := Tryz.zeroValue20
  t37 := Tryz.underlying22
  a37 := Tryz.isAgg22
  z37 := Tryz.sizeOf22
  v37 := Tryz.zeroValue22
  t46 := Tryz.underlying86
  a46 := Tryz.isAgg86
  z46 := Tryz.sizeOf86
  v46 := Tryz.zeroValue86
  t51 := Tryz.underlying238
  a51 := Tryz.isAgg238
  z51 := Tryz.sizeOf238
  v51 := Tryz.zeroValue238
  t53 := Tryz.underlying77
  a53 := Tryz.isAgg77
  z53 := Tryz.sizeOf77
  v53 := Tryz.zeroValue77
  t171 := Tryz.underlying226
  a171 := Tryz.isAgg226
  z171 := Tryz.sizeOf226
  v171 := Tryz.zeroValue226
  t173 := Tryz.underlying229
  a173 := Tryz.isAgg229
  z173 := Tryz.sizeOf229
  v173 := Tryz.zeroValue229
  t212 := Tryz.underlying237
  a212 := Tryz.isAgg237
  z212 := Tryz.sizeOf237
  v212 := Tryz.zeroValue237
  t213 := Tryz.underlying239
  a213 := Tryz.isAgg239
  z213 := Tryz.sizeOf239
  t232 := Tryz.underlying254
  a232 := Tryz.isAgg254
  z232 := Tryz.sizeOf254
  v232 := Tryz.zeroValue254
  t233 := Tryz.underlying255
  a233 := Tryz.isAgg255
  z233 := Tryz.sizeOf255
  v233 := Tryz.zeroValue255
  g17 := by kernel_rfl
  g18 := by kernel_rfl
  g19 := by kernel_rfl
  i0 := by kernel_rfl
  i2 := by kernel_rfl
  i3 := by kernel_rfl
  i4 := by kernel_rfl
  i5 := by kernel_rfl
  i9 := by kernel_rfl
  i20 := by kernel_rfl
  i37 := by kernel_rfl
  i46 := by kernel_rfl
  i51 := by kernel_rfl
  i53 := by kernel_rfl
  i171 := by kernel_rfl
  i173 := by kernel_rfl
  i212 := by kernel_rfl
  i232 := by kernel_rfl
  i233 := by kernel_rfl
  m17 := by kernel_rfl
  m18 := by kernel_rfl
  m19 := by kernel_rfl }
end Go.Proofs.YtkaolpnbddjdpaaGreatDoor
namespace Go.Proofs.YtkaolpnbddjdpaaGreatDoor
open Go.ChangeShapes Go.WideShapes Go.ChangeAt Go.RowKit
/-- The table of tens lies in its variable. -/
def TabOk (w : World) : Prop := Lib.TabIs Tryz.prog w "internal/strconv.uint64pow10" .u64 Lib.pow10Tab
theorem gPow : Tryz.prog.globalNamed "internal/strconv.uint64pow10" = some 1 := by kernel_rfl
theorem TabOk.lt {w : World} (h : TabOk w) : 1 < w.heap.size := by
  unfold TabOk Lib.TabIs World.var? at h
  rw [gPow] at h
  simp only [Option.bind_some] at h
  rcases Nat.lt_or_ge 1 w.heap.size with q | q
  · exact q
  · rw [Array.getElem?_eq_none q] at h
    cases h
theorem TabOk.of {w w' : World} (h : TabOk w) (hb : w'.heap[1]? = w.heap[1]?) : TabOk w' := by
  unfold TabOk Lib.TabIs World.var? at h ⊢
  rw [gPow] at h ⊢
  simp only [Option.bind_some] at h ⊢
  rw [hb]
  exact h
theorem TabOk.below {w w' : World} (h : TabOk w) (hb : Below w.heap.size w w') : TabOk w' := h.of (hb.block _ h.lt)
theorem fmt_any (n : Int) (w : World) (h0 : -9223372036854775808 ≤ n) (h1 : n ≤ 9223372036854775807) (ht : TabOk w) : Calls Tryz.prog 145 #[.int .i64 n, .int .i64 10] w fun e w' => e = .returned (.string (decS n)) ∧ Below w.heap.size w w' :=
  (Any.strconv_FormatInt_10 laysM173 n h0 h1 w ht).mono fun _ _ ⟨he, k, os, hw⟩ => ⟨he, by rw [hw]; exact Lib.below_grow _ _ (Nat.le_refl _) k os⟩
end Go.Proofs.YtkaolpnbddjdpaaGreatDoor
namespace Go.Proofs.YtkaolpnbddjdpaaGreatDoor
open Go.ChangeShapes Go.WideShapes Go.ChangeAt Go.RowKit
set_option maxHeartbeats 1000000 in
theorem l01Dec_all (n : Int) (w : World) (h0 : -9223372036854775808 ≤ n) (h1 : n ≤ 9223372036854775807) :
    Calls Tryz.prog 64 #[.int .i64 n] w fun e w' => e = .returned (.string (strL (Lib.itoa n))) ∧ Below w.heap.size w w' := by
  by_cases hz : n = 0
  · subst hz
    go_enter Tryz.func64, Tryz.ntmps64
    go_wp2
    go_ret
    exact ⟨ret_str (by rw [show Lib.itoa 0 = [48] by unfold Lib.itoa; rw [if_neg (by omega)]; exact Lib.decDigits_one (by omega)]; rfl), Below.refl _ _⟩
  · have hz' : (n == 0) = false := by simpa using hz
    rcases Int.lt_or_le n 0 with hneg | hpos
    · obtain ⟨k0, rfl⟩ : ∃ k0 : Nat, n = -(k0 : Int) := ⟨n.natAbs, by omega⟩
      have hd : decide (-(k0 : Int) < 0) = true := by simpa using hneg
      have hk0 : 0 < k0 := by omega
      go_enter Tryz.func64, Tryz.ntmps64
      go_wp2
      go_loopw [0, 4] (fun kv o wr => ∃ (f j : Nat) (acc : ByteArray), kv = .int .i64 (-(j : Int)) ∧ o = .string acc ∧ j < 10 ^ f ∧ j ≤ 9223372036854775808 ∧ acc.size + f ≤ 19 ∧ preD j ++ acc.data.toList = Lib.decDigits k0 ∧ Below w.heap.size w wr) (fun kv _ _ => (intOf kv).natAbs)
      case atStart => exact ⟨19, k0, ⟨#[]⟩, rfl, rfl, by omega, by omega, by decide, by unfold preD; rw [if_neg (by omega)]; simp, Below.refl _ _⟩
      case round =>
        obtain ⟨f, j, acc, rfl, rfl, hjf, hj, hac, hd, hb⟩ := hrel
        have H : Hid (j < 10 ^ f ∧ preD j ++ acc.data.toList = Lib.decDigits k0 ∧ Below w.heap.size w wr) := ⟨hjf, hd, hb⟩
        have hwz := hb.size
        have hacs : acc.size ≤ 19 := by omega
        clear hjf hd hb
        have hcv := conv1 wr
        by_cases hp : 0 < j
        · have hp' : (-(j : Int) == 0) = false := by simp; omega
          obtain ⟨f, rfl⟩ : ∃ f', f = f' + 1 := by
            cases f with
            | zero =>
              have := H.out.1
              simp at this
              omega
            | succ f => exact ⟨f, rfl⟩
          have hlt : j / 10 < 10 ^ f := by
            have := H.out.1
            rw [Nat.pow_succ] at this
            omega
          by_cases hm : (j : Int) % 10 = 0
          · have hsn := one_size 48
            have hsn0 := one_size (48 + -((j : Int) % 10))
            have hm1 : ¬ 0 < (j : Int) % 10 := by omega
            go_wp2
            go_roundw
            case rel =>
              refine ⟨f, j / 10, _, by first | rfl | simp, rfl, hlt, by omega, by rw [ByteArray.size_append, one_size]; omega, preD_next hp H.out.2.1 (one_zero hm), H.out.2.2.alloc hwz _⟩
            case measure => simp [intOf]; omega
          · have hsn := one_size (48 + (j : Int) % 10)
            have hm1 : 0 < (j : Int) % 10 := by omega
            go_wp2
            go_roundw
            case rel =>
              refine ⟨f, j / 10, _, by first | rfl | simp, rfl, hlt, by omega, by rw [ByteArray.size_append, one_size]; omega, preD_next hp H.out.2.1 (one_mod j), H.out.2.2.alloc hwz _⟩
            case measure => simp [intOf]; omega
        · obtain rfl : j = 0 := by omega
          have hd := H.out.2.1
          have HD : Hid (acc.data.toList = Lib.decDigits k0) := by
            have e : preD 0 = [] := rfl
            rw [e, List.nil_append] at hd
            exact hd
          clear hd
          go_wp2
          go_ret
          exact ⟨ret_str (itoa_neg hk0 HD.out), H.out.2.2⟩
    · obtain ⟨k0, rfl⟩ : ∃ k0 : Nat, n = (k0 : Int) := ⟨n.toNat, by omega⟩
      have hd : decide ((k0 : Int) < 0) = false := by simp
      have hk0 : 0 < k0 := by omega
      go_enter Tryz.func64, Tryz.ntmps64
      go_wp2
      go_loopw [0, 4] (fun kv o wr => ∃ (f j : Nat) (acc : ByteArray), kv = .int .i64 ((j : Int)) ∧ o = .string acc ∧ j < 10 ^ f ∧ j ≤ 9223372036854775807 ∧ acc.size + f ≤ 19 ∧ preD j ++ acc.data.toList = Lib.decDigits k0 ∧ Below w.heap.size w wr) (fun kv _ _ => (intOf kv).natAbs)
      case atStart => exact ⟨19, k0, ⟨#[]⟩, rfl, rfl, by omega, by omega, by decide, by unfold preD; rw [if_neg (by omega)]; simp, Below.refl _ _⟩
      case round =>
        obtain ⟨f, j, acc, rfl, rfl, hjf, hj, hac, hdd, hb⟩ := hrel
        have H : Hid (j < 10 ^ f ∧ preD j ++ acc.data.toList = Lib.decDigits k0 ∧ Below w.heap.size w wr) := ⟨hjf, hdd, hb⟩
        have hwz := hb.size
        have hacs : acc.size ≤ 19 := by omega
        clear hjf hdd hb
        have hk1 : k0 ≤ 9223372036854775807 := by omega
        clear h0 h1 hz hz' hd hpos
        have hcv := conv1 wr
        by_cases hp : 0 < j
        · have hp' : (0 : Int) < (j : Int) := by omega
          obtain ⟨f, rfl⟩ : ∃ f', f = f' + 1 := by
            cases f with
            | zero =>
              have := H.out.1
              simp at this
              omega
            | succ f => exact ⟨f, rfl⟩
          have hlt : j / 10 < 10 ^ f := by
            have := H.out.1
            rw [Nat.pow_succ] at this
            omega
          · have hsn := one_size (48 + (j : Int) % 10)
            go_wp2
            go_roundw
            case rel =>
              refine ⟨f, j / 10, _, by first | rfl | simp, rfl, hlt, by omega, by rw [ByteArray.size_append, one_size]; omega, preD_next hp H.out.2.1 (one_mod j), H.out.2.2.alloc hwz _⟩
            case measure => simp [intOf]; omega
        · obtain rfl : j = 0 := by omega
          have hd := H.out.2.1
          have HD : Hid (acc.data.toList = Lib.decDigits k0) := by
            have e : preD 0 = [] := rfl
            rw [e, List.nil_append] at hd
            exact hd
          clear hd
          go_wp2
          go_ret
          exact ⟨ret_str (itoa_pos HD.out), H.out.2.2⟩
theorem decG_any (n : Int) (w : World) (h0 : -9223372036854775808 ≤ n) (h1 : n ≤ 9223372036854775807) :
    Calls Tryz.prog 64 #[.int .i64 n] w fun e w' => e = .returned (.string (decS n)) ∧ Below w.heap.size w w' := l01Dec_all n w h0 h1
theorem decS_long (n : Int) (h0 : -9223372036854775808 ≤ n) (h1 : n ≤ 9223372036854775807) : 1 ≤ (decS n).size ∧ (decS n).size ≤ 20 := by
  have hs : (decS n).size = (Lib.itoa n).length := by
    show (decS n).data.size = _
    simp [decS]
  rw [hs]
  unfold Lib.itoa
  split
  · have := dec_len 18 n.natAbs (by omega)
    simp only [List.length_cons]
    omega
  · have := dec_len 18 n.toNat (by omega)
    have h2 : (Lib.decDigits n.toNat).length ≠ 0 := fun e => dec_ne _ (List.eq_nil_of_length_eq_zero e)
    omega
end Go.Proofs.YtkaolpnbddjdpaaGreatDoor
namespace Go.Proofs.YtkaolpnbddjdpaaGreatDoor
open Go.ChangeShapes Go.WideShapes Go.ChangeAt Go.RowKit
set_option maxHeartbeats 1000000 in
theorem digitsOf_any (n : Int) (w : World) (h : i64B n) (ht : TabOk w) : Calls Tryz.prog 161 #[.int .i64 n] w fun e w' => e = .returned (.string (decS n)) ∧ Below w.heap.size w w' := by
  go_enter Tryz.func161, Tryz.ntmps161
  go_wp2_with fail
  refine (fmt_any n _ h.1 h.2 ht).mono ?_
  rintro e w1 ⟨rfl, hb⟩
  have HB : Hid (Below w.heap.size w w1) := hb
  clear hb
  go_wp2
  go_ret
  exact ⟨rfl, HB.out⟩
/-- A number that is missing if it is nought. -/
def unlN (n : Int) : ByteArray := if n = 0 then eT else decS n
theorem unlN_n {n : Int} (h : n ≠ 0) : unlN n = decS n := by unfold unlN; rw [if_neg h]
set_option maxHeartbeats 1000000 in
theorem unless_any (n : Int) (w : World) (h : i64B n) (ht : TabOk w) : Calls Tryz.prog 270 #[.int .i64 n] w fun e w' => e = .returned (.string (unlN n)) ∧ Below w.heap.size w w' := by
  by_cases hz : n = 0
  · subst hz
    go_enter Tryz.func270, Tryz.ntmps270
    go_wp2
    go_ret
    exact ⟨rfl, Below.refl _ _⟩
  · have hz' : (n == 0) = false := by simpa using hz
    have HU : Hid (unlN n = decS n) := unlN_n hz
    go_enter Tryz.func270, Tryz.ntmps270
    go_wp2_with fail
    refine (digitsOf_any n _ h ht).mono ?_
    rintro e w1 ⟨rfl, hb⟩
    have HB : Hid (Below w.heap.size w w1) := hb
    clear hb
    go_wp2
    go_ret
    exact ⟨by rw [HU.out]; rfl, HB.out⟩
theorem parse_e : Lib.parseIntB 64 [] = .syntax := by rfl
set_option maxHeartbeats 1000000 in
theorem numberOf_any (t : ByteArray) (n : Int) (w : World) (hs : t.size ≤ 281474976710656) (hE : ErrsAt w) (h : (numT t.data.toList = some n ∧ i64B n) ∨ (t = eT ∧ n = 0)) : Calls Tryz.prog 192 #[.string t] w fun e w' => e = .returned (.int .i64 n) ∧ Below w.heap.size w w' := by
  go_enter Tryz.func192, Tryz.ntmps192
  go_wp2_with fail
  refine (parse_any t w hs hE).mono ?_
  rintro e w1 ⟨hb, hv⟩
  have HB : Hid (Below w.heap.size w w1) := hb
  clear hb
  rcases hv with ⟨v, hv, rfl⟩ | ⟨m, T, p, hv, rfl⟩
  · have e1 : v = n := by
      rcases h with ⟨h1, h2⟩ | ⟨rfl, _⟩
      · rcases numT_parse h1 with ⟨_, _, q⟩ | ⟨q, _⟩
        · rw [q] at hv; cases hv; rfl
        · unfold i64B at h2; omega
      · have : eT.data.toList = [] := rfl
        rw [this, parse_e] at hv
        cases hv
    subst e1
    clear hv h
    go_wp2
    go_ret
    exact ⟨rfl, HB.out⟩
  · have e1 : n = 0 := by
      rcases h with ⟨h1, h2⟩ | ⟨_, q⟩
      · rcases numT_parse h1 with ⟨_, _, q⟩ | ⟨q, _⟩
        · exact absurd q (hv n)
        · unfold i64B at h2; omega
      · exact q
    subst e1
    clear hv h
    go_wp2
    go_ret
    exact ⟨rfl, HB.out⟩
/-- The type that stands behind a kind. -/
def tyK (k : Int) : Nat := if k = 1 then 198 else if k = 2 then 199 else if k = 3 then 200 else if k = 4 then 202 else if k = 5 then 203 else if k = 6 then 204 else 205
set_option maxHeartbeats 1000000 in
theorem paperKindOf_any (k : Int) (w : World) (hk : 1 ≤ k ∧ k ≤ 7) : Calls Tryz.prog 128 #[.int .i64 k] w fun e w' => e = .returned (.iface (tyK k) (.agg #[])) ∧ w' = w := by
  obtain rfl | rfl | rfl | rfl | rfl | rfl | rfl : k = 1 ∨ k = 2 ∨ k = 3 ∨ k = 4 ∨ k = 5 ∨ k = 6 ∨ k = 7 := by omega
  all_goals
    go_enter Tryz.func128, Tryz.ntmps128
    go_wp2
    go_ret
    exact ⟨rfl, rfl⟩
set_option maxRecDepth 100000 in
set_option maxHeartbeats 4000000 in
theorem rulesOf_any (k : Int) (w : World) (hk : 1 ≤ k ∧ k ≤ 7) : Calls Tryz.prog 178 #[.iface (tyK k) (.agg #[])] w fun e w' => e = .returned (.tuple #[.bool (risB k), .bool (oncB k)]) ∧ w' = w := by
  obtain rfl | rfl | rfl | rfl | rfl | rfl | rfl : k = 1 ∨ k = 2 ∨ k = 3 ∨ k = 4 ∨ k = 5 ∨ k = 6 ∨ k = 7 := by omega
  · show Calls Tryz.prog 178 #[.iface 198 (.agg #[])] w _
    have h_order : ∀ w, (Instr.typeAssert (.iface 198 (.agg #[])) 166 198 true).run Tryz.prog w = .ok (.tuple #[.agg #[], .bool true]) w := fun _ => by kernel_rfl
    have h_answer : ∀ w, (Instr.typeAssert (.iface 198 (.agg #[])) 166 199 true).run Tryz.prog w = .ok (.tuple #[.agg #[], .bool false]) w := fun _ => by kernel_rfl
    have h_sent : ∀ w, (Instr.typeAssert (.iface 198 (.agg #[])) 166 200 true).run Tryz.prog w = .ok (.tuple #[.agg #[], .bool false]) w := fun _ => by kernel_rfl
    have h_got : ∀ w, (Instr.typeAssert (.iface 198 (.agg #[])) 166 202 true).run Tryz.prog w = .ok (.tuple #[.agg #[], .bool false]) w := fun _ => by kernel_rfl
    have h_stock : ∀ w, (Instr.typeAssert (.iface 198 (.agg #[])) 166 203 true).run Tryz.prog w = .ok (.tuple #[.agg #[], .bool false]) w := fun _ => by kernel_rfl
    have h_adjust : ∀ w, (Instr.typeAssert (.iface 198 (.agg #[])) 166 204 true).run Tryz.prog w = .ok (.tuple #[.agg #[], .bool false]) w := fun _ => by kernel_rfl
    go_enter Tryz.func178, Tryz.ntmps178
    go_wp2
    go_ret2
    exact ⟨rfl, rfl⟩
  · show Calls Tryz.prog 178 #[.iface 199 (.agg #[])] w _
    have h_order : ∀ w, (Instr.typeAssert (.iface 199 (.agg #[])) 166 198 true).run Tryz.prog w = .ok (.tuple #[.agg #[], .bool false]) w := fun _ => by kernel_rfl
    have h_answer : ∀ w, (Instr.typeAssert (.iface 199 (.agg #[])) 166 199 true).run Tryz.prog w = .ok (.tuple #[.agg #[], .bool true]) w := fun _ => by kernel_rfl
    have h_sent : ∀ w, (Instr.typeAssert (.iface 199 (.agg #[])) 166 200 true).run Tryz.prog w = .ok (.tuple #[.agg #[], .bool false]) w := fun _ => by kernel_rfl
    have h_got : ∀ w, (Instr.typeAssert (.iface 199 (.agg #[])) 166 202 true).run Tryz.prog w = .ok (.tuple #[.agg #[], .bool false]) w := fun _ => by kernel_rfl
    have h_stock : ∀ w, (Instr.typeAssert (.iface 199 (.agg #[])) 166 203 true).run Tryz.prog w = .ok (.tuple #[.agg #[], .bool false]) w := fun _ => by kernel_rfl
    have h_adjust : ∀ w, (Instr.typeAssert (.iface 199 (.agg #[])) 166 204 true).run Tryz.prog w = .ok (.tuple #[.agg #[], .bool false]) w := fun _ => by kernel_rfl
    go_enter Tryz.func178, Tryz.ntmps178
    go_wp2
    go_ret2
    exact ⟨rfl, rfl⟩
  · show Calls Tryz.prog 178 #[.iface 200 (.agg #[])] w _
    have h_order : ∀ w, (Instr.typeAssert (.iface 200 (.agg #[])) 166 198 true).run Tryz.prog w = .ok (.tuple #[.agg #[], .bool false]) w := fun _ => by kernel_rfl
    have h_answer : ∀ w, (Instr.typeAssert (.iface 200 (.agg #[])) 166 199 true).run Tryz.prog w = .ok (.tuple #[.agg #[], .bool false]) w := fun _ => by kernel_rfl
    have h_sent : ∀ w, (Instr.typeAssert (.iface 200 (.agg #[])) 166 200 true).run Tryz.prog w = .ok (.tuple #[.agg #[], .bool true]) w := fun _ => by kernel_rfl
    have h_got : ∀ w, (Instr.typeAssert (.iface 200 (.agg #[])) 166 202 true).run Tryz.prog w = .ok (.tuple #[.agg #[], .bool false]) w := fun _ => by kernel_rfl
    have h_stock : ∀ w, (Instr.typeAssert (.iface 200 (.agg #[])) 166 203 true).run Tryz.prog w = .ok (.tuple #[.agg #[], .bool false]) w := fun _ => by kernel_rfl
    have h_adjust : ∀ w, (Instr.typeAssert (.iface 200 (.agg #[])) 166 204 true).run Tryz.prog w = .ok (.tuple #[.agg #[], .bool false]) w := fun _ => by kernel_rfl
    go_enter Tryz.func178, Tryz.ntmps178
    go_wp2
    go_ret2
    exact ⟨rfl, rfl⟩
  · show Calls Tryz.prog 178 #[.iface 202 (.agg #[])] w _
    have h_order : ∀ w, (Instr.typeAssert (.iface 202 (.agg #[])) 166 198 true).run Tryz.prog w = .ok (.tuple #[.agg #[], .bool false]) w := fun _ => by kernel_rfl
    have h_answer : ∀ w, (Instr.typeAssert (.iface 202 (.agg #[])) 166 199 true).run Tryz.prog w = .ok (.tuple #[.agg #[], .bool false]) w := fun _ => by kernel_rfl
    have h_sent : ∀ w, (Instr.typeAssert (.iface 202 (.agg #[])) 166 200 true).run Tryz.prog w = .ok (.tuple #[.agg #[], .bool false]) w := fun _ => by kernel_rfl
    have h_got : ∀ w, (Instr.typeAssert (.iface 202 (.agg #[])) 166 202 true).run Tryz.prog w = .ok (.tuple #[.agg #[], .bool true]) w := fun _ => by kernel_rfl
    have h_stock : ∀ w, (Instr.typeAssert (.iface 202 (.agg #[])) 166 203 true).run Tryz.prog w = .ok (.tuple #[.agg #[], .bool false]) w := fun _ => by kernel_rfl
    have h_adjust : ∀ w, (Instr.typeAssert (.iface 202 (.agg #[])) 166 204 true).run Tryz.prog w = .ok (.tuple #[.agg #[], .bool false]) w := fun _ => by kernel_rfl
    go_enter Tryz.func178, Tryz.ntmps178
    go_wp2
    go_ret2
    exact ⟨rfl, rfl⟩
  · show Calls Tryz.prog 178 #[.iface 203 (.agg #[])] w _
    have h_order : ∀ w, (Instr.typeAssert (.iface 203 (.agg #[])) 166 198 true).run Tryz.prog w = .ok (.tuple #[.agg #[], .bool false]) w := fun _ => by kernel_rfl
    have h_answer : ∀ w, (Instr.typeAssert (.iface 203 (.agg #[])) 166 199 true).run Tryz.prog w = .ok (.tuple #[.agg #[], .bool false]) w := fun _ => by kernel_rfl
    have h_sent : ∀ w, (Instr.typeAssert (.iface 203 (.agg #[])) 166 200 true).run Tryz.prog w = .ok (.tuple #[.agg #[], .bool false]) w := fun _ => by kernel_rfl
    have h_got : ∀ w, (Instr.typeAssert (.iface 203 (.agg #[])) 166 202 true).run Tryz.prog w = .ok (.tuple #[.agg #[], .bool false]) w := fun _ => by kernel_rfl
    have h_stock : ∀ w, (Instr.typeAssert (.iface 203 (.agg #[])) 166 203 true).run Tryz.prog w = .ok (.tuple #[.agg #[], .bool true]) w := fun _ => by kernel_rfl
    have h_adjust : ∀ w, (Instr.typeAssert (.iface 203 (.agg #[])) 166 204 true).run Tryz.prog w = .ok (.tuple #[.agg #[], .bool false]) w := fun _ => by kernel_rfl
    go_enter Tryz.func178, Tryz.ntmps178
    go_wp2
    go_ret2
    exact ⟨rfl, rfl⟩
  · show Calls Tryz.prog 178 #[.iface 204 (.agg #[])] w _
    have h_order : ∀ w, (Instr.typeAssert (.iface 204 (.agg #[])) 166 198 true).run Tryz.prog w = .ok (.tuple #[.agg #[], .bool false]) w := fun _ => by kernel_rfl
    have h_answer : ∀ w, (Instr.typeAssert (.iface 204 (.agg #[])) 166 199 true).run Tryz.prog w = .ok (.tuple #[.agg #[], .bool false]) w := fun _ => by kernel_rfl
    have h_sent : ∀ w, (Instr.typeAssert (.iface 204 (.agg #[])) 166 200 true).run Tryz.prog w = .ok (.tuple #[.agg #[], .bool false]) w := fun _ => by kernel_rfl
    have h_got : ∀ w, (Instr.typeAssert (.iface 204 (.agg #[])) 166 202 true).run Tryz.prog w = .ok (.tuple #[.agg #[], .bool false]) w := fun _ => by kernel_rfl
    have h_stock : ∀ w, (Instr.typeAssert (.iface 204 (.agg #[])) 166 203 true).run Tryz.prog w = .ok (.tuple #[.agg #[], .bool false]) w := fun _ => by kernel_rfl
    have h_adjust : ∀ w, (Instr.typeAssert (.iface 204 (.agg #[])) 166 204 true).run Tryz.prog w = .ok (.tuple #[.agg #[], .bool true]) w := fun _ => by kernel_rfl
    go_enter Tryz.func178, Tryz.ntmps178
    go_wp2
    go_ret2
    exact ⟨rfl, rfl⟩
  · show Calls Tryz.prog 178 #[.iface 205 (.agg #[])] w _
    have h_order : ∀ w, (Instr.typeAssert (.iface 205 (.agg #[])) 166 198 true).run Tryz.prog w = .ok (.tuple #[.agg #[], .bool false]) w := fun _ => by kernel_rfl
    have h_answer : ∀ w, (Instr.typeAssert (.iface 205 (.agg #[])) 166 199 true).run Tryz.prog w = .ok (.tuple #[.agg #[], .bool false]) w := fun _ => by kernel_rfl
    have h_sent : ∀ w, (Instr.typeAssert (.iface 205 (.agg #[])) 166 200 true).run Tryz.prog w = .ok (.tuple #[.agg #[], .bool false]) w := fun _ => by kernel_rfl
    have h_got : ∀ w, (Instr.typeAssert (.iface 205 (.agg #[])) 166 202 true).run Tryz.prog w = .ok (.tuple #[.agg #[], .bool false]) w := fun _ => by kernel_rfl
    have h_stock : ∀ w, (Instr.typeAssert (.iface 205 (.agg #[])) 166 203 true).run Tryz.prog w = .ok (.tuple #[.agg #[], .bool false]) w := fun _ => by kernel_rfl
    have h_adjust : ∀ w, (Instr.typeAssert (.iface 205 (.agg #[])) 166 204 true).run Tryz.prog w = .ok (.tuple #[.agg #[], .bool false]) w := fun _ => by kernel_rfl
    go_enter Tryz.func178, Tryz.ntmps178
    go_wp2
    go_ret2
    exact ⟨rfl, rfl⟩
end Go.Proofs.YtkaolpnbddjdpaaGreatDoor
namespace Go.Proofs.YtkaolpnbddjdpaaGreatDoor
open Go.ChangeShapes Go.WideShapes Go.ChangeAt Go.RowKit
theorem TabOk.drew {w : World} (h : TabOk w) : TabOk w.drew := h.below (Below.refl _ _).drew
theorem undrewP {a b : World} (h : Below a.drew.heap.size a.drew b) : Below a.heap.size a b := (Below.refl _ _).drew.trans h
theorem box5 {W : World} {B t : Nat} {a0 a1 a2 a3 a4 : Value} (h : W.heap[B]? = some (.cells #[a0, a1, a2, a3, a4] t)) : W.cell? ⟨B, 0, none⟩ = some a0 ∧ W.cell? ⟨B, 1, none⟩ = some a1 ∧ W.cell? ⟨B, 2, none⟩ = some a2 ∧ W.cell? ⟨B, 3, none⟩ = some a3 ∧ W.cell? ⟨B, 4, none⟩ = some a4 := by
  simp [World.cell?, h]
theorem two_new (w : World) (a b : Obj) : ((w.alloc a).alloc b).heap[w.heap.size + 1]? = some b := by
  have e : ((w.alloc a).alloc b).heap = (w.heap.push a).push b := rfl
  rw [e, Array.getElem?_push, Array.size_push, if_pos rfl]
/-- The words of a line, the last one empty if it is missing. -/
def fullW (k : Int) (l : Ln) : List ByteArray :=
  if k = 1 then [decS l.no, l.item, decS l.qty, unlN l.money] else if k = 3 then [decS l.no, decS l.qty] else if k = 5 then [l.item, decS l.qty]
  else if k = 6 then [l.item, decS l.qty, l.note] else if k = 7 then [decS l.no, decS l.qty, unlN l.money] else [decS l.no, decS l.qty, l.note]
/-- A line whose numbers are of 64 bits. -/
def LnI (l : Ln) : Prop := i64B l.no ∧ i64B l.qty ∧ i64B l.money
/-- Words in a block of their own. -/
def WOut (ws : List ByteArray) (w : World) (e : Ending) (w' : World) : Prop := ∃ b, e = .returned (.slice (some ⟨b, 0, none⟩) ws.length ws.length) ∧ w.heap.size ≤ b ∧ w'.heap[b]? = some (.cells (ws.map Value.string).toArray 9) ∧ Below w.heap.size w w'
set_option maxRecDepth 20000 in
set_option maxHeartbeats 8000000 in
theorem words_order (l : Ln) (w : World) (hI : LnI l) (ht : TabOk w) : Calls Tryz.prog 269 #[.agg #[], .agg #[.int .i64 l.no, .string l.item, .int .i64 l.qty, .int .i64 l.money, .string l.note]] w fun e w' => WOut [decS l.no, l.item, decS l.qty, unlN l.money] w e w' := by
  obtain ⟨W0, hW0⟩ : ∃ W0, (w.alloc (.cells #[] 198)).alloc (.cells #[.int .i64 l.no, .string l.item, .int .i64 l.qty, .int .i64 l.money, .string l.note] 121) = W0 := ⟨_, rfl⟩
  have hb0 : Below w.heap.size w W0 := by rw [← hW0]; exact ((Below.refl _ _).alloc (Nat.le_refl _) _).alloc (by simp) _
  have hbx : W0.heap[w.heap.size + 1]? = some (.cells #[.int .i64 l.no, .string l.item, .int .i64 l.qty, .int .i64 l.money, .string l.note] 121) := by rw [← hW0]; exact two_new _ _ _
  obtain ⟨B, hB⟩ : ∃ B, B = w.heap.size + 1 := ⟨_, rfl⟩
  have HC : Hid (Below w.heap.size w W0 ∧ TabOk W0 ∧ ∀ W, Below W0.heap.size W0 W → W.cell? ⟨B, 0, none⟩ = some (.int .i64 l.no) ∧ W.cell? ⟨B, 1, none⟩ = some (.string l.item) ∧ W.cell? ⟨B, 2, none⟩ = some (.int .i64 l.qty) ∧ W.cell? ⟨B, 3, none⟩ = some (.int .i64 l.money) ∧ W.cell? ⟨B, 4, none⟩ = some (.string l.note)) := ⟨hb0, ht.below hb0, fun W hW => by
    rw [hB]
    exact box5 ((hW.block _ (Array.getElem?_eq_some_iff.1 hbx).1).trans hbx)⟩
  obtain ⟨c0, c1, c2, c3, c4⟩ := HC.out.2.2 W0 (Below.refl _ _)
  go_enter Tryz.func269, Tryz.ntmps269
  go_upto_region 1 with fail
  try rw [hW0]
  try rw [← hB]
  clear hW0 hbx hb0 ht hB
  go_region_held3 (fun W => W.cell? ⟨B, 0, none⟩ = some (.int .i64 l.no) ∧ W.cell? ⟨B, 1, none⟩ = some (.string l.item) ∧ W.cell? ⟨B, 2, none⟩ = some (.int .i64 l.qty) ∧ W.cell? ⟨B, 3, none⟩ = some (.int .i64 l.money) ∧ W.cell? ⟨B, 4, none⟩ = some (.string l.note)) (go_keep) (first | (go_at_call_of 161 (Value.int IntKind.i64 l.no); refine (digitsOf_any l.no _ hI.1 (by first | exact HC.out.2.1 | exact HC.out.2.1.drew)).mono ?_; rintro e wa ⟨rfl, hba⟩; have ba : Below W0.heap.size W0 wa := (by first | exact hba | exact undrewP hba); have Ta := HC.out.2.1.below ba; obtain ⟨a0, a1, a2, a3, a4⟩ := HC.out.2.2 wa ba; clear hba; try dsimp only) | (go_at_call_of 161 (Value.int IntKind.i64 l.qty); refine (digitsOf_any l.qty _ hI.2.1 (by first | exact Ta | exact Ta.drew)).mono ?_; rintro e wb ⟨rfl, hbb⟩; have bb : Below W0.heap.size W0 wb := ba.trans ((by first | exact hbb | exact undrewP hbb : Below wa.heap.size wa wb).mono ba.size); have Tb := HC.out.2.1.below bb; obtain ⟨b0, b1, b2, b3, b4⟩ := HC.out.2.2 wb bb; clear hbb; try dsimp only) | (go_at_call_of 270 (Value.int IntKind.i64 l.money); refine (unless_any l.money _ hI.2.2 (by first | exact Tb | exact Tb.drew)).mono ?_; rintro e wf ⟨rfl, hbf⟩; have bf : Below W0.heap.size W0 wf := bb.trans ((by first | exact hbf | exact undrewP hbf : Below wb.heap.size wb wf).mono bb.size); have Tf := HC.out.2.1.below bf; obtain ⟨f0, f1, f2, f3, f4⟩ := HC.out.2.2 wf bf; clear hbf; try dsimp only) | fail)
  rename_i hHeld
  clear hHeld
  have bg : Below w.heap.size w wf := HC.out.1.trans (bf.mono HC.out.1.size)
  have HB : Hid (Below w.heap.size w (wf.alloc (.cells #[.string (decS l.no), .string l.item, .string (decS l.qty), .string (unlN l.money)] 9)) ∧ w.heap.size ≤ wf.heap.size) := ⟨bg.alloc bg.size _, bg.size⟩
  clear bg
  go_wp2
  go_ret
  exact ⟨wf.heap.size, rfl, HB.out.2, World.alloc_heap_new _ _, HB.out.1⟩
set_option maxRecDepth 20000 in
set_option maxHeartbeats 8000000 in
theorem words_answer (l : Ln) (w : World) (hI : LnI l) (ht : TabOk w) : Calls Tryz.prog 272 #[.agg #[], .agg #[.int .i64 l.no, .string l.item, .int .i64 l.qty, .int .i64 l.money, .string l.note]] w fun e w' => WOut [decS l.no, decS l.qty, l.note] w e w' := by
  obtain ⟨W0, hW0⟩ : ∃ W0, (w.alloc (.cells #[] 199)).alloc (.cells #[.int .i64 l.no, .string l.item, .int .i64 l.qty, .int .i64 l.money, .string l.note] 121) = W0 := ⟨_, rfl⟩
  have hb0 : Below w.heap.size w W0 := by rw [← hW0]; exact ((Below.refl _ _).alloc (Nat.le_refl _) _).alloc (by simp) _
  have hbx : W0.heap[w.heap.size + 1]? = some (.cells #[.int .i64 l.no, .string l.item, .int .i64 l.qty, .int .i64 l.money, .string l.note] 121) := by rw [← hW0]; exact two_new _ _ _
  obtain ⟨B, hB⟩ : ∃ B, B = w.heap.size + 1 := ⟨_, rfl⟩
  have HC : Hid (Below w.heap.size w W0 ∧ TabOk W0 ∧ ∀ W, Below W0.heap.size W0 W → W.cell? ⟨B, 0, none⟩ = some (.int .i64 l.no) ∧ W.cell? ⟨B, 1, none⟩ = some (.string l.item) ∧ W.cell? ⟨B, 2, none⟩ = some (.int .i64 l.qty) ∧ W.cell? ⟨B, 3, none⟩ = some (.int .i64 l.money) ∧ W.cell? ⟨B, 4, none⟩ = some (.string l.note)) := ⟨hb0, ht.below hb0, fun W hW => by
    rw [hB]
    exact box5 ((hW.block _ (Array.getElem?_eq_some_iff.1 hbx).1).trans hbx)⟩
  obtain ⟨c0, c1, c2, c3, c4⟩ := HC.out.2.2 W0 (Below.refl _ _)
  go_enter Tryz.func272, Tryz.ntmps272
  go_upto_region 1 with fail
  try rw [hW0]
  try rw [← hB]
  clear hW0 hbx hb0 ht hB
  go_region_held3 (fun W => W.cell? ⟨B, 0, none⟩ = some (.int .i64 l.no) ∧ W.cell? ⟨B, 1, none⟩ = some (.string l.item) ∧ W.cell? ⟨B, 2, none⟩ = some (.int .i64 l.qty) ∧ W.cell? ⟨B, 3, none⟩ = some (.int .i64 l.money) ∧ W.cell? ⟨B, 4, none⟩ = some (.string l.note)) (go_keep) (first | (go_at_call_of 161 (Value.int IntKind.i64 l.no); refine (digitsOf_any l.no _ hI.1 (by first | exact HC.out.2.1 | exact HC.out.2.1.drew)).mono ?_; rintro e wa ⟨rfl, hba⟩; have ba : Below W0.heap.size W0 wa := (by first | exact hba | exact undrewP hba); have Ta := HC.out.2.1.below ba; obtain ⟨a0, a1, a2, a3, a4⟩ := HC.out.2.2 wa ba; clear hba; try dsimp only) | (go_at_call_of 161 (Value.int IntKind.i64 l.qty); refine (digitsOf_any l.qty _ hI.2.1 (by first | exact Ta | exact Ta.drew)).mono ?_; rintro e wb ⟨rfl, hbb⟩; have bb : Below W0.heap.size W0 wb := ba.trans ((by first | exact hbb | exact undrewP hbb : Below wa.heap.size wa wb).mono ba.size); have Tb := HC.out.2.1.below bb; obtain ⟨b0, b1, b2, b3, b4⟩ := HC.out.2.2 wb bb; clear hbb; try dsimp only) | fail)
  rename_i hHeld
  clear hHeld
  have bg : Below w.heap.size w wb := HC.out.1.trans (bb.mono HC.out.1.size)
  have HB : Hid (Below w.heap.size w (wb.alloc (.cells #[.string (decS l.no), .string (decS l.qty), .string l.note] 9)) ∧ w.heap.size ≤ wb.heap.size) := ⟨bg.alloc bg.size _, bg.size⟩
  clear bg
  go_wp2
  go_ret
  exact ⟨wb.heap.size, rfl, HB.out.2, World.alloc_heap_new _ _, HB.out.1⟩
set_option maxRecDepth 20000 in
set_option maxHeartbeats 8000000 in
theorem words_sent (l : Ln) (w : World) (hI : LnI l) (ht : TabOk w) : Calls Tryz.prog 274 #[.agg #[], .agg #[.int .i64 l.no, .string l.item, .int .i64 l.qty, .int .i64 l.money, .string l.note]] w fun e w' => WOut [decS l.no, decS l.qty] w e w' := by
  obtain ⟨W0, hW0⟩ : ∃ W0, (w.alloc (.cells #[] 200)).alloc (.cells #[.int .i64 l.no, .string l.item, .int .i64 l.qty, .int .i64 l.money, .string l.note] 121) = W0 := ⟨_, rfl⟩
  have hb0 : Below w.heap.size w W0 := by rw [← hW0]; exact ((Below.refl _ _).alloc (Nat.le_refl _) _).alloc (by simp) _
  have hbx : W0.heap[w.heap.size + 1]? = some (.cells #[.int .i64 l.no, .string l.item, .int .i64 l.qty, .int .i64 l.money, .string l.note] 121) := by rw [← hW0]; exact two_new _ _ _
  obtain ⟨B, hB⟩ : ∃ B, B = w.heap.size + 1 := ⟨_, rfl⟩
  have HC : Hid (Below w.heap.size w W0 ∧ TabOk W0 ∧ ∀ W, Below W0.heap.size W0 W → W.cell? ⟨B, 0, none⟩ = some (.int .i64 l.no) ∧ W.cell? ⟨B, 1, none⟩ = some (.string l.item) ∧ W.cell? ⟨B, 2, none⟩ = some (.int .i64 l.qty) ∧ W.cell? ⟨B, 3, none⟩ = some (.int .i64 l.money) ∧ W.cell? ⟨B, 4, none⟩ = some (.string l.note)) := ⟨hb0, ht.below hb0, fun W hW => by
    rw [hB]
    exact box5 ((hW.block _ (Array.getElem?_eq_some_iff.1 hbx).1).trans hbx)⟩
  obtain ⟨c0, c1, c2, c3, c4⟩ := HC.out.2.2 W0 (Below.refl _ _)
  go_enter Tryz.func274, Tryz.ntmps274
  go_upto_region 1 with fail
  try rw [hW0]
  try rw [← hB]
  clear hW0 hbx hb0 ht hB
  go_region_held3 (fun W => W.cell? ⟨B, 0, none⟩ = some (.int .i64 l.no) ∧ W.cell? ⟨B, 1, none⟩ = some (.string l.item) ∧ W.cell? ⟨B, 2, none⟩ = some (.int .i64 l.qty) ∧ W.cell? ⟨B, 3, none⟩ = some (.int .i64 l.money) ∧ W.cell? ⟨B, 4, none⟩ = some (.string l.note)) (go_keep) (first | (go_at_call_of 161 (Value.int IntKind.i64 l.no); refine (digitsOf_any l.no _ hI.1 (by first | exact HC.out.2.1 | exact HC.out.2.1.drew)).mono ?_; rintro e wa ⟨rfl, hba⟩; have ba : Below W0.heap.size W0 wa := (by first | exact hba | exact undrewP hba); have Ta := HC.out.2.1.below ba; obtain ⟨a0, a1, a2, a3, a4⟩ := HC.out.2.2 wa ba; clear hba; try dsimp only) | (go_at_call_of 161 (Value.int IntKind.i64 l.qty); refine (digitsOf_any l.qty _ hI.2.1 (by first | exact Ta | exact Ta.drew)).mono ?_; rintro e wb ⟨rfl, hbb⟩; have bb : Below W0.heap.size W0 wb := ba.trans ((by first | exact hbb | exact undrewP hbb : Below wa.heap.size wa wb).mono ba.size); have Tb := HC.out.2.1.below bb; obtain ⟨b0, b1, b2, b3, b4⟩ := HC.out.2.2 wb bb; clear hbb; try dsimp only) | fail)
  rename_i hHeld
  clear hHeld
  have bg : Below w.heap.size w wb := HC.out.1.trans (bb.mono HC.out.1.size)
  have HB : Hid (Below w.heap.size w (wb.alloc (.cells #[.string (decS l.no), .string (decS l.qty)] 9)) ∧ w.heap.size ≤ wb.heap.size) := ⟨bg.alloc bg.size _, bg.size⟩
  clear bg
  go_wp2
  go_ret
  exact ⟨wb.heap.size, rfl, HB.out.2, World.alloc_heap_new _ _, HB.out.1⟩
set_option maxRecDepth 20000 in
set_option maxHeartbeats 8000000 in
theorem words_stock (l : Ln) (w : World) (hI : LnI l) (ht : TabOk w) : Calls Tryz.prog 276 #[.agg #[], .agg #[.int .i64 l.no, .string l.item, .int .i64 l.qty, .int .i64 l.money, .string l.note]] w fun e w' => WOut [l.item, decS l.qty] w e w' := by
  obtain ⟨W0, hW0⟩ : ∃ W0, (w.alloc (.cells #[] 203)).alloc (.cells #[.int .i64 l.no, .string l.item, .int .i64 l.qty, .int .i64 l.money, .string l.note] 121) = W0 := ⟨_, rfl⟩
  have hb0 : Below w.heap.size w W0 := by rw [← hW0]; exact ((Below.refl _ _).alloc (Nat.le_refl _) _).alloc (by simp) _
  have hbx : W0.heap[w.heap.size + 1]? = some (.cells #[.int .i64 l.no, .string l.item, .int .i64 l.qty, .int .i64 l.money, .string l.note] 121) := by rw [← hW0]; exact two_new _ _ _
  obtain ⟨B, hB⟩ : ∃ B, B = w.heap.size + 1 := ⟨_, rfl⟩
  have HC : Hid (Below w.heap.size w W0 ∧ TabOk W0 ∧ ∀ W, Below W0.heap.size W0 W → W.cell? ⟨B, 0, none⟩ = some (.int .i64 l.no) ∧ W.cell? ⟨B, 1, none⟩ = some (.string l.item) ∧ W.cell? ⟨B, 2, none⟩ = some (.int .i64 l.qty) ∧ W.cell? ⟨B, 3, none⟩ = some (.int .i64 l.money) ∧ W.cell? ⟨B, 4, none⟩ = some (.string l.note)) := ⟨hb0, ht.below hb0, fun W hW => by
    rw [hB]
    exact box5 ((hW.block _ (Array.getElem?_eq_some_iff.1 hbx).1).trans hbx)⟩
  obtain ⟨c0, c1, c2, c3, c4⟩ := HC.out.2.2 W0 (Below.refl _ _)
  go_enter Tryz.func276, Tryz.ntmps276
  go_upto_region 1 with fail
  try rw [hW0]
  try rw [← hB]
  clear hW0 hbx hb0 ht hB
  go_region_held3 (fun W => W.cell? ⟨B, 0, none⟩ = some (.int .i64 l.no) ∧ W.cell? ⟨B, 1, none⟩ = some (.string l.item) ∧ W.cell? ⟨B, 2, none⟩ = some (.int .i64 l.qty) ∧ W.cell? ⟨B, 3, none⟩ = some (.int .i64 l.money) ∧ W.cell? ⟨B, 4, none⟩ = some (.string l.note)) (go_keep) (first | (go_at_call_of 161 (Value.int IntKind.i64 l.qty); refine (digitsOf_any l.qty _ hI.2.1 (by first | exact HC.out.2.1 | exact HC.out.2.1.drew)).mono ?_; rintro e wa ⟨rfl, hba⟩; have ba : Below W0.heap.size W0 wa := (by first | exact hba | exact undrewP hba); have Ta := HC.out.2.1.below ba; obtain ⟨a0, a1, a2, a3, a4⟩ := HC.out.2.2 wa ba; clear hba; try dsimp only) | fail)
  rename_i hHeld
  clear hHeld
  have bg : Below w.heap.size w wa := HC.out.1.trans (ba.mono HC.out.1.size)
  have HB : Hid (Below w.heap.size w (wa.alloc (.cells #[.string l.item, .string (decS l.qty)] 9)) ∧ w.heap.size ≤ wa.heap.size) := ⟨bg.alloc bg.size _, bg.size⟩
  clear bg
  go_wp2
  go_ret
  exact ⟨wa.heap.size, rfl, HB.out.2, World.alloc_heap_new _ _, HB.out.1⟩
set_option maxRecDepth 20000 in
set_option maxHeartbeats 8000000 in
theorem words_adjust (l : Ln) (w : World) (hI : LnI l) (ht : TabOk w) : Calls Tryz.prog 278 #[.agg #[], .agg #[.int .i64 l.no, .string l.item, .int .i64 l.qty, .int .i64 l.money, .string l.note]] w fun e w' => WOut [l.item, decS l.qty, l.note] w e w' := by
  obtain ⟨W0, hW0⟩ : ∃ W0, (w.alloc (.cells #[] 204)).alloc (.cells #[.int .i64 l.no, .string l.item, .int .i64 l.qty, .int .i64 l.money, .string l.note] 121) = W0 := ⟨_, rfl⟩
  have hb0 : Below w.heap.size w W0 := by rw [← hW0]; exact ((Below.refl _ _).alloc (Nat.le_refl _) _).alloc (by simp) _
  have hbx : W0.heap[w.heap.size + 1]? = some (.cells #[.int .i64 l.no, .string l.item, .int .i64 l.qty, .int .i64 l.money, .string l.note] 121) := by rw [← hW0]; exact two_new _ _ _
  obtain ⟨B, hB⟩ : ∃ B, B = w.heap.size + 1 := ⟨_, rfl⟩
  have HC : Hid (Below w.heap.size w W0 ∧ TabOk W0 ∧ ∀ W, Below W0.heap.size W0 W → W.cell? ⟨B, 0, none⟩ = some (.int .i64 l.no) ∧ W.cell? ⟨B, 1, none⟩ = some (.string l.item) ∧ W.cell? ⟨B, 2, none⟩ = some (.int .i64 l.qty) ∧ W.cell? ⟨B, 3, none⟩ = some (.int .i64 l.money) ∧ W.cell? ⟨B, 4, none⟩ = some (.string l.note)) := ⟨hb0, ht.below hb0, fun W hW => by
    rw [hB]
    exact box5 ((hW.block _ (Array.getElem?_eq_some_iff.1 hbx).1).trans hbx)⟩
  obtain ⟨c0, c1, c2, c3, c4⟩ := HC.out.2.2 W0 (Below.refl _ _)
  go_enter Tryz.func278, Tryz.ntmps278
  go_upto_region 1 with fail
  try rw [hW0]
  try rw [← hB]
  clear hW0 hbx hb0 ht hB
  go_region_held3 (fun W => W.cell? ⟨B, 0, none⟩ = some (.int .i64 l.no) ∧ W.cell? ⟨B, 1, none⟩ = some (.string l.item) ∧ W.cell? ⟨B, 2, none⟩ = some (.int .i64 l.qty) ∧ W.cell? ⟨B, 3, none⟩ = some (.int .i64 l.money) ∧ W.cell? ⟨B, 4, none⟩ = some (.string l.note)) (go_keep) (first | (go_at_call_of 161 (Value.int IntKind.i64 l.qty); refine (digitsOf_any l.qty _ hI.2.1 (by first | exact HC.out.2.1 | exact HC.out.2.1.drew)).mono ?_; rintro e wa ⟨rfl, hba⟩; have ba : Below W0.heap.size W0 wa := (by first | exact hba | exact undrewP hba); have Ta := HC.out.2.1.below ba; obtain ⟨a0, a1, a2, a3, a4⟩ := HC.out.2.2 wa ba; clear hba; try dsimp only) | fail)
  rename_i hHeld
  clear hHeld
  have bg : Below w.heap.size w wa := HC.out.1.trans (ba.mono HC.out.1.size)
  have HB : Hid (Below w.heap.size w (wa.alloc (.cells #[.string l.item, .string (decS l.qty), .string l.note] 9)) ∧ w.heap.size ≤ wa.heap.size) := ⟨bg.alloc bg.size _, bg.size⟩
  clear bg
  go_wp2
  go_ret
  exact ⟨wa.heap.size, rfl, HB.out.2, World.alloc_heap_new _ _, HB.out.1⟩
set_option maxRecDepth 20000 in
set_option maxHeartbeats 8000000 in
theorem words_heard (l : Ln) (w : World) (hI : LnI l) (ht : TabOk w) : Calls Tryz.prog 280 #[.agg #[], .agg #[.int .i64 l.no, .string l.item, .int .i64 l.qty, .int .i64 l.money, .string l.note]] w fun e w' => WOut [decS l.no, decS l.qty, unlN l.money] w e w' := by
  obtain ⟨W0, hW0⟩ : ∃ W0, (w.alloc (.cells #[] 205)).alloc (.cells #[.int .i64 l.no, .string l.item, .int .i64 l.qty, .int .i64 l.money, .string l.note] 121) = W0 := ⟨_, rfl⟩
  have hb0 : Below w.heap.size w W0 := by rw [← hW0]; exact ((Below.refl _ _).alloc (Nat.le_refl _) _).alloc (by simp) _
  have hbx : W0.heap[w.heap.size + 1]? = some (.cells #[.int .i64 l.no, .string l.item, .int .i64 l.qty, .int .i64 l.money, .string l.note] 121) := by rw [← hW0]; exact two_new _ _ _
  obtain ⟨B, hB⟩ : ∃ B, B = w.heap.size + 1 := ⟨_, rfl⟩
  have HC : Hid (Below w.heap.size w W0 ∧ TabOk W0 ∧ ∀ W, Below W0.heap.size W0 W → W.cell? ⟨B, 0, none⟩ = some (.int .i64 l.no) ∧ W.cell? ⟨B, 1, none⟩ = some (.string l.item) ∧ W.cell? ⟨B, 2, none⟩ = some (.int .i64 l.qty) ∧ W.cell? ⟨B, 3, none⟩ = some (.int .i64 l.money) ∧ W.cell? ⟨B, 4, none⟩ = some (.string l.note)) := ⟨hb0, ht.below hb0, fun W hW => by
    rw [hB]
    exact box5 ((hW.block _ (Array.getElem?_eq_some_iff.1 hbx).1).trans hbx)⟩
  obtain ⟨c0, c1, c2, c3, c4⟩ := HC.out.2.2 W0 (Below.refl _ _)
  go_enter Tryz.func280, Tryz.ntmps280
  go_upto_region 1 with fail
  try rw [hW0]
  try rw [← hB]
  clear hW0 hbx hb0 ht hB
  go_region_held3 (fun W => W.cell? ⟨B, 0, none⟩ = some (.int .i64 l.no) ∧ W.cell? ⟨B, 1, none⟩ = some (.string l.item) ∧ W.cell? ⟨B, 2, none⟩ = some (.int .i64 l.qty) ∧ W.cell? ⟨B, 3, none⟩ = some (.int .i64 l.money) ∧ W.cell? ⟨B, 4, none⟩ = some (.string l.note)) (go_keep) (first | (go_at_call_of 161 (Value.int IntKind.i64 l.no); refine (digitsOf_any l.no _ hI.1 (by first | exact HC.out.2.1 | exact HC.out.2.1.drew)).mono ?_; rintro e wa ⟨rfl, hba⟩; have ba : Below W0.heap.size W0 wa := (by first | exact hba | exact undrewP hba); have Ta := HC.out.2.1.below ba; obtain ⟨a0, a1, a2, a3, a4⟩ := HC.out.2.2 wa ba; clear hba; try dsimp only) | (go_at_call_of 161 (Value.int IntKind.i64 l.qty); refine (digitsOf_any l.qty _ hI.2.1 (by first | exact Ta | exact Ta.drew)).mono ?_; rintro e wb ⟨rfl, hbb⟩; have bb : Below W0.heap.size W0 wb := ba.trans ((by first | exact hbb | exact undrewP hbb : Below wa.heap.size wa wb).mono ba.size); have Tb := HC.out.2.1.below bb; obtain ⟨b0, b1, b2, b3, b4⟩ := HC.out.2.2 wb bb; clear hbb; try dsimp only) | (go_at_call_of 270 (Value.int IntKind.i64 l.money); refine (unless_any l.money _ hI.2.2 (by first | exact Tb | exact Tb.drew)).mono ?_; rintro e wf ⟨rfl, hbf⟩; have bf : Below W0.heap.size W0 wf := bb.trans ((by first | exact hbf | exact undrewP hbf : Below wb.heap.size wb wf).mono bb.size); have Tf := HC.out.2.1.below bf; obtain ⟨f0, f1, f2, f3, f4⟩ := HC.out.2.2 wf bf; clear hbf; try dsimp only) | fail)
  rename_i hHeld
  clear hHeld
  have bg : Below w.heap.size w wf := HC.out.1.trans (bf.mono HC.out.1.size)
  have HB : Hid (Below w.heap.size w (wf.alloc (.cells #[.string (decS l.no), .string (decS l.qty), .string (unlN l.money)] 9)) ∧ w.heap.size ≤ wf.heap.size) := ⟨bg.alloc bg.size _, bg.size⟩
  clear bg
  go_wp2
  go_ret
  exact ⟨wf.heap.size, rfl, HB.out.2, World.alloc_heap_new _ _, HB.out.1⟩
/-- The method of a kind. -/
def fnW (k : Int) : Nat := if k = 1 then 269 else if k = 2 ∨ k = 4 then 272 else if k = 3 then 274 else if k = 5 then 276 else if k = 6 then 278 else 280
theorem words_any (k : Int) (hk : 1 ≤ k ∧ k ≤ 7) (l : Ln) (w : World) (hI : LnI l) (ht : TabOk w) : Calls Tryz.prog (fnW k) #[.agg #[], .agg #[.int .i64 l.no, .string l.item, .int .i64 l.qty, .int .i64 l.money, .string l.note]] w fun e w' => WOut (fullW k l) w e w' := by
  obtain rfl | rfl | rfl | rfl | rfl | rfl | rfl : k = 1 ∨ k = 2 ∨ k = 3 ∨ k = 4 ∨ k = 5 ∨ k = 6 ∨ k = 7 := by omega
  · exact words_order l w hI ht
  · exact words_answer l w hI ht
  · exact words_sent l w hI ht
  · exact words_answer l w hI ht
  · exact words_stock l w hI ht
  · exact words_adjust l w hI ht
  · exact words_heard l w hI ht
end Go.Proofs.YtkaolpnbddjdpaaGreatDoor
