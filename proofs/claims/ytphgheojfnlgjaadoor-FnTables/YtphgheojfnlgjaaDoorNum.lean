/- Contracts of functions on numbers in texts: impl.isNumber, impl.numberWithin and impl.isDay at every text of at most 2^48 bytes, by what the library's ParseInt tells. -/
import Derived.Test.YtphgheojfnlgjaaDoorNumP
import Derived.Test.YtphgheojfnlgjaaDoorShNum
import Derived.Test.YtphgheojfnlgjaaDoorRet
import Derived.Test.YtphgheojfnlgjaaDoorPlain
import Derived.Lib.AtoiErrMem
namespace Go.Proofs.YtphgheojfnlgjaaDoor
open Go.ChangeShapes Go.WideShapes Go.ChangeAt Go.RowKit
/-- The library's two errors lie in their variables. -/
def ErrAt (w : World) (g : Nat) : Prop := ∃ ev, w.cell? ⟨g, 0, none⟩ = some ev ∧ (ev = .nilIface ∨ ∃ te pe, ev = .iface te pe)
def ErrsAt (w : World) : Prop := ErrAt w 4 ∧ ErrAt w 5
theorem ErrAt.below {w w' : World} {g : Nat} (h : ErrAt w g) (hb : Below w.heap.size w w') : ErrAt w' g := by
  obtain ⟨ev, h1, h2⟩ := h
  exact ⟨ev, (hb.cell (cell_lt h1)).trans h1, h2⟩
theorem ErrsAt.below {w w' : World} (h : ErrsAt w) (hb : Below w.heap.size w w') : ErrsAt w' := ⟨h.1.below hb, h.2.below hb⟩
theorem below_bytes (w : World) (t : ByteArray) (e : Nat) : Below w.heap.size w (Lib.bytesWorld w e t) := by
  exact Lib.bytesWorld_below _ _ _
theorem parse_any (s : ByteArray) (w : World) (hs : s.size ≤ 281474976710656) (hE : ErrsAt w) :
    Calls Tryd.prog 58 #[.string s, .int .i64 10, .int .i64 64] w fun e w' => Below w.heap.size w w' ∧
      ((∃ v, Lib.parseIntB 64 s.data.toList = .ok v ∧ e = .returned (.tuple #[.int .i64 v, .nilIface])) ∨ ∃ n T p, (∀ v, Lib.parseIntB 64 s.data.toList ≠ .ok v) ∧ e = .returned (.tuple #[.int .i64 n, .iface T (.pointer p)])) := by
  cases h : Lib.parseIntB 64 s.data.toList with
  | ok v =>
    refine (Any.strconv_ParseInt_10_at64_ok laysC174 s (by omega) v h w).mono ?_
    rintro e w' ⟨rfl, hw⟩
    refine ⟨?_, .inl ⟨v, rfl, rfl⟩⟩
    rcases hw with rfl | ⟨t, rfl⟩
    · exact Below.refl _ _
    · exact below_bytes _ _ _
  | «syntax» =>
    obtain ⟨ev, h1, h2⟩ := hE.1
    refine (Any.strconv_ParseInt_10_at64_syntax laysC174 s hs h ev w h1 h2).mono ?_
    rintro e w' ⟨N, rfl, _, _, hb⟩
    exact ⟨hb, .inr ⟨_, _, _, fun v => by simp, rfl⟩⟩
  | range =>
    obtain ⟨ev, h1, h2⟩ := hE.2
    refine (Any.strconv_ParseInt_10_at64_range laysC174 s hs h ev w h1 h2).mono ?_
    rintro e w' ⟨N, rfl, _, _, hb⟩
    exact ⟨hb, .inr ⟨_, _, _, fun v => by simp, rfl⟩⟩
theorem trimPrefix_any (s p : ByteArray) (w : World) : Calls Tryd.prog 50 #[.string s, .string p] w fun e w' => e = .returned (.string ⟨(Lib.trimPrefix s.data.toList p.data.toList).toArray⟩) ∧ w' = w := Any.strings_TrimPrefix lays101 s p w
theorem all_dg {s : ByteArray} (h : ∀ (j : Nat) (hj : j < s.size), 48 ≤ (s[j]'hj).toNat ∧ (s[j]'hj).toNat ≤ 57) : s.data.toList.all dgOk = true := by
  rw [List.all_eq_true]
  intro x hx
  obtain ⟨j, hj, rfl⟩ := List.mem_iff_getElem.1 hx
  have := h j (by simpa using hj)
  simp only [dgOk, decide_eq_true_eq]
  exact this
theorem all_dg_no {s : ByteArray} (k : Nat) (hk : k < s.size) (h : ((s[k]'hk).toNat : Int) < 48 ∨ 57 < ((s[k]'hk).toNat : Int)) : s.data.toList.all dgOk = false := by
  have hk' : k < s.data.toList.length := by simpa using hk
  rw [← Bool.not_eq_true, List.all_eq_true]
  intro hall
  have := hall (s.data.toList[k]) (List.getElem_mem hk')
  simp only [dgOk, decide_eq_true_eq] at this
  have e : s.data.toList[k] = s[k]'hk := rfl
  rw [e] at this
  omega
theorem head_of {d : ByteArray} (h : 0 < d.size) : d.data.toList.head? = some (d[0]'h) := by
  rw [List.head?_eq_getElem?, List.getElem?_eq_getElem (by simpa using h)]
  rfl
theorem isNumB_all {s d : ByteArray} (h : d.data.toList = Lib.trimPrefix s.data.toList [45]) (hn : d.data.toList.all dgOk = false) : isNumB s.data.toList = false := by
  unfold isNumB
  rw [← h, hn, Bool.and_false]
theorem isNumB_empty {s d : ByteArray} (h : d.data.toList = Lib.trimPrefix s.data.toList [45]) (hn : ¬ 0 < d.size) : isNumB s.data.toList = false := by
  unfold isNumB
  rw [← h]
  have : d.data.toList = [] := List.eq_nil_of_length_eq_zero (by have e : d.data.toList.length = d.size := rfl; omega)
  rw [this]
  rfl
theorem isNumB_nought {s d : ByteArray} (h : d.data.toList = Lib.trimPrefix s.data.toList [45]) (h0 : 0 < d.size) (hz : (((d[0]'h0).toNat : Int) == 48) = true) (hT : (s.toList == [48]) = false) : isNumB s.data.toList = false := by
  unfold isNumB
  rw [← h, head_of h0]
  have e : d[0]'h0 = 48 := by
    have : (d[0]'h0).toNat = 48 := by have := beq_iff_eq.1 hz; omega
    have e2 : UInt8.ofNat (d[0]'h0).toNat = UInt8.ofNat 48 := by rw [this]
    simpa using e2
  rw [Lib.toList_data] at hT
  have hT' : (s.data.toList != [48]) = true := by simp [bne, hT]
  rw [e, hT']
  simp
theorem isNumB_yes {s d : ByteArray} (h : d.data.toList = Lib.trimPrefix s.data.toList [45]) (h0 : 0 < d.size) (hC : (((d[0]'h0).toNat : Int) == 48) = false ∨ (s.toList == [48]) = true) (ha : d.data.toList.all dgOk = true) : isNumB s.data.toList = true := by
  unfold isNumB
  rw [← h, head_of h0, ha, Bool.and_true]
  have hne : d.data.toList.isEmpty = false := by
    cases hh : d.data.toList with
    | nil =>
      have : d.data.toList.length = 0 := by rw [hh]; rfl
      have e : d.data.toList.length = d.size := rfl
      omega
    | cons c r => rfl
  rw [hne]
  rcases hC with hz | hT
  · have e : ¬ d[0]'h0 = 48 := by
      intro e
      rw [e] at hz
      simp at hz
    have : (some (d[0]'h0) == some (48 : UInt8)) = false := by simpa using e
    rw [this]
    rfl
  · rw [Lib.toList_data] at hT
    have hT' : (s.data.toList != [48]) = false := by simp [bne, hT]
    rw [hT']
    simp
theorem trimPrefix_ex (s p : ByteArray) (w : World) : Calls Tryd.prog 50 #[.string s, .string p] w fun e w' => ∃ d, e = .returned (.string d) ∧ Hid (d.data.toList = Lib.trimPrefix s.data.toList p.data.toList) ∧ d.size ≤ s.size ∧ w' = w := by
  refine (trimPrefix_any s p w).mono ?_
  rintro e w' ⟨rfl, rfl⟩
  refine ⟨_, rfl, by show _ = _; simp, ?_, rfl⟩
  show (Lib.trimPrefix s.data.toList p.data.toList).length ≤ s.data.toList.length
  unfold Lib.trimPrefix
  split
  · simp
  · exact Nat.le_refl _
set_option maxHeartbeats 1000000 in
theorem isNumber_any (s : ByteArray) (w : World) (hs : s.size ≤ 281474976710656) : Calls Tryd.prog 59 #[.string s] w fun e w' => e = .returned (.bool (numT s.data.toList).isSome) ∧ w' = w := by
  rw [← isNumB_eq]
  go_enter Tryd.func59, Tryd.ntmps59
  go_wp2_with fail
  refine (trimPrefix_ex _ _ _).mono ?_
  rintro e w1 ⟨d, rfl, hd, hds, rfl⟩
  by_cases h0 : 0 < d.size
  · have h0' : (0 : Int) < (d.size : Int) := by omega
    have hne : d.toList.isEmpty = false := by
      rw [Lib.toList_data]
      cases hh : d.data.toList with
      | nil =>
        have : d.data.toList.length = 0 := by rw [hh]; rfl
        have e : d.data.toList.length = d.size := rfl
        omega
      | cons c r => rfl
    have hx0 : 0 ≤ ((d[0]'h0).toNat : Int) := by omega
    have hx1 : ((d[0]'h0).toNat : Int) ≤ 255 := by have := (d[0]'h0).toNat_lt; omega
    by_cases hz : (((d[0]'h0).toNat : Int) == 48) = true
    · by_cases hT : (s.toList == [48]) = true
      · have HC : Hid ((((d[0]'h0).toNat : Int) == 48) = false ∨ (s.toList == [48]) = true) := .inr hT
        go_wp2
        go_loopw [20] (fun i wr => ∃ k : Nat, i = .int .i64 (k : Int) ∧ k ≤ d.size ∧ (∀ (j : Nat) (hj : j < d.size), j < k → 48 ≤ (d[j]'hj).toNat ∧ (d[j]'hj).toNat ≤ 57) ∧ wr = w1) (fun i _ => d.size - (intOf i).toNat)
        case atStart => exact ⟨0, rfl, by omega, fun j hj h => by omega, rfl⟩
        case round =>
          obtain ⟨k, rfl, hk, hA, rfl⟩ := hrel
          have HA : Hid (∀ (j : Nat) (hj : j < d.size), j < k → 48 ≤ (d[j]'hj).toNat ∧ (d[j]'hj).toNat ≤ 57) := hA
          clear hA
          by_cases hlt : k < d.size
          · have hlt' : (k : Int) < (d.size : Int) := by omega
            have hy0 : 0 ≤ ((d[k]'hlt).toNat : Int) := by omega
            have hy1 : ((d[k]'hlt).toNat : Int) ≤ 255 := by have := (d[k]'hlt).toNat_lt; omega
            by_cases hlo : ((d[k]'hlt).toNat : Int) < 48
            · have d1 : decide (((d[k]'hlt).toNat : Int) < 48) = true := by simpa using hlo
              have HN := all_dg_no k hlt (.inl hlo)
              go_wp2
              go_ret
              exact ⟨ret_bool (isNumB_all hd.out HN).symm, rfl⟩
            · have d1 : decide (((d[k]'hlt).toNat : Int) < 48) = false := by simpa using hlo
              by_cases hhi : 57 < ((d[k]'hlt).toNat : Int)
              · have d2 : decide (57 < ((d[k]'hlt).toNat : Int)) = true := by simpa using hhi
                have HN := all_dg_no k hlt (.inr hhi)
                go_wp2
                go_ret
                exact ⟨ret_bool (isNumB_all hd.out HN).symm, rfl⟩
              · have d2 : decide (57 < ((d[k]'hlt).toNat : Int)) = false := by simpa using hhi
                go_wp2
                go_roundw
                case rel =>
                  refine ⟨k + 1, by go_num, by omega, fun j hj h => ?_, trivial⟩
                  rcases Nat.lt_or_ge j k with g | g
                  · exact HA.out j hj g
                  · obtain rfl : j = k := by omega
                    omega
                case measure => simp [intOf]; omega
          · obtain rfl : k = d.size := by omega
            go_wp2
            go_ret
            exact ⟨ret_bool (isNumB_yes hd.out h0 HC.out (all_dg fun j hj => HA.out j hj hj)).symm, rfl⟩
      · have hT' : (s.toList == [48]) = false := by simpa using hT
        clear hT
        have HN := isNumB_nought hd.out h0 hz hT'
        go_wp2
        go_ret
        exact ⟨ret_bool HN.symm, rfl⟩
    · have hz' : (((d[0]'h0).toNat : Int) == 48) = false := by simpa using hz
      have HC : Hid ((((d[0]'h0).toNat : Int) == 48) = false ∨ (s.toList == [48]) = true) := .inl hz'
      clear hz
      go_wp2
      go_loopw [20] (fun i wr => ∃ k : Nat, i = .int .i64 (k : Int) ∧ k ≤ d.size ∧ (∀ (j : Nat) (hj : j < d.size), j < k → 48 ≤ (d[j]'hj).toNat ∧ (d[j]'hj).toNat ≤ 57) ∧ wr = w1) (fun i _ => d.size - (intOf i).toNat)
      case atStart => exact ⟨0, rfl, by omega, fun j hj h => by omega, rfl⟩
      case round =>
        obtain ⟨k, rfl, hk, hA, rfl⟩ := hrel
        have HA : Hid (∀ (j : Nat) (hj : j < d.size), j < k → 48 ≤ (d[j]'hj).toNat ∧ (d[j]'hj).toNat ≤ 57) := hA
        clear hA
        by_cases hlt : k < d.size
        · have hlt' : (k : Int) < (d.size : Int) := by omega
          have hy0 : 0 ≤ ((d[k]'hlt).toNat : Int) := by omega
          have hy1 : ((d[k]'hlt).toNat : Int) ≤ 255 := by have := (d[k]'hlt).toNat_lt; omega
          by_cases hlo : ((d[k]'hlt).toNat : Int) < 48
          · have d1 : decide (((d[k]'hlt).toNat : Int) < 48) = true := by simpa using hlo
            have HN := all_dg_no k hlt (.inl hlo)
            go_wp2
            go_ret
            exact ⟨ret_bool (isNumB_all hd.out HN).symm, rfl⟩
          · have d1 : decide (((d[k]'hlt).toNat : Int) < 48) = false := by simpa using hlo
            by_cases hhi : 57 < ((d[k]'hlt).toNat : Int)
            · have d2 : decide (57 < ((d[k]'hlt).toNat : Int)) = true := by simpa using hhi
              have HN := all_dg_no k hlt (.inr hhi)
              go_wp2
              go_ret
              exact ⟨ret_bool (isNumB_all hd.out HN).symm, rfl⟩
            · have d2 : decide (57 < ((d[k]'hlt).toNat : Int)) = false := by simpa using hhi
              go_wp2
              go_roundw
              case rel =>
                refine ⟨k + 1, by go_num, by omega, fun j hj h => ?_, trivial⟩
                rcases Nat.lt_or_ge j k with g | g
                · exact HA.out j hj g
                · obtain rfl : j = k := by omega
                  omega
              case measure => simp [intOf]; omega
        · obtain rfl : k = d.size := by omega
          go_wp2
          go_ret
          exact ⟨ret_bool (isNumB_yes hd.out h0 HC.out (all_dg fun j hj => HA.out j hj hj)).symm, rfl⟩
  · have HN := isNumB_empty hd.out h0
    have hE : d.toList.isEmpty = true := by
      rw [Lib.toList_data]
      have : d.data.toList = [] := List.eq_nil_of_length_eq_zero (by have e : d.data.toList.length = d.size := rfl; omega)
      rw [this]
      rfl
    go_wp2
    go_ret
    exact ⟨ret_bool HN.symm, rfl⟩
/-- The number that a text tells, if it lies within. -/
def numIn (l : List UInt8) (lo hi : Int) : Option Int := match numT l with
  | some v => if lo ≤ v ∧ v ≤ hi then some v else none
  | none => none
def nwV (l : List UInt8) (lo hi : Int) : Value := match numIn l lo hi with
  | some v => .tuple #[.int .i64 v, .bool true]
  | none => .tuple #[.int .i64 0, .bool false]
theorem nwV_none {l : List UInt8} {lo hi : Int} (h : numIn l lo hi = none) : nwV l lo hi = .tuple #[.int .i64 0, .bool false] := by unfold nwV; rw [h]
theorem nwV_some {l : List UInt8} {lo hi v : Int} (h : numIn l lo hi = some v) : nwV l lo hi = .tuple #[.int .i64 v, .bool true] := by unfold nwV; rw [h]
theorem ret_val {a b : Value} (h : a = b) : Ending.returned a = .returned b := by rw [h]
set_option maxHeartbeats 1000000 in
theorem numberWithin_any (s : ByteArray) (lo hi : Int) (w : World) (hs : s.size ≤ 281474976710656) (hlo : -9223372036854775808 ≤ lo) (hhi : hi ≤ 9223372036854775807) (hE : ErrsAt w) :
    Calls Tryd.prog 51 #[.string s, .int .i64 lo, .int .i64 hi] w fun e w' => e = .returned (nwV s.data.toList lo hi) ∧ Below w.heap.size w w' := by
  go_enter Tryd.func51, Tryd.ntmps51
  go_wp2_with fail
  refine (parse_any s w hs hE).mono ?_
  rintro e w1 ⟨hb, hv⟩
  rcases hv with ⟨v, hv, rfl⟩ | ⟨n, T, p, hv, rfl⟩
  · have Hv : Hid (Lib.parseIntB 64 s.data.toList = .ok v) := hv
    clear hv
    by_cases hn : (numT s.data.toList).isSome = true
    · have ht : numT s.data.toList = some v := by
        obtain ⟨u, hu⟩ := Option.isSome_iff_exists.1 hn
        rcases numT_parse hu with ⟨_, _, h⟩ | ⟨_, h⟩
        · rw [Hv.out] at h; cases h; exact hu
        · rw [Hv.out] at h; cases h
      by_cases h1 : lo ≤ v
      · by_cases h2 : v ≤ hi
        · have hN := nwV_some (lo := lo) (hi := hi) (l := s.data.toList) (v := v) (by unfold numIn; rw [ht]; simp [h1, h2])
          go_wp2_with (go_at_call 59; refine (isNumber_any s _ hs).mono ?_; rintro e w2 ⟨rfl, rfl⟩; rw [hn]; try dsimp only)
          go_ret2
          exact ⟨ret_val hN.symm, hb⟩
        · have h2' : hi < v := by omega
          have hN := nwV_none (lo := lo) (hi := hi) (l := s.data.toList) (by unfold numIn; rw [ht]; simp [h1, h2])
          go_wp2_with (go_at_call 59; refine (isNumber_any s _ hs).mono ?_; rintro e w2 ⟨rfl, rfl⟩; rw [hn]; try dsimp only)
          go_ret2
          exact ⟨ret_val hN.symm, hb⟩
      · have h1' : v < lo := by omega
        have hN := nwV_none (lo := lo) (hi := hi) (l := s.data.toList) (by unfold numIn; rw [ht]; simp [h1])
        go_wp2_with (go_at_call 59; refine (isNumber_any s _ hs).mono ?_; rintro e w2 ⟨rfl, rfl⟩; rw [hn]; try dsimp only)
        go_ret2
        exact ⟨ret_val hN.symm, hb⟩
    · have hn' : (numT s.data.toList).isSome = false := by simpa using hn
      have hN := nwV_none (lo := lo) (hi := hi) (l := s.data.toList) (by unfold numIn; rw [Option.isSome_eq_false_iff, Option.isNone_iff_eq_none] at hn'; rw [hn'])
      go_wp2_with (go_at_call 59; refine (isNumber_any s _ hs).mono ?_; rintro e w2 ⟨rfl, rfl⟩; rw [hn']; try dsimp only)
      go_ret2
      exact ⟨ret_val hN.symm, hb⟩
  · have hN := nwV_none (lo := lo) (hi := hi) (l := s.data.toList) (by
      unfold numIn
      cases ht : numT s.data.toList with
      | none => rfl
      | some u =>
        rcases numT_parse ht with ⟨_, _, h⟩ | ⟨h, _⟩
        · exact absurd h (hv u)
        · simp only
          rw [if_neg (by omega)])
    clear hv
    go_wp2
    go_ret2
    exact ⟨ret_val hN.symm, hb⟩
end Go.Proofs.YtphgheojfnlgjaaDoor
