/- Texts of ours put together: ElT, FormP, Tab, IsKind. -/
import Derived.Test.YtkaolpnbddjdpaaGreatDoorG02
import Derived.Test.YtkaolpnbddjdpaaGreatDoorG03
import Derived.Test.YtkaolpnbddjdpaaGreatDoorG01
import Derived.Test.YtkaolpnbddjdpaaGreatDoorG00
import Derived.Lib.Bytealg
import Derived.Lib.SlTrimSet
import Derived.Test.YtkaolpnbddjdpaaGreatDoorRows
import Derived.WalkKit
import Derived.ProofKit
import Derived.OpenShut
import Derived.Below
import Derived.Stop.Joined
import Derived.MakeChecks
import Derived.LaidLaws
import Derived.ShutString
import Derived.ChangeOld
import Derived.WalkLawsBesides
import Derived.WalkSpells
import Derived.Deep.Light
import Derived.Handy
namespace Go.Proofs.YtkaolpnbddjdpaaGreatDoor
open Go.ChangeShapes Go.WideShapes Go.ChangeAt Go.RowKit
def inB (l : List UInt8) (lo hi : Int) : Bool := match numT l with
  | some v => decide (lo ≤ v ∧ v ≤ hi)
  | none => false
def zB (l : List UInt8) : Bool := match numT l with
  | some v => decide (-1000000 ≤ v ∧ v ≤ 1000000 ∧ v ≠ 0)
  | none => false
theorem numIn_inB (l : List UInt8) (lo hi : Int) : (numIn l lo hi).isSome = inB l lo hi := by
  unfold numIn inB
  cases numT l with
  | none => rfl
  | some v =>
    simp only
    by_cases h : lo ≤ v ∧ v ≤ hi
    · rw [if_pos h]; simp [h]
    · rw [if_neg h]; simp [h]
theorem nwV_snd (l : List UInt8) (lo hi : Int) : ∃ n, nwV l lo hi = .tuple #[.int .i64 n, .bool (inB l lo hi)] := by
  rw [← numIn_inB]
  unfold nwV
  cases numIn l lo hi with
  | none => exact ⟨0, rfl⟩
  | some v => exact ⟨v, rfl⟩
theorem plain_pos {l : List UInt8} (h : plainD l = true) (h0 : l.head? ≠ some 48) : 1 ≤ dgVal 0 l := by
  obtain ⟨hne, hall, _⟩ := plainD_facts h
  cases l with
  | nil => exact absurd rfl hne
  | cons x r =>
    have hx := hall
    simp only [List.all_cons, Bool.and_eq_true, dgOk, decide_eq_true_eq] at hx
    have hx1 : x.toNat ≠ 48 := by
      intro e
      apply h0
      simp only [List.head?_cons, Option.some.injEq]
      have : UInt8.ofNat x.toNat = UInt8.ofNat 48 := by rw [e]
      simpa using this
    have := dgVal_le r (0 * 10 + (x.toNat - 48))
    rw [dgVal_cons]
    omega
theorem plain_45 {l : List UInt8} (h : plainD l = true) : l.head? ≠ some 45 := by
  obtain ⟨hne, hall, _⟩ := plainD_facts h
  cases l with
  | nil => exact absurd rfl hne
  | cons x r =>
    have hx := hall
    simp only [List.all_cons, Bool.and_eq_true, dgOk, decide_eq_true_eq] at hx
    simp only [List.head?_cons, ne_eq, Option.some.injEq]
    intro e
    subst e
    have e45 : (45 : UInt8).toNat = 45 := rfl
    rw [e45] at hx
    omega
theorem z_eq (l : List UInt8) : inB (Lib.trimPrefix l [45]) 1 1000000 = zB l := by
  rw [trim45]
  split
  · rename_i h45
    cases l with
    | nil => simp at h45
    | cons c r =>
      simp only [List.head?_cons, Option.some.injEq] at h45
      subst h45
      simp only [List.tail_cons]
      have hN : numT (45 :: r) = if plainD r && (r.head? != some 48) then some (-(dgVal 0 r : Int)) else none := rfl
      unfold zB
      rw [hN]
      by_cases hp : (plainD r && (r.head? != some 48)) = true
      · rw [if_pos hp]
        simp only [Bool.and_eq_true, bne_iff_ne] at hp
        have h1 := plain_pos hp.1 hp.2
        have hR : numT r = some (dgVal 0 r : Int) := by
          unfold numT
          rw [if_neg (plain_45 hp.1), if_pos hp.1]
        unfold inB
        rw [hR]
        simp only
        rw [Bool.eq_iff_iff, decide_eq_true_eq, decide_eq_true_eq]
        omega
      · rw [if_neg hp]
        unfold inB
        cases hR : numT r with
        | none => rfl
        | some v =>
          simp only [decide_eq_false_iff_not]
          rintro ⟨h1, h2⟩
          unfold numT at hR
          split at hR
          · split at hR
            · cases hR; omega
            · cases hR
          · split at hR
            · rename_i hpl
              cases hR
              apply hp
              simp only [Bool.and_eq_true, bne_iff_ne]
              refine ⟨hpl, fun e => ?_⟩
              have hl := (plainD_facts hpl).2.2 e
              cases r with
              | nil => simp at e
              | cons x q =>
                simp only [List.length_cons] at hl
                have hq : q = [] := List.eq_nil_of_length_eq_zero (by omega)
                subst hq
                simp only [List.head?_cons, Option.some.injEq] at e
                subst e
                rw [dgVal_cons, dgVal_nil] at h1
                simp at h1
            · cases hR
  · rename_i h45
    unfold inB zB
    cases hR : numT l with
    | none => rfl
    | some v =>
      have h0 : 0 ≤ v := by
        unfold numT at hR
        rw [if_neg h45] at hR
        split at hR
        · cases hR; omega
        · cases hR
      simp only
      rw [Bool.eq_iff_iff, decide_eq_true_eq, decide_eq_true_eq]
      omega
def emptyB (t : ByteArray) : Bool := t.toList.isEmpty
/-- Is the text what the letter asks for? -/
def wordB (c : Int) (t : ByteArray) : Bool :=
  if c = 114 then nameB t else if c = 116 then !emptyB t && partB t else if c = 100 then inB t.data.toList 0 100000
  else if c = 122 then zB t.data.toList else if c = 113 then inB t.data.toList 1 1000000 else inB t.data.toList 0 1000000000
def letterB (c : Int) : Bool := decide (c = 114 ∨ c = 116 ∨ c = 100 ∨ c = 122 ∨ c = 113 ∨ c = 110)
def elemB (c : Int) (ss : List ByteArray) : Bool := decide (ss.length = 1) && wordB c (ss[0]?.getD ⟨#[]⟩)
set_option maxHeartbeats 1000000 in
theorem isDay_any (t : ByteArray) (w : World) (hs : t.size ≤ 281474976710656) (hE : ErrsAt w) : Calls Tryz.prog 227 #[.string t] w fun e w' => e = .returned (.bool (inB t.data.toList 0 100000)) ∧ Below w.heap.size w w' := by
  obtain ⟨n, hn⟩ := nwV_snd t.data.toList 0 100000
  go_enter Tryz.func227, Tryz.ntmps227
  go_wp2_with fail
  refine (numberWithin_any t 0 100000 w hs (by omega) (by omega) hE).mono ?_
  rintro e w1 ⟨rfl, hb⟩
  rw [hn]
  go_wp2
  go_ret
  exact ⟨rfl, hb⟩
set_option maxHeartbeats 2000000 in
theorem wordIsOf_any (c : Int) (t : ByteArray) (w : World) (hc : letterB c = true) (hs : t.size ≤ 281474976710656) (hE : ErrsAt w) :
    Calls Tryz.prog 211 #[.int .u8 c, .string t] w fun e w' => e = .returned (.bool (wordB c t)) ∧ Below w.heap.size w w' := by
  simp only [letterB, decide_eq_true_eq] at hc
  rcases hc with rfl | rfl | rfl | rfl | rfl | rfl
  · go_enter Tryz.func211, Tryz.ntmps211
    go_wp2_with (go_at_call 159; refine (isName_any _ _).mono ?_; rintro e w1 ⟨rfl, rfl⟩; try dsimp only)
    go_ret
    exact ⟨ret_bool (by simp [wordB]), Below.refl _ _⟩
  · have hW : wordB 116 t = (!emptyB t && partB t) := by simp [wordB]
    rw [hW]
    have HE : emptyB t = t.toList.isEmpty := rfl
    cases hE : t.toList.isEmpty with
    | true =>
      rw [HE, hE]
      go_enter Tryz.func211, Tryz.ntmps211
      go_wp2_with (go_at_call 168; refine (isPart_any _ _).mono ?_; rintro e w1 ⟨rfl, rfl⟩; try dsimp only)
      go_ret
      exact ⟨ret_bool rfl, Below.refl _ _⟩
    | false =>
      rw [HE, hE]
      go_enter Tryz.func211, Tryz.ntmps211
      go_wp2_with (go_at_call 168; refine (isPart_any _ _).mono ?_; rintro e w1 ⟨rfl, rfl⟩; try dsimp only)
      go_ret
      exact ⟨ret_bool (by simp), Below.refl _ _⟩
  · go_enter Tryz.func211, Tryz.ntmps211
    go_wp2_with (go_at_call 227; refine (isDay_any t w hs hE).mono ?_; rintro e w1 ⟨rfl, hb⟩; try dsimp only)
    go_ret
    exact ⟨ret_bool (by simp [wordB]), hb⟩
  · have hW : wordB 122 t = zB t.data.toList := by simp [wordB]
    rw [hW, ← z_eq]
    go_enter Tryz.func211, Tryz.ntmps211
    go_wp2_with fail
    refine (trimPrefix_ex _ _ _).mono ?_
    rintro e w1 ⟨d, rfl, hd, hds, rfl⟩
    obtain ⟨n, hn⟩ := nwV_snd d.data.toList 1 1000000
    have Hn : Hid (nwV d.data.toList 1 1000000 = .tuple #[.int .i64 n, .bool (inB d.data.toList 1 1000000)]) := hn
    clear hn
    go_wp2_with (go_at_call 229; refine (numberWithin_any d 1 1000000 _ (by omega) (by omega) (by omega) hE).mono ?_; rintro e w2 ⟨rfl, hb⟩; rw [Hn.out]; try dsimp only)
    go_ret
    exact ⟨ret_bool (by rw [hd.out]), hb⟩
  · obtain ⟨n, hn⟩ := nwV_snd t.data.toList 1 1000000
    have Hn : Hid (nwV t.data.toList 1 1000000 = .tuple #[.int .i64 n, .bool (inB t.data.toList 1 1000000)]) := hn
    clear hn
    go_enter Tryz.func211, Tryz.ntmps211
    go_wp2_with (go_at_call 229; refine (numberWithin_any t 1 1000000 _ (by omega) (by omega) (by omega) hE).mono ?_; rintro e w2 ⟨rfl, hb⟩; rw [Hn.out]; try dsimp only)
    go_ret
    exact ⟨ret_bool (by simp [wordB]), hb⟩
  · obtain ⟨n, hn⟩ := nwV_snd t.data.toList 0 1000000000
    have Hn : Hid (nwV t.data.toList 0 1000000000 = .tuple #[.int .i64 n, .bool (inB t.data.toList 0 1000000000)]) := hn
    clear hn
    go_enter Tryz.func211, Tryz.ntmps211
    go_wp2_with (go_at_call 229; refine (numberWithin_any t 0 1000000000 _ (by omega) (by omega) (by omega) hE).mono ?_; rintro e w2 ⟨rfl, hb⟩; rw [Hn.out]; try dsimp only)
    go_ret
    exact ⟨ret_bool (by simp [wordB]), hb⟩
theorem elemB_one {c : Int} {ss : List ByteArray} {s : ByteArray} (h1 : ss.length = 1) (hs : ss[0]? = some s) : elemB c ss = wordB c s := by
  unfold elemB
  rw [hs]
  simp [h1]
theorem elemB_no {c : Int} {ss : List ByteArray} (h1 : ¬ ss.length = 1) : elemB c ss = false := by simp [elemB, h1]
set_option maxHeartbeats 1000000 in
theorem isOf_any (c : Int) (v : Value) (ss : List ByteArray) (w : World) (hc : letterB c = true) (h : RowS w v ss) (hB : BdS 1048576 ss) (hE : ErrsAt w) :
    Calls Tryz.prog 203 #[.int .u8 c, .agg #[v]] w fun e w' => e = .returned (.bool (elemB c ss)) ∧ Below w.heap.size w w' := by
  obtain ⟨a, cap, rfl⟩ := h.val
  by_cases h1 : ss.length = 1
  · have h1' : ((ss.length : Int) == 1) = true := by rw [beq_iff_eq]; omega
    have hk : 0 < ss.length := by omega
    have hE1 : ErrsAt (w.alloc (.cells #[.slice a ss.length cap] 141)) := hE.below ((Below.refl _ _).alloc (Nat.le_refl _) _)
    obtain ⟨b, o, c1, s, e, hs, hcl, hsz⟩ := (h.below ((Below.refl _ _).alloc (Nat.le_refl _) (.cells #[.slice a ss.length cap] 141))).at hk
    simp only [Value.slice.injEq, true_and] at e
    obtain ⟨rfl, rfl⟩ := e
    have hss : s.size ≤ 281474976710656 := by have := hB.2 0 s hs; omega
    rw [elemB_one h1 hs]
    clear hs h hB
    have hk' : (0 : Int) < (ss.length : Int) := by omega
    rw [Nat.add_zero] at hcl
    clear h1 hk
    go_enter Tryz.func203, Tryz.ntmps203
    go_wp2_with (go_at_call 211; refine (wordIsOf_any c s _ hc hss hE1).mono ?_; rintro e w1 ⟨rfl, hb⟩; try dsimp only)
    go_ret
    exact ⟨ret_bool (by simp), ((Below.refl _ _).alloc (Nat.le_refl _) _).trans (hb.mono (by simp))⟩
  · have h1' : ((ss.length : Int) == 1) = false := by rw [beq_eq_false_iff_ne]; omega
    rw [elemB_no h1]
    clear h
    go_enter Tryz.func203, Tryz.ntmps203
    go_wp2_with (go_at_call 211; fail)
    go_ret
    exact ⟨ret_bool rfl, (Below.refl _ _).alloc (Nat.le_refl _) _⟩
set_option maxHeartbeats 1000000 in
theorem l01Qty_any (n : Int) (w : World) : Calls Tryz.prog 189 #[.int .i64 n] w fun e w' => e = .returned (.bool (decide (1 ≤ n ∧ n ≤ 1000000))) ∧ w' = w := by
  go_enter Tryz.func189, Tryz.ntmps189
  go_wp2
  all_goals
    go_ret
    refine ⟨ret_bool ?_, rfl⟩
    simp at *
    try omega
set_option maxHeartbeats 1000000 in
theorem l01Day_any (n : Int) (w : World) : Calls Tryz.prog 190 #[.int .i64 n] w fun e w' => e = .returned (.bool (decide (0 ≤ n ∧ n ≤ 100000))) ∧ w' = w := by
  go_enter Tryz.func190, Tryz.ntmps190
  go_wp2
  all_goals
    go_ret
    refine ⟨ret_bool ?_, rfl⟩
    simp at *
    try omega
/-- What the model's reading leaves of a test on the number. -/
def L1 (t : ByteArray) (n : Int) (b : Bool) : Prop := (b = true ∧ numT t.data.toList = some n) ∨ (b = false ∧ ∀ v : Int, numT t.data.toList = some v → v ≤ -1000000000000 ∨ 1000000000000 ≤ v)
theorem L1.inB {t : ByteArray} {n : Int} {b : Bool} (h : L1 t n b) {lo hi : Int} (h0 : -1000000000000 < lo) (h1 : hi < 1000000000000) : inB t.data.toList lo hi = (b && decide (lo ≤ n ∧ n ≤ hi)) := by
  unfold Go.Proofs.YtkaolpnbddjdpaaGreatDoor.inB
  rcases h with ⟨rfl, e⟩ | ⟨rfl, hv⟩
  · rw [e]; simp
  · cases hn : numT t.data.toList with
    | none => rfl
    | some v =>
      have := hv v hn
      simp only [Bool.false_and, decide_eq_false_iff_not]
      omega
theorem L1.zB {t : ByteArray} {n : Int} {b : Bool} (h : L1 t n b) : zB t.data.toList = (b && decide (-1000000 ≤ n ∧ n ≤ 1000000 ∧ n ≠ 0)) := by
  unfold Go.Proofs.YtkaolpnbddjdpaaGreatDoor.zB
  rcases h with ⟨rfl, e⟩ | ⟨rfl, hv⟩
  · rw [e]; simp
  · cases hn : numT t.data.toList with
    | none => rfl
    | some v =>
      have := hv v hn
      simp only [Bool.false_and, decide_eq_false_iff_not]
      omega
set_option maxHeartbeats 4000000 in
theorem l04Element_any (c : Int) (v : Value) (ss : List ByteArray) (w : World) (hc : letterB c = true) (h : RowS w v ss) (hB : BdS 1048576 ss) :
    Calls Tryz.prog 174 #[.int .u8 c, .agg #[v]] w fun e w' => e = .returned (.bool (elemB c ss)) ∧ Below w.heap.size w w' := by
  obtain ⟨a, cap, rfl⟩ := h.val
  by_cases h1 : ss.length = 1
  · have h1' : ((ss.length : Int) == 1) = true := by rw [beq_iff_eq]; omega
    have hk : 0 < ss.length := by omega
    obtain ⟨b, o, c1, s, e, hs, hcl, hsz⟩ := (h.below ((Below.refl _ _).alloc (Nat.le_refl _) (.cells #[.slice a ss.length cap] 141))).at hk
    simp only [Value.slice.injEq, true_and] at e
    obtain ⟨rfl, rfl⟩ := e
    have hss : s.size ≤ 281474976710656 := by have := hB.2 0 s hs; omega
    rw [elemB_one h1 hs]
    clear hs h hB
    have hk' : (0 : Int) < (ss.length : Int) := by omega
    rw [Nat.add_zero] at hcl
    clear h1 hk
    go_enter Tryz.func174, Tryz.ntmps174
    go_wp2_with fail
    refine (l01Num_any s _ hss).mono ?_
    rintro e w1 ⟨n, ok, rfl, hL, hb⟩
    have HL : L1 s n ok := hL
    have HB : Hid (Below w.heap.size w w1) := ((Below.refl _ _).alloc (Nat.le_refl _) _).trans (hb.mono (by simp))
    clear hL hb hcl
    simp only [letterB, decide_eq_true_eq] at hc
    rcases hc with rfl | rfl | rfl | rfl | rfl | rfl
    · go_wp2_with (go_at_call 78; refine (l01Name_any _ _).mono ?_; rintro e w2 ⟨rfl, rfl⟩; try dsimp only)
      go_ret
      exact ⟨ret_bool (by simp [wordB]), HB.out⟩
    · have hW : wordB 116 s = (!emptyB s && partB s) := by simp [wordB]
      have Hw : Hid (wordB 116 s = (!emptyB s && partB s)) := hW
      clear hW
      have HE : emptyB s = s.toList.isEmpty := rfl
      cases hE : s.toList.isEmpty with
      | true =>
        go_wp2_with (go_at_call 98; refine (l02Part_any _ _).mono ?_; rintro e w2 ⟨rfl, rfl⟩; try dsimp only)
        go_ret
        exact ⟨ret_bool (by rw [Hw.out, HE, hE]; rfl), HB.out⟩
      | false =>
        go_wp2_with (go_at_call 98; refine (l02Part_any _ _).mono ?_; rintro e w2 ⟨rfl, rfl⟩; try dsimp only)
        go_ret
        exact ⟨ret_bool (by rw [Hw.out, HE, hE]; simp), HB.out⟩
    · have hW : wordB 100 s = (ok && decide (0 ≤ n ∧ n ≤ 100000)) := by rw [← HL.inB (by omega) (by omega)]; simp [wordB]
      have Hw : Hid (wordB 100 s = (ok && decide (0 ≤ n ∧ n ≤ 100000))) := hW
      clear hW HL
      cases ok <;> (go_wp2_with (go_at_call 190; refine (l01Day_any _ _).mono ?_; rintro e w2 ⟨rfl, rfl⟩; try dsimp only)) <;> (go_ret; exact ⟨ret_bool (by rw [Hw.out]; simp), HB.out⟩)
    · have hW : wordB 122 s = (ok && decide (-1000000 ≤ n ∧ n ≤ 1000000 ∧ n ≠ 0)) := by rw [← HL.zB]; simp [wordB]
      have Hw : Hid (wordB 122 s = (ok && decide (-1000000 ≤ n ∧ n ≤ 1000000 ∧ n ≠ 0))) := hW
      clear hW HL
      cases ok <;> go_wp2 <;> (go_ret; refine ⟨ret_bool ?_, HB.out⟩; rw [Hw.out, Bool.eq_iff_iff]; simp at *; try omega)
    · have hW : wordB 113 s = (ok && decide (1 ≤ n ∧ n ≤ 1000000)) := by rw [← HL.inB (by omega) (by omega)]; simp [wordB]
      have Hw : Hid (wordB 113 s = (ok && decide (1 ≤ n ∧ n ≤ 1000000))) := hW
      clear hW HL
      cases ok <;> (go_wp2_with (go_at_call 189; refine (l01Qty_any _ _).mono ?_; rintro e w2 ⟨rfl, rfl⟩; try dsimp only)) <;> (go_ret; exact ⟨ret_bool (by rw [Hw.out]; simp), HB.out⟩)
    · have hW : wordB 110 s = (ok && decide (0 ≤ n ∧ n ≤ 1000000000)) := by rw [← HL.inB (by omega) (by omega)]; simp [wordB]
      have Hw : Hid (wordB 110 s = (ok && decide (0 ≤ n ∧ n ≤ 1000000000))) := hW
      clear hW HL
      cases ok <;> go_wp2 <;> (go_ret; refine ⟨ret_bool ?_, HB.out⟩; rw [Hw.out]; simp at *; try omega)
  · have h1' : ((ss.length : Int) == 1) = false := by rw [beq_eq_false_iff_ne]; omega
    rw [elemB_no h1]
    clear h
    go_enter Tryz.func174, Tryz.ntmps174
    go_wp2_with fail
    go_ret
    exact ⟨ret_bool rfl, (Below.refl _ _).alloc (Nat.le_refl _) _⟩
end Go.Proofs.YtkaolpnbddjdpaaGreatDoor
namespace Go.Proofs.YtkaolpnbddjdpaaGreatDoor
open Go.Lib
def ltB (c : UInt8) : Bool := letterB (c.toNat : Int)
theorem ltB_63 : ltB 63 = false := by decide
/-- Going through a form. -/
def fm : List UInt8 → List UInt8 → Int → Option (List UInt8 × Int)
  | [], ls, m => some (ls, m)
  | c :: r, ls, m => if c = 63 then (if 0 ≤ m then none else fm r ls ls.length) else if ltB c then fm r (ls ++ [c]) m else none
/-- The letters of a form, and how many of them are needed. -/
def formF (f : List UInt8) : Option (List UInt8 × Nat) := match fm f [] (-1) with
  | some (ls, m) => some (ls, if m < 0 then ls.length else m.toNat)
  | none => none
theorem fm_plain (l r : List UInt8) (h : ∀ c ∈ l, c ≠ 63) : ∀ (ls : List UInt8) (m : Int), fm (l ++ r) ls m = if l.all ltB then fm r (ls ++ l) m else none := by
  induction l with
  | nil => intro ls m; simp
  | cons c l ih =>
    intro ls m
    have hc := h c (List.mem_cons_self ..)
    have hl := ih (fun x hx => h x (List.mem_cons_of_mem _ hx))
    rw [List.cons_append, fm, if_neg hc]
    by_cases hb : ltB c = true
    · rw [if_pos hb, hl]
      simp [hb]
    · rw [if_neg hb]
      simp [hb]
theorem fm_behind (r : List UInt8) : ∀ (ls : List UInt8) (m : Int), 0 ≤ m → fm r ls m = if r.all ltB then some (ls ++ r, m) else none := by
  induction r with
  | nil => intro ls m _; simp [fm]
  | cons c r ih =>
    intro ls m hm
    rw [fm]
    by_cases hc : c = 63
    · subst hc
      rw [if_pos rfl, if_pos hm]
      simp [ltB_63]
    · rw [if_neg hc]
      by_cases hb : ltB c = true
      · rw [if_pos hb, ih _ _ hm]
        simp [hb]
      · rw [if_neg hb]
        simp [hb]
theorem fm_all (r : List UInt8) : ∀ (ls : List UInt8) (m : Int) (p : List UInt8 × Int), ls.all ltB = true → fm r ls m = some p → p.1.all ltB = true := by
  induction r with
  | nil => intro ls m p h e; simp only [fm, Option.some.injEq] at e; subst e; exact h
  | cons c r ih =>
    intro ls m p h e
    rw [fm] at e
    split at e
    · split at e
      · cases e
      · exact ih _ _ _ h e
    · split at e
      · rename_i hb
        exact ih _ _ _ (by rw [List.all_append, h]; simp [hb]) e
      · cases e
theorem formF_all {f ls : List UInt8} {m : Nat} (h : formF f = some (ls, m)) : ls.all ltB = true := by
  unfold formF at h
  cases hf : fm f [] (-1) with
  | none => rw [hf] at h; cases h
  | some p =>
    rw [hf] at h
    obtain ⟨l, n⟩ := p
    simp only [Option.some.injEq, Prod.mk.injEq] at h
    have := fm_all f [] (-1) _ rfl hf
    rw [← h.1]
    exact this
/-- What cutting at the first mark tells. -/
theorem formF_cut (n s : List UInt8) (hn : ∀ c ∈ n, c ≠ 63) : formF (n ++ 63 :: s) = if (n ++ s).all ltB then some (n ++ s, n.length) else none := by
  unfold formF
  rw [fm_plain n _ hn, List.all_append]
  by_cases h1 : n.all ltB = true
  · rw [if_pos h1, List.nil_append, fm, if_pos rfl, if_neg (by omega), fm_behind _ _ _ (by omega), h1, Bool.true_and]
    by_cases h2 : s.all ltB = true
    · rw [if_pos h2, if_pos h2]
      simp only
      rw [if_neg (by omega), Int.toNat_natCast]
    · rw [if_neg h2, if_neg h2]
  · rw [if_neg h1]
    simp [h1]
theorem formF_whole (n : List UInt8) (hn : ∀ c ∈ n, c ≠ 63) : formF n = if n.all ltB then some (n, n.length) else none := by
  unfold formF
  have := fm_plain n [] hn [] (-1)
  rw [List.append_nil] at this
  rw [this]
  by_cases h1 : n.all ltB = true
  · rw [if_pos h1, if_pos h1, List.nil_append, fm]
    rfl
  · rw [if_neg h1, if_neg h1]
theorem trimS_empty (l : List UInt8) : trimS l [114, 110, 113, 122, 100, 116] = [] ↔ l.all ltB = true := by
  have hcs : ∀ c : UInt8, ([114, 110, 113, 122, 100, 116] : List UInt8).contains c = ltB c := by
    intro c
    rw [Bool.eq_iff_iff]
    simp only [ltB, letterB, decide_eq_true_eq, List.contains_iff_mem, List.mem_cons, List.not_mem_nil, or_false]
    constructor
    · rintro (rfl | rfl | rfl | rfl | rfl | rfl) <;> decide
    · intro h
      have key : ∀ k : Nat, c.toNat = k → c = UInt8.ofNat k := by intro k e; rw [← e]; simp
      rcases h with h | h | h | h | h | h
      · exact .inl (key 114 (by omega))
      · exact .inr (.inr (.inr (.inr (.inr (key 116 (by omega))))))
      · exact .inr (.inr (.inr (.inr (.inl (key 100 (by omega))))))
      · exact .inr (.inr (.inr (.inl (key 122 (by omega)))))
      · exact .inr (.inr (.inl (key 113 (by omega))))
      · exact .inr (.inl (key 110 (by omega)))
  have hf : (fun c => ([114, 110, 113, 122, 100, 116] : List UInt8).contains c) = ltB := funext hcs
  have dw : ∀ x : List UInt8, x.dropWhile ltB = [] ↔ x.all ltB = true := by
    intro x
    induction x with
    | nil => simp
    | cons c r ih =>
      by_cases hc : ltB c = true
      · rw [List.dropWhile_cons_of_pos hc, ih]; simp [hc]
      · rw [List.dropWhile_cons_of_neg hc]; simp [hc]
  unfold trimS trimLeftS trimRightS
  rw [hf, dw]
  constructor
  · intro h
    by_cases ha : l.all ltB = true
    · exact ha
    · exfalso
      have hr : ¬ l.reverse.all ltB = true := by rw [List.all_reverse]; exact ha
      have hne : l.reverse.dropWhile ltB ≠ [] := fun e => hr ((dw _).1 e)
      rw [List.all_reverse] at h
      cases hd : l.reverse.dropWhile ltB with
      | nil => exact hne hd
      | cons c r =>
        have h1 := List.head?_dropWhile_not ltB l.reverse
        rw [hd] at h1 h
        simp only [List.head?_cons] at h1
        simp only [List.all_cons, Bool.and_eq_true] at h
        rw [h.1] at h1
        cases h1
  · intro ha
    have : l.reverse.dropWhile ltB = [] := (dw _).2 (by rw [List.all_reverse]; exact ha)
    rw [this]
    rfl
/-- Is the element at a place none of the letter? -/
def badAt (ls : List UInt8) (es : List (List ByteArray)) (i : Nat) : Prop := ls.length ≤ i ∨ elemB ((ls[i]?.getD 0).toNat : Int) (es[i]?.getD []) = false
def FrOut (ls : List UInt8) (m : Nat) (es : List (List ByteArray)) (r : Int) : Prop :=
  (∃ k : Nat, k < es.length ∧ r = (k : Int) ∧ badAt ls es k ∧ ∀ j, j < k → ¬ badAt ls es j) ∨ ((∀ j, j < es.length → ¬ badAt ls es j) ∧ ((es.length < m ∧ r = (es.length : Int)) ∨ (m ≤ es.length ∧ r = -1)))
theorem FrOut.one {ls : List UInt8} {m : Nat} {es : List (List ByteArray)} {r r' : Int} (h : FrOut ls m es r) (h' : FrOut ls m es r') : r = r' := by
  rcases h with ⟨k, hk, rfl, hb, ha⟩ | ⟨ha, hr⟩
  · rcases h' with ⟨k', hk', rfl, hb', ha'⟩ | ⟨ha', _⟩
    · rcases Nat.lt_trichotomy k k' with g | g | g
      · exact absurd hb (ha' k g)
      · rw [g]
      · exact absurd hb' (ha k' g)
    · exact absurd hb (ha' k hk)
  · rcases h' with ⟨k', hk', rfl, hb', ha'⟩ | ⟨ha', hr'⟩
    · exact absurd hb' (ha k' hk')
    · rcases hr with ⟨h1, rfl⟩ | ⟨h1, rfl⟩ <;> rcases hr' with ⟨h2, rfl⟩ | ⟨h2, rfl⟩ <;> first | rfl | omega
/-- What FormRight tells. -/
def FrO (f : ByteArray) (es : List (List ByteArray)) (r : Int) : Prop :=
  if 20000 < f.size then r = 0 else match formF f.data.toList with
    | none => r = 0
    | some (ls, m) => FrOut ls m es r
theorem FrO.one {f : ByteArray} {es : List (List ByteArray)} {r r' : Int} (h : FrO f es r) (h' : FrO f es r') : r = r' := by
  unfold FrO at h h'
  split at h
  · rename_i g
    rw [if_pos g] at h'
    rw [h, h']
  · rename_i g
    rw [if_neg g] at h'
    cases hf : formF f.data.toList with
    | none => rw [hf] at h h'; simp only at h h'; rw [h, h']
    | some p =>
      obtain ⟨ls, m⟩ := p
      rw [hf] at h h'
      exact FrOut.one h h'
theorem FrO.big {f : ByteArray} {es : List (List ByteArray)} (h : 20000 < f.size) : FrO f es 0 := by unfold FrO; rw [if_pos h]
theorem FrO.none_ {f : ByteArray} {es : List (List ByteArray)} (h : f.size ≤ 20000) (hf : formF f.data.toList = none) : FrO f es 0 := by unfold FrO; rw [if_neg (by omega), hf]
theorem FrO.some_ {f : ByteArray} {es : List (List ByteArray)} {ls : List UInt8} {m : Nat} {r : Int} (h : f.size ≤ 20000) (hf : formF f.data.toList = some (ls, m)) (hr : FrOut ls m es r) : FrO f es r := by unfold FrO; rw [if_neg (by omega), hf]; exact hr
end Go.Proofs.YtkaolpnbddjdpaaGreatDoor
namespace Go.Proofs.YtkaolpnbddjdpaaGreatDoor
open Go.ChangeShapes Go.WideShapes Go.ChangeAt Go.RowKit
/-- A row: tag, least, most, form. -/
structure TRow where
  tag : List UInt8
  least : Int
  most : Int
  form : List UInt8
def TRow.datum {H : Type} (r : TRow) : DataW H := .agg [.lit (.string r.tag), .lit (.int .i64 r.least), .lit (.int .i64 r.most), .lit (.string r.form)]
def bs (l : List UInt8) : ByteArray := ⟨⟨l⟩⟩
theorem bs_of {s : ByteArray} {l : List UInt8} (h : s.data.toList = l) : s = bs l := by
  obtain ⟨⟨x⟩⟩ := s
  simp at h
  subst h
  rfl
def docS : TRow := ⟨[68, 79, 67], 1, 1, [114, 100]⟩
def docL : TRow := ⟨[68, 79, 67], 1, 1, [114, 114, 100]⟩
def notR : TRow := ⟨[78, 79, 84], 0, 2, [116]⟩
/-- The rows of each kind. -/
def rowsK : Nat → List TRow
  | 1 => [docS, notR, ⟨[76, 73, 78], 1, 20, [110, 114, 113, 63, 110]⟩]
  | 2 => [docL, ⟨[76, 73, 78], 1, 20, [110, 113, 63, 116]⟩]
  | 3 => [docL, notR, ⟨[76, 73, 78], 1, 20, [110, 113]⟩]
  | 4 => [docL, ⟨[76, 73, 78], 1, 20, [110, 113, 63, 116]⟩]
  | 5 => [docS, ⟨[73, 84, 77], 1, 20, [114, 110]⟩]
  | 6 => [docS, ⟨[73, 84, 77], 1, 20, [114, 122, 63, 116]⟩]
  | 7 => [docS, ⟨[65, 67, 75], 1, 1, [110, 110, 63, 110]⟩]
  | _ => []
def nameK : Nat → List UInt8
  | 1 => [79, 82, 68, 69, 82]
  | 2 => [65, 78, 83, 87, 69, 82]
  | 3 => [83, 69, 78, 84]
  | 4 => [71, 79, 84]
  | 5 => [83, 84, 79, 67, 75]
  | 6 => [65, 68, 74, 85, 83, 84]
  | 7 => [72, 69, 65, 82, 68]
  | _ => []
def kindD {H : Type} (k : Nat) : DataW H := .agg [.lit (.string (nameK k)), .slice ((rowsK k).map TRow.datum) []]
theorem laid_is {H : Type} : (Rows.laid_loop_example_g00096_impl_tables : DataW H) = .agg [.agg [.lit (.string []), .nil], kindD 1, kindD 2, kindD 3, kindD 4, kindD 5, kindD 6, kindD 7] := by kernel_rfl
/-- A row's four cells. -/
def RowAt (w : World) (b off : Nat) (r : TRow) : Prop :=
  w.cell? ⟨b, off, none⟩ = some (.string (bs r.tag)) ∧ w.cell? ⟨b, off + 1, none⟩ = some (.int .i64 r.least) ∧ w.cell? ⟨b, off + 2, none⟩ = some (.int .i64 r.most) ∧ w.cell? ⟨b, off + 3, none⟩ = some (.string (bs r.form))
def RowsAt (w : World) (b off : Nat) (rs : List TRow) : Prop := ∀ i r, rs[i]? = some r → RowAt w b (off + i * 4) r
/-- What the variable holds at a kind. -/
def KindAt (w : World) (k : Nat) : Prop :=
  w.cell? ⟨0, k * 2, none⟩ = some (.string (bs (nameK k))) ∧
    ∃ b off cap, w.cell? ⟨0, k * 2 + 1, none⟩ = some (.slice (some ⟨b, off, none⟩) (rowsK k).length cap) ∧ (rowsK k).length ≤ cap ∧ cap ≤ maxLen ∧ b < w.heap.size ∧ RowsAt w b off (rowsK k)
def TablesAt (w : World) : Prop := ∀ k, 1 ≤ k → k ≤ 7 → KindAt w k
theorem gTab : Tryz.prog.globalNamed "loop.example/g00096/impl.tables" = some 0 := by kernel_rfl
theorem tTab : (Tryz.prog.globals[0]?).map (·.type) = some 208 := by kernel_rfl
theorem cTab : Tryz.prog.cellsOf 208 = 16 := by kernel_rfl
theorem cKind : Tryz.prog.cellsOf 207 = 2 := by kernel_rfl
theorem cRow : Tryz.prog.cellsOf 189 = 4 := by kernel_rfl
theorem cStr : Tryz.prog.cellsOf 9 = 1 := by kernel_rfl
theorem cI64 : Tryz.prog.cellsOf 2 = 1 := by kernel_rfl
theorem cRows : Tryz.prog.cellsOf 186 = 1 := by kernel_rfl
theorem list4 {α : Type} {l : List α} (h : l.length = 4) : ∃ a b c d, l = [a, b, c, d] := by
  match l, h with
  | [a, b, c, d], _ => exact ⟨a, b, c, d, rfl⟩
theorem list2 {α : Type} {l : List α} (h : l.length = 2) : ∃ a b, l = [a, b] := by
  match l, h with
  | [a, b], _ => exact ⟨a, b, rfl⟩
theorem row_cells {w : World} {sp : Nat → Bool} {held : Bool} {fuel : Nat} {cs : List Value} {r : TRow} {p : List MemPlace}
    (h : DataW.trod (fun _ => ()) Tryz.prog w 0 sp held fuel 189 cs = some (r.datum, p)) : cs = [.string (bs r.tag), .int .i64 r.least, .int .i64 r.most, .string (bs r.form)] := by
  obtain ⟨xs, n, rfl, hx, hl, hn, hf⟩ := DataW.trod_struct Tryz.underlying189 h
  rw [cRow] at hl
  obtain ⟨c0, c1, c2, c3, rfl⟩ := list4 hl
  obtain ⟨x0, x1, x2, x3, rfl⟩ := list4 (show xs.length = 4 from hn)
  simp only [TRow.datum, Prod.mk.injEq, List.map_cons, List.map_nil, DataW.agg.injEq, List.cons.injEq, and_true] at hx
  obtain ⟨⟨e0, e1, e2, e3⟩, _⟩ := hx
  obtain ⟨s0, k0, q0, _⟩ := DataW.trod_string Tryz.underlying9 (hf 0 _ rfl)
  obtain ⟨n1, k1, q1, _⟩ := DataW.trod_int Tryz.underlying2 (hf 1 _ rfl)
  obtain ⟨n2, k2, q2, _⟩ := DataW.trod_int Tryz.underlying2 (hf 2 _ rfl)
  obtain ⟨s3, k3, q3, _⟩ := DataW.trod_string Tryz.underlying9 (hf 3 _ rfl)
  rw [q0] at e0; rw [q1] at e1; rw [q2] at e2; rw [q3] at e3
  simp only [DataW.lit.injEq, Lit.string.injEq, Lit.int.injEq, true_and] at e0 e1 e2 e3
  simp [cStr, cI64] at k0 k1 k2 k3
  rw [k0, k1, k2, k3, bs_of e0.symm, bs_of e3.symm, e1, e2]
theorem add_plain (b off i : Nat) : (⟨b, off, none⟩ : Addr).add i = ⟨b, off + i, none⟩ := by unfold Addr.add; split <;> simp_all
theorem rows_at {w : World} {held : Bool} {n : Nat} {a : Addr} {len : Nat} {rs : List TRow} {elems : List (DataW Unit × List MemPlace)} (hlen : elems.length = len)
    (he : elems.map (·.1) = rs.map TRow.datum)
    (h : ∀ i, i < len → (w.cells? 0 (a.add (i * Tryz.prog.cellsOf 189)) (Tryz.prog.cellsOf 189)).bind (DataW.trod (fun _ => ()) Tryz.prog w 0 (fun _ => true) held n 189) = elems[i]?) (h0 : 0 < len) :
    len = rs.length ∧ ∃ b off, a = ⟨b, off, none⟩ ∧ b < w.heap.size ∧ RowsAt w b off rs := by
  have hrl : elems.length = rs.length := by simpa using congrArg List.length he
  have key : ∀ i r, rs[i]? = some r → w.cells? 0 (a.add (i * 4)) 4 = some [.string (bs r.tag), .int .i64 r.least, .int .i64 r.most, .string (bs r.form)] := by
    intro i r hr
    have hi : i < rs.length := (List.getElem?_eq_some_iff.1 hr).1
    have h1 := h i (by omega)
    rw [cRow] at h1
    have hx : (elems.map (·.1))[i]? = (rs.map TRow.datum)[i]? := by rw [he]
    simp only [List.getElem?_map, hr, Option.map_some] at hx
    obtain ⟨x, hx1, hx2⟩ := Option.map_eq_some_iff.1 hx
    rw [hx1] at h1
    obtain ⟨cs, hc, hd⟩ := Option.bind_eq_some_iff.1 h1
    obtain ⟨d, p⟩ := x
    simp only at hx2
    subst hx2
    rw [hc, row_cells hd]
  have hr0 : ∃ r, rs[0]? = some r := ⟨rs[0]'(by omega), by simp [List.getElem?_eq_getElem (show 0 < rs.length by omega)]⟩
  obtain ⟨r0, hr0⟩ := hr0
  have c0 := (World.cells?_some (key 0 r0 hr0)).2.2 0 (by omega)
  obtain ⟨b, off, spot⟩ := a
  have hspot : spot = none := by
    have h2 : w.cell? (((⟨b, off, spot⟩ : Addr).add (0 * 4)).add 0) = some (.string (bs r0.tag)) := by simpa using c0
    have := World.cell?_spot h2
    simpa [Addr.add] using this
  subst hspot
  refine ⟨by omega, b, off, rfl, ?_, ?_⟩
  · have := World.block_lt_of_cell? _ _ (show w.cell? (((⟨b, off, none⟩ : Addr).add (0 * 4)).add 0) = some (.string (bs r0.tag)) by simpa using c0)
    simpa [Addr.add] using this
  · intro i r hr
    have k := (World.cells?_some (key i r hr)).2.2
    have k0 := k 0 (by omega)
    have k1 := k 1 (by omega)
    have k2 := k 2 (by omega)
    have k3 := k 3 (by omega)
    simp only [add_plain, List.getElem?_cons_zero, List.getElem?_cons_succ, Nat.add_zero] at k0 k1 k2 k3
    exact ⟨k0, k1, k2, k3⟩
theorem kind_at {w : World} {held : Bool} {fuel : Nat} {cs : List Value} {k : Nat} {p : List MemPlace} (hk : rowsK k ≠ [])
    (h : DataW.trod (fun _ => ()) Tryz.prog w 0 (fun _ => true) held fuel 207 cs = some (kindD k, p)) :
    ∃ b off cap, cs = [.string (bs (nameK k)), .slice (some ⟨b, off, none⟩) (rowsK k).length cap] ∧ (rowsK k).length ≤ cap ∧ cap ≤ maxLen ∧ b < w.heap.size ∧ RowsAt w b off (rowsK k) := by
  obtain ⟨xs, n, rfl, hx, hl, hn, hf⟩ := DataW.trod_struct Tryz.underlying207 h
  rw [cKind] at hl
  obtain ⟨c0, c1, rfl⟩ := list2 hl
  obtain ⟨x0, x1, rfl⟩ := list2 (show xs.length = 2 from hn)
  simp only [kindD, Prod.mk.injEq, List.map_cons, List.map_nil, DataW.agg.injEq, List.cons.injEq, and_true] at hx
  obtain ⟨⟨e0, e1⟩, _⟩ := hx
  obtain ⟨s0, k0, q0, _⟩ := DataW.trod_string Tryz.underlying9 (hf 0 _ rfl)
  rw [q0] at e0
  simp only [DataW.lit.injEq, Lit.string.injEq] at e0
  simp [cStr] at k0
  rcases DataW.trod_slice Tryz.underlying186 (hf 1 _ rfl) with ⟨_, q1⟩ | ⟨a, len, cap, elems, rest, n1, _, k1, q1, _, hlc, hm, hel, hrow, _, _⟩
  · rw [q1] at e1; cases e1
  · rw [q1] at e1
    simp only [DataW.slice.injEq] at e1
    simp [cRows] at k1
    have hpos : 0 < len := by
      have : elems.length = (rowsK k).length := by simpa using congrArg List.length e1.1.symm
      have := List.length_pos_iff.2 hk
      omega
    obtain ⟨hlen, b, off, rfl, hb, hR⟩ := rows_at hel e1.1.symm hrow hpos
    refine ⟨b, off, cap, ?_, by omega, hm, hb, hR⟩
    rw [k0, k1, bs_of e0.symm, hlen]
theorem TablesAt.below {w w' : World} {n0 : Nat} (h : TablesAt w) (hb : Below n0 w w') (hn : n0 = w.heap.size) : TablesAt w' := by
  subst hn
  intro k h1 h7
  obtain ⟨e0, b, off, cap, e1, hc1, hc2, hbl, hR⟩ := h k h1 h7
  have l0 := World.block_lt_of_cell? _ _ e0
  have l1 := World.block_lt_of_cell? _ _ e1
  refine ⟨(hb.cell l0).trans e0, b, off, cap, (hb.cell l1).trans e1, hc1, hc2, Nat.lt_of_lt_of_le hbl hb.size, ?_⟩
  intro i r hr
  obtain ⟨r0, r1, r2, r3⟩ := hR i r hr
  exact ⟨(hb.cell (p := ⟨_, _, _⟩) hbl).trans r0, (hb.cell (p := ⟨_, _, _⟩) hbl).trans r1, (hb.cell (p := ⟨_, _, _⟩) hbl).trans r2, (hb.cell (p := ⟨_, _, _⟩) hbl).trans r3⟩
end Go.Proofs.YtkaolpnbddjdpaaGreatDoor
namespace Go.Proofs.YtkaolpnbddjdpaaGreatDoor
open Go.ChangeShapes Go.WideShapes Go.ChangeAt Go.RowKit
def kindB (n : Int) : Bool := decide (1 ≤ n ∧ n ≤ 7)
set_option maxHeartbeats 400000 in
theorem isKind_any (c : Int) (w : World) : Calls Tryz.prog 122 #[.int .i64 c] w fun e w' => e = .returned (.bool (kindB c)) ∧ w' = w := by
  go_enter Tryz.func122, Tryz.ntmps122
  go_wp2
  all_goals
    go_ret
    refine ⟨ret_bool ?_, rfl⟩
    simp [kindB] at *
    try omega
end Go.Proofs.YtkaolpnbddjdpaaGreatDoor
