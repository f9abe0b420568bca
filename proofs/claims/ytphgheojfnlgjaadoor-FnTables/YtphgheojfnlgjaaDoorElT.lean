/- Contracts of impl.isOf and of the model's l04Element: whether an element is what a letter of a form asks for, at the six letters, every element whose texts have at most 2^20 bytes. -/
import Derived.Test.YtphgheojfnlgjaaDoorNum
import Derived.Test.YtphgheojfnlgjaaDoorNumS
import Derived.Test.YtphgheojfnlgjaaDoorNameB
import Derived.Test.YtphgheojfnlgjaaDoorPartB
namespace Go.Proofs.YtphgheojfnlgjaaDoor
open Go.ChangeShapes Go.WideShapes Go.ChangeAt Go.RowKit
def inB (l : List UInt8) (lo hi : Int) : Bool := match numT l with
  | some v => decide (lo ≤ v ∧ v ≤ hi)
  | none => false
def zB (l : List UInt8) : Bool := match numT l with
  | some v => decide (-1000000 ≤ v ∧ v ≤ 1000000 ∧ v ≠ 0)
  | none => false
theorem numIn_inB (l : List UInt8) (lo hi : Int) : (numIn l lo hi).isSome = inB l lo hi := by
  unfold numIn inB
  cases numT l with
  | none => rfl
  | some v =>
    simp only
    by_cases h : lo ≤ v ∧ v ≤ hi
    · rw [if_pos h]; simp [h]
    · rw [if_neg h]; simp [h]
theorem nwV_snd (l : List UInt8) (lo hi : Int) : ∃ n, nwV l lo hi = .tuple #[.int .i64 n, .bool (inB l lo hi)] := by
  rw [← numIn_inB]
  unfold nwV
  cases numIn l lo hi with
  | none => exact ⟨0, rfl⟩
  | some v => exact ⟨v, rfl⟩
theorem plain_pos {l : List UInt8} (h : plainD l = true) (h0 : l.head? ≠ some 48) : 1 ≤ dgVal 0 l := by
  obtain ⟨hne, hall, _⟩ := plainD_facts h
  cases l with
  | nil => exact absurd rfl hne
  | cons x r =>
    have hx := hall
    simp only [List.all_cons, Bool.and_eq_true, dgOk, decide_eq_true_eq] at hx
    have hx1 : x.toNat ≠ 48 := by
      intro e
      apply h0
      simp only [List.head?_cons, Option.some.injEq]
      have : UInt8.ofNat x.toNat = UInt8.ofNat 48 := by rw [e]
      simpa using this
    have := dgVal_le r (0 * 10 + (x.toNat - 48))
    rw [dgVal_cons]
    omega
theorem plain_45 {l : List UInt8} (h : plainD l = true) : l.head? ≠ some 45 := by
  obtain ⟨hne, hall, _⟩ := plainD_facts h
  cases l with
  | nil => exact absurd rfl hne
  | cons x r =>
    have hx := hall
    simp only [List.all_cons, Bool.and_eq_true, dgOk, decide_eq_true_eq] at hx
    simp only [List.head?_cons, ne_eq, Option.some.injEq]
    intro e
    subst e
    have e45 : (45 : UInt8).toNat = 45 := rfl
    rw [e45] at hx
    omega
theorem z_eq (l : List UInt8) : inB (Lib.trimPrefix l [45]) 1 1000000 = zB l := by
  rw [trim45]
  split
  · rename_i h45
    cases l with
    | nil => simp at h45
    | cons c r =>
      simp only [List.head?_cons, Option.some.injEq] at h45
      subst h45
      simp only [List.tail_cons]
      have hN : numT (45 :: r) = if plainD r && (r.head? != some 48) then some (-(dgVal 0 r : Int)) else none := rfl
      unfold zB
      rw [hN]
      by_cases hp : (plainD r && (r.head? != some 48)) = true
      · rw [if_pos hp]
        simp only [Bool.and_eq_true, bne_iff_ne] at hp
        have h1 := plain_pos hp.1 hp.2
        have hR : numT r = some (dgVal 0 r : Int) := by
          unfold numT
          rw [if_neg (plain_45 hp.1), if_pos hp.1]
        unfold inB
        rw [hR]
        simp only
        rw [Bool.eq_iff_iff, decide_eq_true_eq, decide_eq_true_eq]
        omega
      · rw [if_neg hp]
        unfold inB
        cases hR : numT r with
        | none => rfl
        | some v =>
          simp only [decide_eq_false_iff_not]
          rintro ⟨h1, h2⟩
          unfold numT at hR
          split at hR
          · split at hR
            · cases hR; omega
            · cases hR
          · split at hR
            · rename_i hpl
              cases hR
              apply hp
              simp only [Bool.and_eq_true, bne_iff_ne]
              refine ⟨hpl, fun e => ?_⟩
              have hl := (plainD_facts hpl).2.2 e
              cases r with
              | nil => simp at e
              | cons x q =>
                simp only [List.length_cons] at hl
                have hq : q = [] := List.eq_nil_of_length_eq_zero (by omega)
                subst hq
                simp only [List.head?_cons, Option.some.injEq] at e
                subst e
                rw [dgVal_cons, dgVal_nil] at h1
                simp at h1
            · cases hR
  · rename_i h45
    unfold inB zB
    cases hR : numT l with
    | none => rfl
    | some v =>
      have h0 : 0 ≤ v := by
        unfold numT at hR
        rw [if_neg h45] at hR
        split at hR
        · cases hR; omega
        · cases hR
      simp only
      rw [Bool.eq_iff_iff, decide_eq_true_eq, decide_eq_true_eq]
      omega
def emptyB (t : ByteArray) : Bool := t.toList.isEmpty
/-- Is the text what the letter asks for? -/
def wordB (c : Int) (t : ByteArray) : Bool :=
  if c = 114 then nameB t else if c = 116 then !emptyB t && partB t else if c = 100 then inB t.data.toList 0 100000
  else if c = 122 then zB t.data.toList else if c = 113 then inB t.data.toList 1 1000000 else inB t.data.toList 0 1000000000
def letterB (c : Int) : Bool := decide (c = 114 ∨ c = 116 ∨ c = 100 ∨ c = 122 ∨ c = 113 ∨ c = 110)
def elemB (c : Int) (ss : List ByteArray) : Bool := decide (ss.length = 1) && wordB c (ss[0]?.getD ⟨#[]⟩)
set_option maxHeartbeats 1000000 in
theorem isDay_any (t : ByteArray) (w : World) (hs : t.size ≤ 281474976710656) (hE : ErrsAt w) : Calls Tryd.prog 49 #[.string t] w fun e w' => e = .returned (.bool (inB t.data.toList 0 100000)) ∧ Below w.heap.size w w' := by
  obtain ⟨n, hn⟩ := nwV_snd t.data.toList 0 100000
  go_enter Tryd.func49, Tryd.ntmps49
  go_wp2_with fail
  refine (numberWithin_any t 0 100000 w hs (by omega) (by omega) hE).mono ?_
  rintro e w1 ⟨rfl, hb⟩
  rw [hn]
  go_wp2
  go_ret
  exact ⟨rfl, hb⟩
set_option maxHeartbeats 2000000 in
theorem wordIsOf_any (c : Int) (t : ByteArray) (w : World) (hc : letterB c = true) (hs : t.size ≤ 281474976710656) (hE : ErrsAt w) :
    Calls Tryd.prog 29 #[.int .u8 c, .string t] w fun e w' => e = .returned (.bool (wordB c t)) ∧ Below w.heap.size w w' := by
  simp only [letterB, decide_eq_true_eq] at hc
  rcases hc with rfl | rfl | rfl | rfl | rfl | rfl
  · go_enter Tryd.func29, Tryd.ntmps29
    go_wp2_with (go_at_call 47; refine (isName_any _ _).mono ?_; rintro e w1 ⟨rfl, rfl⟩; try dsimp only)
    go_ret
    exact ⟨ret_bool (by simp [wordB]), Below.refl _ _⟩
  · have hW : wordB 116 t = (!emptyB t && partB t) := by simp [wordB]
    rw [hW]
    have HE : emptyB t = t.toList.isEmpty := rfl
    cases hE : t.toList.isEmpty with
    | true =>
      rw [HE, hE]
      go_enter Tryd.func29, Tryd.ntmps29
      go_wp2_with (go_at_call 48; refine (isPart_any _ _).mono ?_; rintro e w1 ⟨rfl, rfl⟩; try dsimp only)
      go_ret
      exact ⟨ret_bool rfl, Below.refl _ _⟩
    | false =>
      rw [HE, hE]
      go_enter Tryd.func29, Tryd.ntmps29
      go_wp2_with (go_at_call 48; refine (isPart_any _ _).mono ?_; rintro e w1 ⟨rfl, rfl⟩; try dsimp only)
      go_ret
      exact ⟨ret_bool (by simp), Below.refl _ _⟩
  · go_enter Tryd.func29, Tryd.ntmps29
    go_wp2_with (go_at_call 49; refine (isDay_any t w hs hE).mono ?_; rintro e w1 ⟨rfl, hb⟩; try dsimp only)
    go_ret
    exact ⟨ret_bool (by simp [wordB]), hb⟩
  · have hW : wordB 122 t = zB t.data.toList := by simp [wordB]
    rw [hW, ← z_eq]
    go_enter Tryd.func29, Tryd.ntmps29
    go_wp2_with fail
    refine (trimPrefix_ex _ _ _).mono ?_
    rintro e w1 ⟨d, rfl, hd, hds, rfl⟩
    obtain ⟨n, hn⟩ := nwV_snd d.data.toList 1 1000000
    have Hn : Hid (nwV d.data.toList 1 1000000 = .tuple #[.int .i64 n, .bool (inB d.data.toList 1 1000000)]) := hn
    clear hn
    go_wp2_with (go_at_call 51; refine (numberWithin_any d 1 1000000 _ (by omega) (by omega) (by omega) hE).mono ?_; rintro e w2 ⟨rfl, hb⟩; rw [Hn.out]; try dsimp only)
    go_ret
    exact ⟨ret_bool (by rw [hd.out]), hb⟩
  · obtain ⟨n, hn⟩ := nwV_snd t.data.toList 1 1000000
    have Hn : Hid (nwV t.data.toList 1 1000000 = .tuple #[.int .i64 n, .bool (inB t.data.toList 1 1000000)]) := hn
    clear hn
    go_enter Tryd.func29, Tryd.ntmps29
    go_wp2_with (go_at_call 51; refine (numberWithin_any t 1 1000000 _ (by omega) (by omega) (by omega) hE).mono ?_; rintro e w2 ⟨rfl, hb⟩; rw [Hn.out]; try dsimp only)
    go_ret
    exact ⟨ret_bool (by simp [wordB]), hb⟩
  · obtain ⟨n, hn⟩ := nwV_snd t.data.toList 0 1000000000
    have Hn : Hid (nwV t.data.toList 0 1000000000 = .tuple #[.int .i64 n, .bool (inB t.data.toList 0 1000000000)]) := hn
    clear hn
    go_enter Tryd.func29, Tryd.ntmps29
    go_wp2_with (go_at_call 51; refine (numberWithin_any t 0 1000000000 _ (by omega) (by omega) (by omega) hE).mono ?_; rintro e w2 ⟨rfl, hb⟩; rw [Hn.out]; try dsimp only)
    go_ret
    exact ⟨ret_bool (by simp [wordB]), hb⟩
theorem elemB_one {c : Int} {ss : List ByteArray} {s : ByteArray} (h1 : ss.length = 1) (hs : ss[0]? = some s) : elemB c ss = wordB c s := by
  unfold elemB
  rw [hs]
  simp [h1]
theorem elemB_no {c : Int} {ss : List ByteArray} (h1 : ¬ ss.length = 1) : elemB c ss = false := by simp [elemB, h1]
set_option maxHeartbeats 1000000 in
theorem isOf_any (c : Int) (v : Value) (ss : List ByteArray) (w : World) (hc : letterB c = true) (h : RowS w v ss) (hB : BdS 1048576 ss) (hE : ErrsAt w) :
    Calls Tryd.prog 21 #[.int .u8 c, .agg #[v]] w fun e w' => e = .returned (.bool (elemB c ss)) ∧ Below w.heap.size w w' := by
  obtain ⟨a, cap, rfl⟩ := h.val
  by_cases h1 : ss.length = 1
  · have h1' : ((ss.length : Int) == 1) = true := by rw [beq_iff_eq]; omega
    have hk : 0 < ss.length := by omega
    have hE1 : ErrsAt (w.alloc (.cells #[.slice a ss.length cap] 55)) := hE.below ((Below.refl _ _).alloc (Nat.le_refl _) _)
    obtain ⟨b, o, c1, s, e, hs, hcl, hsz⟩ := (h.below ((Below.refl _ _).alloc (Nat.le_refl _) (.cells #[.slice a ss.length cap] 55))).at hk
    simp only [Value.slice.injEq, true_and] at e
    obtain ⟨rfl, rfl⟩ := e
    have hss : s.size ≤ 281474976710656 := by have := hB.2 0 s hs; omega
    rw [elemB_one h1 hs]
    clear hs h hB
    have hk' : (0 : Int) < (ss.length : Int) := by omega
    rw [Nat.add_zero] at hcl
    clear h1 hk
    go_enter Tryd.func21, Tryd.ntmps21
    go_wp2_with (go_at_call 29; refine (wordIsOf_any c s _ hc hss hE1).mono ?_; rintro e w1 ⟨rfl, hb⟩; try dsimp only)
    go_ret
    exact ⟨ret_bool (by simp), ((Below.refl _ _).alloc (Nat.le_refl _) _).trans (hb.mono (by simp))⟩
  · have h1' : ((ss.length : Int) == 1) = false := by rw [beq_eq_false_iff_ne]; omega
    rw [elemB_no h1]
    clear h
    go_enter Tryd.func21, Tryd.ntmps21
    go_wp2_with (go_at_call 29; fail)
    go_ret
    exact ⟨ret_bool rfl, (Below.refl _ _).alloc (Nat.le_refl _) _⟩
set_option maxHeartbeats 1000000 in
theorem l01Qty_any (n : Int) (w : World) : Calls Tryd.prog 36 #[.int .i64 n] w fun e w' => e = .returned (.bool (decide (1 ≤ n ∧ n ≤ 1000000))) ∧ w' = w := by
  go_enter Tryd.func36, Tryd.ntmps36
  go_wp2
  all_goals
    go_ret
    refine ⟨ret_bool ?_, rfl⟩
    simp at *
    try omega
set_option maxHeartbeats 1000000 in
theorem l01Day_any (n : Int) (w : World) : Calls Tryd.prog 37 #[.int .i64 n] w fun e w' => e = .returned (.bool (decide (0 ≤ n ∧ n ≤ 100000))) ∧ w' = w := by
  go_enter Tryd.func37, Tryd.ntmps37
  go_wp2
  all_goals
    go_ret
    refine ⟨ret_bool ?_, rfl⟩
    simp at *
    try omega
/-- What the model's reading leaves of a test on the number. -/
def L1 (t : ByteArray) (n : Int) (b : Bool) : Prop := (b = true ∧ numT t.data.toList = some n) ∨ (b = false ∧ ∀ v : Int, numT t.data.toList = some v → v ≤ -1000000000000 ∨ 1000000000000 ≤ v)
theorem L1.inB {t : ByteArray} {n : Int} {b : Bool} (h : L1 t n b) {lo hi : Int} (h0 : -1000000000000 < lo) (h1 : hi < 1000000000000) : inB t.data.toList lo hi = (b && decide (lo ≤ n ∧ n ≤ hi)) := by
  unfold Go.Proofs.YtphgheojfnlgjaaDoor.inB
  rcases h with ⟨rfl, e⟩ | ⟨rfl, hv⟩
  · rw [e]; simp
  · cases hn : numT t.data.toList with
    | none => rfl
    | some v =>
      have := hv v hn
      simp only [Bool.false_and, decide_eq_false_iff_not]
      omega
theorem L1.zB {t : ByteArray} {n : Int} {b : Bool} (h : L1 t n b) : zB t.data.toList = (b && decide (-1000000 ≤ n ∧ n ≤ 1000000 ∧ n ≠ 0)) := by
  unfold Go.Proofs.YtphgheojfnlgjaaDoor.zB
  rcases h with ⟨rfl, e⟩ | ⟨rfl, hv⟩
  · rw [e]; simp
  · cases hn : numT t.data.toList with
    | none => rfl
    | some v =>
      have := hv v hn
      simp only [Bool.false_and, decide_eq_false_iff_not]
      omega
set_option maxHeartbeats 4000000 in
theorem l04Element_any (c : Int) (v : Value) (ss : List ByteArray) (w : World) (hc : letterB c = true) (h : RowS w v ss) (hB : BdS 1048576 ss) :
    Calls Tryd.prog 26 #[.int .u8 c, .agg #[v]] w fun e w' => e = .returned (.bool (elemB c ss)) ∧ Below w.heap.size w w' := by
  obtain ⟨a, cap, rfl⟩ := h.val
  by_cases h1 : ss.length = 1
  · have h1' : ((ss.length : Int) == 1) = true := by rw [beq_iff_eq]; omega
    have hk : 0 < ss.length := by omega
    obtain ⟨b, o, c1, s, e, hs, hcl, hsz⟩ := (h.below ((Below.refl _ _).alloc (Nat.le_refl _) (.cells #[.slice a ss.length cap] 55))).at hk
    simp only [Value.slice.injEq, true_and] at e
    obtain ⟨rfl, rfl⟩ := e
    have hss : s.size ≤ 281474976710656 := by have := hB.2 0 s hs; omega
    rw [elemB_one h1 hs]
    clear hs h hB
    have hk' : (0 : Int) < (ss.length : Int) := by omega
    rw [Nat.add_zero] at hcl
    clear h1 hk
    go_enter Tryd.func26, Tryd.ntmps26
    go_wp2_with fail
    refine (l01Num_any s _ hss).mono ?_
    rintro e w1 ⟨n, ok, rfl, hL, hb⟩
    have HL : L1 s n ok := hL
    have HB : Hid (Below w.heap.size w w1) := ((Below.refl _ _).alloc (Nat.le_refl _) _).trans (hb.mono (by simp))
    clear hL hb hcl
    simp only [letterB, decide_eq_true_eq] at hc
    rcases hc with rfl | rfl | rfl | rfl | rfl | rfl
    · go_wp2_with (go_at_call 35; refine (l01Name_any _ _).mono ?_; rintro e w2 ⟨rfl, rfl⟩; try dsimp only)
      go_ret
      exact ⟨ret_bool (by simp [wordB]), HB.out⟩
    · have hW : wordB 116 s = (!emptyB s && partB s) := by simp [wordB]
      have Hw : Hid (wordB 116 s = (!emptyB s && partB s)) := hW
      clear hW
      have HE : emptyB s = s.toList.isEmpty := rfl
      cases hE : s.toList.isEmpty with
      | true =>
        go_wp2_with (go_at_call 38; refine (l02Part_any _ _).mono ?_; rintro e w2 ⟨rfl, rfl⟩; try dsimp only)
        go_ret
        exact ⟨ret_bool (by rw [Hw.out, HE, hE]; rfl), HB.out⟩
      | false =>
        go_wp2_with (go_at_call 38; refine (l02Part_any _ _).mono ?_; rintro e w2 ⟨rfl, rfl⟩; try dsimp only)
        go_ret
        exact ⟨ret_bool (by rw [Hw.out, HE, hE]; simp), HB.out⟩
    · have hW : wordB 100 s = (ok && decide (0 ≤ n ∧ n ≤ 100000)) := by rw [← HL.inB (by omega) (by omega)]; simp [wordB]
      have Hw : Hid (wordB 100 s = (ok && decide (0 ≤ n ∧ n ≤ 100000))) := hW
      clear hW HL
      cases ok <;> (go_wp2_with (go_at_call 37; refine (l01Day_any _ _).mono ?_; rintro e w2 ⟨rfl, rfl⟩; try dsimp only)) <;> (go_ret; exact ⟨ret_bool (by rw [Hw.out]; simp), HB.out⟩)
    · have hW : wordB 122 s = (ok && decide (-1000000 ≤ n ∧ n ≤ 1000000 ∧ n ≠ 0)) := by rw [← HL.zB]; simp [wordB]
      have Hw : Hid (wordB 122 s = (ok && decide (-1000000 ≤ n ∧ n ≤ 1000000 ∧ n ≠ 0))) := hW
      clear hW HL
      cases ok <;> go_wp2 <;> (go_ret; refine ⟨ret_bool ?_, HB.out⟩; rw [Hw.out, Bool.eq_iff_iff]; simp at *; try omega)
    · have hW : wordB 113 s = (ok && decide (1 ≤ n ∧ n ≤ 1000000)) := by rw [← HL.inB (by omega) (by omega)]; simp [wordB]
      have Hw : Hid (wordB 113 s = (ok && decide (1 ≤ n ∧ n ≤ 1000000))) := hW
      clear hW HL
      cases ok <;> (go_wp2_with (go_at_call 36; refine (l01Qty_any _ _).mono ?_; rintro e w2 ⟨rfl, rfl⟩; try dsimp only)) <;> (go_ret; exact ⟨ret_bool (by rw [Hw.out]; simp), HB.out⟩)
    · have hW : wordB 110 s = (ok && decide (0 ≤ n ∧ n ≤ 1000000000)) := by rw [← HL.inB (by omega) (by omega)]; simp [wordB]
      have Hw : Hid (wordB 110 s = (ok && decide (0 ≤ n ∧ n ≤ 1000000000))) := hW
      clear hW HL
      cases ok <;> go_wp2 <;> (go_ret; refine ⟨ret_bool ?_, HB.out⟩; rw [Hw.out]; simp at *; try omega)
  · have h1' : ((ss.length : Int) == 1) = false := by rw [beq_eq_false_iff_ne]; omega
    rw [elemB_no h1]
    clear h
    go_enter Tryd.func26, Tryd.ntmps26
    go_wp2_with fail
    go_ret
    exact ⟨ret_bool rfl, (Below.refl _ _).alloc (Nat.le_refl _) _⟩
end Go.Proofs.YtphgheojfnlgjaaDoor
