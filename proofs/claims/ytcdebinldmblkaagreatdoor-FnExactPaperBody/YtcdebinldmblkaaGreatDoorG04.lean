/- Texts of ours put together: DeepRow, PartB, ElT. -/
import Derived.Test.YtcdebinldmblkaaGreatDoorG00
import Derived.Deep.QuietTactic
import Derived.BigQuiet
import Derived.BigRegion
import Derived.Test.YtcdebinldmblkaaGreatDoorG01
import Derived.Test.YtcdebinldmblkaaGreatDoorG02
import Derived.Test.YtcdebinldmblkaaGreatDoorG03
namespace Go.Proofs.YtcdebinldmblkaaGreatDoor
open Go.ChangeShapes Go.WideShapes Go.ChangeAt Go.RowKit
/-- A list of texts. -/
structure RowS (W : World) (v : Value) (ss : List ByteArray) : Prop where
  shape : ∃ a cap, v = .slice a ss.length cap ∧ (ss ≠ [] → ∃ b o, a = some ⟨b, o, none⟩ ∧ ∀ (i : Nat) (s : ByteArray), ss[i]? = some s → W.cell? ⟨b, o + i, none⟩ = some (.string s))
  len : ss.length ≤ 9223372036854775807
  sizes : ∀ (i : Nat) (s : ByteArray), ss[i]? = some s → s.size ≤ 9223372036854775807
theorem RowS.below {W W' : World} {v : Value} {ss : List ByteArray} (h : RowS W v ss) (hb : Below W.heap.size W W') : RowS W' v ss := by
  obtain ⟨a, cap, e, hc⟩ := h.shape
  refine ⟨⟨a, cap, e, fun hn => ?_⟩, h.len, h.sizes⟩
  obtain ⟨b, o, ea, hcell⟩ := hc hn
  exact ⟨b, o, ea, fun i s hi => (hb.cell (p := ⟨b, o + i, none⟩) (cell_lt (hcell i s hi))).trans (hcell i s hi)⟩
theorem RowS.at {W : World} {v : Value} {ss : List ByteArray} (h : RowS W v ss) {k : Nat} (hk : k < ss.length) : ∃ b o cap s, v = .slice (some ⟨b, o, none⟩) ss.length cap ∧ ss[k]? = some s ∧ W.cell? ⟨b, o + k, none⟩ = some (.string s) ∧ s.size ≤ 9223372036854775807 := by
  obtain ⟨a, cap, e, hc⟩ := h.shape
  obtain ⟨b, o, rfl, hcell⟩ := hc (by intro g; rw [g] at hk; simp at hk)
  have hs : ss[k]? = some ss[k] := List.getElem?_eq_getElem hk
  exact ⟨b, o, cap, _, e, hs, hcell k _ hs, h.sizes k _ hs⟩
/-- A list of elements, each a list of texts. -/
structure RowE (W : World) (v : Value) (es : List (List ByteArray)) : Prop where
  shape : ∃ a cap, v = .slice a es.length cap ∧ (es ≠ [] → ∃ b o, a = some ⟨b, o, none⟩ ∧ ∀ (i : Nat) (e : List ByteArray), es[i]? = some e → ∃ u, W.cell? ⟨b, o + i, none⟩ = some u ∧ RowS W u e)
  len : es.length ≤ 9223372036854775807
theorem RowE.below {W W' : World} {v : Value} {es : List (List ByteArray)} (h : RowE W v es) (hb : Below W.heap.size W W') : RowE W' v es := by
  obtain ⟨a, cap, e, hc⟩ := h.shape
  refine ⟨⟨a, cap, e, fun hn => ?_⟩, h.len⟩
  obtain ⟨b, o, ea, hcell⟩ := hc hn
  refine ⟨b, o, ea, fun i s hi => ?_⟩
  obtain ⟨u, h1, h2⟩ := hcell i s hi
  exact ⟨u, (hb.cell (p := ⟨b, o + i, none⟩) (cell_lt h1)).trans h1, h2.below hb⟩
theorem RowE.at {W : World} {v : Value} {es : List (List ByteArray)} (h : RowE W v es) {k : Nat} (hk : k < es.length) : ∃ b o cap e u, v = .slice (some ⟨b, o, none⟩) es.length cap ∧ es[k]? = some e ∧ W.cell? ⟨b, o + k, none⟩ = some u ∧ RowS W u e := by
  obtain ⟨a, cap, e, hc⟩ := h.shape
  obtain ⟨b, o, rfl, hcell⟩ := hc (by intro g; rw [g] at hk; simp at hk)
  have hs : es[k]? = some es[k] := List.getElem?_eq_getElem hk
  obtain ⟨u, h1, h2⟩ := hcell k _ hs
  exact ⟨b, o, cap, _, u, e, hs, h1, h2⟩
theorem RowS.val {W : World} {v : Value} {ss : List ByteArray} (h : RowS W v ss) : ∃ a cap, v = .slice a ss.length cap := by
  obtain ⟨a, cap, e, _⟩ := h.shape
  exact ⟨a, cap, e⟩
theorem RowE.val {W : World} {v : Value} {es : List (List ByteArray)} (h : RowE W v es) : ∃ a cap, v = .slice a es.length cap := by
  obtain ⟨a, cap, e, _⟩ := h.shape
  exact ⟨a, cap, e⟩
/-- Bounded sizes. -/
def BdS (n : Nat) (ss : List ByteArray) : Prop := ss.length ≤ n ∧ ∀ (i : Nat) (s : ByteArray), ss[i]? = some s → s.size ≤ n
def BdE (n : Nat) (es : List (List ByteArray)) : Prop := es.length ≤ n ∧ ∀ (i : Nat) (e : List ByteArray), es[i]? = some e → BdS n e
end Go.Proofs.YtcdebinldmblkaaGreatDoor
namespace Go.Proofs.YtcdebinldmblkaaGreatDoor
open Go.ChangeShapes Go.WideShapes Go.ChangeAt Go.RowKit
/-- Are all bytes within these limits? -/
def rngB (lo hi : Nat) (t : ByteArray) : Bool := t.data.toList.all fun x => decide (lo ≤ x.toNat) && decide (x.toNat ≤ hi)
theorem rngB_yes {lo hi : Nat} {t : ByteArray} (h : ∀ (j : Nat) (hj : j < t.size), lo ≤ (t[j]'hj).toNat ∧ (t[j]'hj).toNat ≤ hi) : rngB lo hi t = true := by
  unfold rngB
  rw [List.all_eq_true]
  intro x hx
  obtain ⟨j, hj, rfl⟩ := List.mem_iff_getElem.1 hx
  have := h j (by simpa using hj)
  simp only [Bool.and_eq_true, decide_eq_true_eq]
  exact this
theorem rngB_no {lo hi : Nat} {t : ByteArray} (j : Nat) (hj : j < t.size) (h : (t[j]'hj).toNat < lo ∨ hi < (t[j]'hj).toNat) : rngB lo hi t = false := by
  unfold rngB
  rw [List.all_eq_false]
  refine ⟨t[j]'hj, ?_, ?_⟩
  · have hj' : j < t.data.toList.length := by simpa using hj
    exact List.mem_iff_getElem.2 ⟨j, hj', rfl⟩
  · simp only [Bool.and_eq_true, decide_eq_true_eq]
    omega
def tagB (t : ByteArray) : Bool := decide (t.size = 3) && rngB 65 90 t
def partB (t : ByteArray) : Bool := decide (t.size ≤ 40) && rngB 32 126 t
set_option maxHeartbeats 1000000 in
theorem isPart_any (t : ByteArray) (w : World) : Calls Tryz.prog 123 #[.string t] w fun e w' => e = .returned (.bool (partB t)) ∧ w' = w := by
  by_cases hs : t.size ≤ 40
  · have hB : partB t = rngB 32 126 t := by simp [partB, hs]
    rw [hB]
    have hs' : ¬ (40 : Int) < (t.size : Int) := by omega
    have hs2 : (t.size : Int) ≤ 40 := by omega
    go_enter Tryz.func123, Tryz.ntmps123
    go_wp2
    go_loopw [9] (fun i wr => ∃ k : Nat, i = .int .i64 (k : Int) ∧ k ≤ t.size ∧ (∀ (j : Nat) (hj : j < t.size), j < k → 32 ≤ (t[j]'hj).toNat ∧ (t[j]'hj).toNat ≤ 126) ∧ wr = w) (fun i _ => t.size - (intOf i).toNat)
    case atStart => exact ⟨0, rfl, by omega, fun j hj h => by omega, rfl⟩
    case round =>
      obtain ⟨k, rfl, hk, hA, rfl⟩ := hrel
      have HA : Hid (∀ (j : Nat) (hj : j < t.size), j < k → 32 ≤ (t[j]'hj).toNat ∧ (t[j]'hj).toNat ≤ 126) := hA
      clear hA
      by_cases hlt : k < t.size
      · have hlt' : (k : Int) < (t.size : Int) := by omega
        skip
        have hx0 : 0 ≤ ((t[k]'hlt).toNat : Int) := by omega
        have hx1 : ((t[k]'hlt).toNat : Int) ≤ 255 := by have := (t[k]'hlt).toNat_lt; omega
        by_cases hlo : ((t[k]'hlt).toNat : Int) < 32
        · have d1 : decide (((t[k]'hlt).toNat : Int) < 32) = true := by simpa using hlo
          go_wp2
          go_ret
          exact ⟨ret_bool (rngB_no k hlt (by omega)).symm, rfl⟩
        · have d1 : decide (((t[k]'hlt).toNat : Int) < 32) = false := by simpa using hlo
          by_cases hhi : 126 < ((t[k]'hlt).toNat : Int)
          · have d2 : decide (126 < ((t[k]'hlt).toNat : Int)) = true := by simpa using hhi
            go_wp2
            go_ret
            exact ⟨ret_bool (rngB_no k hlt (by omega)).symm, rfl⟩
          · have d2 : decide (126 < ((t[k]'hlt).toNat : Int)) = false := by simpa using hhi
            go_wp2
            go_roundw
            case rel =>
              refine ⟨k + 1, by go_num, by omega, fun j hj h => ?_, trivial⟩
              rcases Nat.lt_or_ge j k with g | g
              · exact HA.out j hj g
              · obtain rfl : j = k := by omega
                omega
            case measure => simp [intOf]; omega
      · obtain rfl : k = t.size := by omega
        skip
        go_wp2
        go_ret
        exact ⟨ret_bool (rngB_yes fun j hj => HA.out j hj hj).symm, rfl⟩
  · have hB : partB t = false := by simp [partB, hs]
    rw [hB]
    have hs' : (40 : Int) < (t.size : Int) := by omega
    go_enter Tryz.func123, Tryz.ntmps123
    go_wp2
    go_ret
    exact ⟨rfl, rfl⟩
set_option maxHeartbeats 1000000 in
theorem l02Part_any (t : ByteArray) (w : World) : Calls Tryz.prog 50 #[.string t] w fun e w' => e = .returned (.bool (partB t)) ∧ w' = w := by
  by_cases hs : t.size ≤ 40
  · have hB : partB t = rngB 32 126 t := by simp [partB, hs]
    rw [hB]
    have hs' : ¬ (40 : Int) < (t.size : Int) := by omega
    have hs2 : (t.size : Int) ≤ 40 := by omega
    go_enter Tryz.func50, Tryz.ntmps50
    go_wp2
    go_loopw [3] (fun i wr => ∃ k : Nat, i = .int .i64 (k : Int) ∧ k ≤ t.size ∧ (∀ (j : Nat) (hj : j < t.size), j < k → 32 ≤ (t[j]'hj).toNat ∧ (t[j]'hj).toNat ≤ 126) ∧ wr = w) (fun i _ => t.size - (intOf i).toNat)
    case atStart => exact ⟨0, rfl, by omega, fun j hj h => by omega, rfl⟩
    case round =>
      obtain ⟨k, rfl, hk, hA, rfl⟩ := hrel
      have HA : Hid (∀ (j : Nat) (hj : j < t.size), j < k → 32 ≤ (t[j]'hj).toNat ∧ (t[j]'hj).toNat ≤ 126) := hA
      clear hA
      by_cases hlt : k < t.size
      · have hlt' : (k : Int) < (t.size : Int) := by omega
        skip
        have hx0 : 0 ≤ ((t[k]'hlt).toNat : Int) := by omega
        have hx1 : ((t[k]'hlt).toNat : Int) ≤ 255 := by have := (t[k]'hlt).toNat_lt; omega
        by_cases hlo : ((t[k]'hlt).toNat : Int) < 32
        · have d1 : decide (((t[k]'hlt).toNat : Int) < 32) = true := by simpa using hlo
          go_wp2
          go_ret
          exact ⟨ret_bool (rngB_no k hlt (by omega)).symm, rfl⟩
        · have d1 : decide (((t[k]'hlt).toNat : Int) < 32) = false := by simpa using hlo
          by_cases hhi : 126 < ((t[k]'hlt).toNat : Int)
          · have d2 : decide (126 < ((t[k]'hlt).toNat : Int)) = true := by simpa using hhi
            go_wp2
            go_ret
            exact ⟨ret_bool (rngB_no k hlt (by omega)).symm, rfl⟩
          · have d2 : decide (126 < ((t[k]'hlt).toNat : Int)) = false := by simpa using hhi
            go_wp2
            go_roundw
            case rel =>
              refine ⟨k + 1, by go_num, by omega, fun j hj h => ?_, trivial⟩
              rcases Nat.lt_or_ge j k with g | g
              · exact HA.out j hj g
              · obtain rfl : j = k := by omega
                omega
            case measure => simp [intOf]; omega
      · obtain rfl : k = t.size := by omega
        skip
        go_wp2
        go_ret
        exact ⟨ret_bool (rngB_yes fun j hj => HA.out j hj hj).symm, rfl⟩
  · have hB : partB t = false := by simp [partB, hs]
    rw [hB]
    have hs' : (40 : Int) < (t.size : Int) := by omega
    go_enter Tryz.func50, Tryz.ntmps50
    go_wp2
    go_ret
    exact ⟨rfl, rfl⟩
end Go.Proofs.YtcdebinldmblkaaGreatDoor
namespace Go.Proofs.YtcdebinldmblkaaGreatDoor
open Go.ChangeShapes Go.WideShapes Go.ChangeAt Go.RowKit
def inB (l : List UInt8) (lo hi : Int) : Bool := match numT l with
  | some v => decide (lo ≤ v ∧ v ≤ hi)
  | none => false
def zB (l : List UInt8) : Bool := match numT l with
  | some v => decide (-1000000 ≤ v ∧ v ≤ 1000000 ∧ v ≠ 0)
  | none => false
theorem numIn_inB (l : List UInt8) (lo hi : Int) : (numIn l lo hi).isSome = inB l lo hi := by
  unfold numIn inB
  cases numT l with
  | none => rfl
  | some v =>
    simp only
    by_cases h : lo ≤ v ∧ v ≤ hi
    · rw [if_pos h]; simp [h]
    · rw [if_neg h]; simp [h]
theorem nwV_snd (l : List UInt8) (lo hi : Int) : ∃ n, nwV l lo hi = .tuple #[.int .i64 n, .bool (inB l lo hi)] := by
  rw [← numIn_inB]
  unfold nwV
  cases numIn l lo hi with
  | none => exact ⟨0, rfl⟩
  | some v => exact ⟨v, rfl⟩
theorem plain_pos {l : List UInt8} (h : plainD l = true) (h0 : l.head? ≠ some 48) : 1 ≤ dgVal 0 l := by
  obtain ⟨hne, hall, _⟩ := plainD_facts h
  cases l with
  | nil => exact absurd rfl hne
  | cons x r =>
    have hx := hall
    simp only [List.all_cons, Bool.and_eq_true, dgOk, decide_eq_true_eq] at hx
    have hx1 : x.toNat ≠ 48 := by
      intro e
      apply h0
      simp only [List.head?_cons, Option.some.injEq]
      have : UInt8.ofNat x.toNat = UInt8.ofNat 48 := by rw [e]
      simpa using this
    have := dgVal_le r (0 * 10 + (x.toNat - 48))
    rw [dgVal_cons]
    omega
theorem plain_45 {l : List UInt8} (h : plainD l = true) : l.head? ≠ some 45 := by
  obtain ⟨hne, hall, _⟩ := plainD_facts h
  cases l with
  | nil => exact absurd rfl hne
  | cons x r =>
    have hx := hall
    simp only [List.all_cons, Bool.and_eq_true, dgOk, decide_eq_true_eq] at hx
    simp only [List.head?_cons, ne_eq, Option.some.injEq]
    intro e
    subst e
    have e45 : (45 : UInt8).toNat = 45 := rfl
    rw [e45] at hx
    omega
theorem z_eq (l : List UInt8) : inB (Lib.trimPrefix l [45]) 1 1000000 = zB l := by
  rw [trim45]
  split
  · rename_i h45
    cases l with
    | nil => simp at h45
    | cons c r =>
      simp only [List.head?_cons, Option.some.injEq] at h45
      subst h45
      simp only [List.tail_cons]
      have hN : numT (45 :: r) = if plainD r && (r.head? != some 48) then some (-(dgVal 0 r : Int)) else none := rfl
      unfold zB
      rw [hN]
      by_cases hp : (plainD r && (r.head? != some 48)) = true
      · rw [if_pos hp]
        simp only [Bool.and_eq_true, bne_iff_ne] at hp
        have h1 := plain_pos hp.1 hp.2
        have hR : numT r = some (dgVal 0 r : Int) := by
          unfold numT
          rw [if_neg (plain_45 hp.1), if_pos hp.1]
        unfold inB
        rw [hR]
        simp only
        rw [Bool.eq_iff_iff, decide_eq_true_eq, decide_eq_true_eq]
        omega
      · rw [if_neg hp]
        unfold inB
        cases hR : numT r with
        | none => rfl
        | some v =>
          simp only [decide_eq_false_iff_not]
          rintro ⟨h1, h2⟩
          unfold numT at hR
          split at hR
          · split at hR
            · cases hR; omega
            · cases hR
          · split at hR
            · rename_i hpl
              cases hR
              apply hp
              simp only [Bool.and_eq_true, bne_iff_ne]
              refine ⟨hpl, fun e => ?_⟩
              have hl := (plainD_facts hpl).2.2 e
              cases r with
              | nil => simp at e
              | cons x q =>
                simp only [List.length_cons] at hl
                have hq : q = [] := List.eq_nil_of_length_eq_zero (by omega)
                subst hq
                simp only [List.head?_cons, Option.some.injEq] at e
                subst e
                rw [dgVal_cons, dgVal_nil] at h1
                simp at h1
            · cases hR
  · rename_i h45
    unfold inB zB
    cases hR : numT l with
    | none => rfl
    | some v =>
      have h0 : 0 ≤ v := by
        unfold numT at hR
        rw [if_neg h45] at hR
        split at hR
        · cases hR; omega
        · cases hR
      simp only
      rw [Bool.eq_iff_iff, decide_eq_true_eq, decide_eq_true_eq]
      omega
def emptyB (t : ByteArray) : Bool := t.toList.isEmpty
/-- Is the text what the letter asks for? -/
def wordB (c : Int) (t : ByteArray) : Bool :=
  if c = 114 then nameB t else if c = 116 then !emptyB t && partB t else if c = 100 then inB t.data.toList 0 100000
  else if c = 122 then zB t.data.toList else if c = 113 then inB t.data.toList 1 1000000 else inB t.data.toList 0 1000000000
def letterB (c : Int) : Bool := decide (c = 114 ∨ c = 116 ∨ c = 100 ∨ c = 122 ∨ c = 113 ∨ c = 110)
def elemB (c : Int) (ss : List ByteArray) : Bool := decide (ss.length = 1) && wordB c (ss[0]?.getD ⟨#[]⟩)
set_option maxHeartbeats 1000000 in
theorem isDay_any (t : ByteArray) (w : World) (hs : t.size ≤ 281474976710656) (hE : ErrsAt w) : Calls Tryz.prog 124 #[.string t] w fun e w' => e = .returned (.bool (inB t.data.toList 0 100000)) ∧ Below w.heap.size w w' := by
  obtain ⟨n, hn⟩ := nwV_snd t.data.toList 0 100000
  go_enter Tryz.func124, Tryz.ntmps124
  go_wp2_with fail
  refine (numberWithin_any t 0 100000 w hs (by omega) (by omega) hE).mono ?_
  rintro e w1 ⟨rfl, hb⟩
  rw [hn]
  go_wp2
  go_ret
  exact ⟨rfl, hb⟩
set_option maxHeartbeats 2000000 in
theorem wordIsOf_any (c : Int) (t : ByteArray) (w : World) (hc : letterB c = true) (hs : t.size ≤ 281474976710656) (hE : ErrsAt w) :
    Calls Tryz.prog 102 #[.int .u8 c, .string t] w fun e w' => e = .returned (.bool (wordB c t)) ∧ Below w.heap.size w w' := by
  simp only [letterB, decide_eq_true_eq] at hc
  rcases hc with rfl | rfl | rfl | rfl | rfl | rfl
  · go_enter Tryz.func102, Tryz.ntmps102
    go_wp2_with (go_at_call 122; refine (isName_any _ _).mono ?_; rintro e w1 ⟨rfl, rfl⟩; try dsimp only)
    go_ret
    exact ⟨ret_bool (by simp [wordB]), Below.refl _ _⟩
  · have hW : wordB 116 t = (!emptyB t && partB t) := by simp [wordB]
    rw [hW]
    have HE : emptyB t = t.toList.isEmpty := rfl
    cases hE : t.toList.isEmpty with
    | true =>
      rw [HE, hE]
      go_enter Tryz.func102, Tryz.ntmps102
      go_wp2_with (go_at_call 123; refine (isPart_any _ _).mono ?_; rintro e w1 ⟨rfl, rfl⟩; try dsimp only)
      go_ret
      exact ⟨ret_bool rfl, Below.refl _ _⟩
    | false =>
      rw [HE, hE]
      go_enter Tryz.func102, Tryz.ntmps102
      go_wp2_with (go_at_call 123; refine (isPart_any _ _).mono ?_; rintro e w1 ⟨rfl, rfl⟩; try dsimp only)
      go_ret
      exact ⟨ret_bool (by simp), Below.refl _ _⟩
  · go_enter Tryz.func102, Tryz.ntmps102
    go_wp2_with (go_at_call 124; refine (isDay_any t w hs hE).mono ?_; rintro e w1 ⟨rfl, hb⟩; try dsimp only)
    go_ret
    exact ⟨ret_bool (by simp [wordB]), hb⟩
  · have hW : wordB 122 t = zB t.data.toList := by simp [wordB]
    rw [hW, ← z_eq]
    go_enter Tryz.func102, Tryz.ntmps102
    go_wp2_with fail
    refine (trimPrefix_ex _ _ _).mono ?_
    rintro e w1 ⟨d, rfl, hd, hds, rfl⟩
    obtain ⟨n, hn⟩ := nwV_snd d.data.toList 1 1000000
    have Hn : Hid (nwV d.data.toList 1 1000000 = .tuple #[.int .i64 n, .bool (inB d.data.toList 1 1000000)]) := hn
    clear hn
    go_wp2_with (go_at_call 126; refine (numberWithin_any d 1 1000000 _ (by omega) (by omega) (by omega) hE).mono ?_; rintro e w2 ⟨rfl, hb⟩; rw [Hn.out]; try dsimp only)
    go_ret
    exact ⟨ret_bool (by rw [hd.out]), hb⟩
  · obtain ⟨n, hn⟩ := nwV_snd t.data.toList 1 1000000
    have Hn : Hid (nwV t.data.toList 1 1000000 = .tuple #[.int .i64 n, .bool (inB t.data.toList 1 1000000)]) := hn
    clear hn
    go_enter Tryz.func102, Tryz.ntmps102
    go_wp2_with (go_at_call 126; refine (numberWithin_any t 1 1000000 _ (by omega) (by omega) (by omega) hE).mono ?_; rintro e w2 ⟨rfl, hb⟩; rw [Hn.out]; try dsimp only)
    go_ret
    exact ⟨ret_bool (by simp [wordB]), hb⟩
  · obtain ⟨n, hn⟩ := nwV_snd t.data.toList 0 1000000000
    have Hn : Hid (nwV t.data.toList 0 1000000000 = .tuple #[.int .i64 n, .bool (inB t.data.toList 0 1000000000)]) := hn
    clear hn
    go_enter Tryz.func102, Tryz.ntmps102
    go_wp2_with (go_at_call 126; refine (numberWithin_any t 0 1000000000 _ (by omega) (by omega) (by omega) hE).mono ?_; rintro e w2 ⟨rfl, hb⟩; rw [Hn.out]; try dsimp only)
    go_ret
    exact ⟨ret_bool (by simp [wordB]), hb⟩
theorem elemB_one {c : Int} {ss : List ByteArray} {s : ByteArray} (h1 : ss.length = 1) (hs : ss[0]? = some s) : elemB c ss = wordB c s := by
  unfold elemB
  rw [hs]
  simp [h1]
theorem elemB_no {c : Int} {ss : List ByteArray} (h1 : ¬ ss.length = 1) : elemB c ss = false := by simp [elemB, h1]
set_option maxHeartbeats 1000000 in
theorem isOf_any (c : Int) (v : Value) (ss : List ByteArray) (w : World) (hc : letterB c = true) (h : RowS w v ss) (hB : BdS 1048576 ss) (hE : ErrsAt w) :
    Calls Tryz.prog 93 #[.int .u8 c, .agg #[v]] w fun e w' => e = .returned (.bool (elemB c ss)) ∧ Below w.heap.size w w' := by
  obtain ⟨a, cap, rfl⟩ := h.val
  by_cases h1 : ss.length = 1
  · have h1' : ((ss.length : Int) == 1) = true := by rw [beq_iff_eq]; omega
    have hk : 0 < ss.length := by omega
    have hE1 : ErrsAt (w.alloc (.cells #[.slice a ss.length cap] 75)) := hE.below ((Below.refl _ _).alloc (Nat.le_refl _) _)
    obtain ⟨b, o, c1, s, e, hs, hcl, hsz⟩ := (h.below ((Below.refl _ _).alloc (Nat.le_refl _) (.cells #[.slice a ss.length cap] 75))).at hk
    simp only [Value.slice.injEq, true_and] at e
    obtain ⟨rfl, rfl⟩ := e
    have hss : s.size ≤ 281474976710656 := by have := hB.2 0 s hs; omega
    rw [elemB_one h1 hs]
    clear hs h hB
    have hk' : (0 : Int) < (ss.length : Int) := by omega
    rw [Nat.add_zero] at hcl
    clear h1 hk
    go_enter Tryz.func93, Tryz.ntmps93
    go_wp2_with (go_at_call 102; refine (wordIsOf_any c s _ hc hss hE1).mono ?_; rintro e w1 ⟨rfl, hb⟩; try dsimp only)
    go_ret
    exact ⟨ret_bool (by simp), ((Below.refl _ _).alloc (Nat.le_refl _) _).trans (hb.mono (by simp))⟩
  · have h1' : ((ss.length : Int) == 1) = false := by rw [beq_eq_false_iff_ne]; omega
    rw [elemB_no h1]
    clear h
    go_enter Tryz.func93, Tryz.ntmps93
    go_wp2_with (go_at_call 102; fail)
    go_ret
    exact ⟨ret_bool rfl, (Below.refl _ _).alloc (Nat.le_refl _) _⟩
set_option maxHeartbeats 1000000 in
theorem l01Qty_any (n : Int) (w : World) : Calls Tryz.prog 90 #[.int .i64 n] w fun e w' => e = .returned (.bool (decide (1 ≤ n ∧ n ≤ 1000000))) ∧ w' = w := by
  go_enter Tryz.func90, Tryz.ntmps90
  go_wp2
  all_goals
    go_ret
    refine ⟨ret_bool ?_, rfl⟩
    simp at *
    try omega
set_option maxHeartbeats 1000000 in
theorem l01Day_any (n : Int) (w : World) : Calls Tryz.prog 91 #[.int .i64 n] w fun e w' => e = .returned (.bool (decide (0 ≤ n ∧ n ≤ 100000))) ∧ w' = w := by
  go_enter Tryz.func91, Tryz.ntmps91
  go_wp2
  all_goals
    go_ret
    refine ⟨ret_bool ?_, rfl⟩
    simp at *
    try omega
/-- What the model's reading leaves of a test on the number. -/
def L1 (t : ByteArray) (n : Int) (b : Bool) : Prop := (b = true ∧ numT t.data.toList = some n) ∨ (b = false ∧ ∀ v : Int, numT t.data.toList = some v → v ≤ -1000000000000 ∨ 1000000000000 ≤ v)
theorem L1.inB {t : ByteArray} {n : Int} {b : Bool} (h : L1 t n b) {lo hi : Int} (h0 : -1000000000000 < lo) (h1 : hi < 1000000000000) : inB t.data.toList lo hi = (b && decide (lo ≤ n ∧ n ≤ hi)) := by
  unfold Go.Proofs.YtcdebinldmblkaaGreatDoor.inB
  rcases h with ⟨rfl, e⟩ | ⟨rfl, hv⟩
  · rw [e]; simp
  · cases hn : numT t.data.toList with
    | none => rfl
    | some v =>
      have := hv v hn
      simp only [Bool.false_and, decide_eq_false_iff_not]
      omega
theorem L1.zB {t : ByteArray} {n : Int} {b : Bool} (h : L1 t n b) : zB t.data.toList = (b && decide (-1000000 ≤ n ∧ n ≤ 1000000 ∧ n ≠ 0)) := by
  unfold Go.Proofs.YtcdebinldmblkaaGreatDoor.zB
  rcases h with ⟨rfl, e⟩ | ⟨rfl, hv⟩
  · rw [e]; simp
  · cases hn : numT t.data.toList with
    | none => rfl
    | some v =>
      have := hv v hn
      simp only [Bool.false_and, decide_eq_false_iff_not]
      omega
set_option maxHeartbeats 4000000 in
theorem l04Element_any (c : Int) (v : Value) (ss : List ByteArray) (w : World) (hc : letterB c = true) (h : RowS w v ss) (hB : BdS 1048576 ss) :
    Calls Tryz.prog 82 #[.int .u8 c, .agg #[v]] w fun e w' => e = .returned (.bool (elemB c ss)) ∧ Below w.heap.size w w' := by
  obtain ⟨a, cap, rfl⟩ := h.val
  by_cases h1 : ss.length = 1
  · have h1' : ((ss.length : Int) == 1) = true := by rw [beq_iff_eq]; omega
    have hk : 0 < ss.length := by omega
    obtain ⟨b, o, c1, s, e, hs, hcl, hsz⟩ := (h.below ((Below.refl _ _).alloc (Nat.le_refl _) (.cells #[.slice a ss.length cap] 75))).at hk
    simp only [Value.slice.injEq, true_and] at e
    obtain ⟨rfl, rfl⟩ := e
    have hss : s.size ≤ 281474976710656 := by have := hB.2 0 s hs; omega
    rw [elemB_one h1 hs]
    clear hs h hB
    have hk' : (0 : Int) < (ss.length : Int) := by omega
    rw [Nat.add_zero] at hcl
    clear h1 hk
    go_enter Tryz.func82, Tryz.ntmps82
    go_wp2_with fail
    refine (l01Num_any s _ hss).mono ?_
    rintro e w1 ⟨n, ok, rfl, hL, hb⟩
    have HL : L1 s n ok := hL
    have HB : Hid (Below w.heap.size w w1) := ((Below.refl _ _).alloc (Nat.le_refl _) _).trans (hb.mono (by simp))
    clear hL hb hcl
    simp only [letterB, decide_eq_true_eq] at hc
    rcases hc with rfl | rfl | rfl | rfl | rfl | rfl
    · go_wp2_with (go_at_call 89; refine (l01Name_any _ _).mono ?_; rintro e w2 ⟨rfl, rfl⟩; try dsimp only)
      go_ret
      exact ⟨ret_bool (by simp [wordB]), HB.out⟩
    · have hW : wordB 116 s = (!emptyB s && partB s) := by simp [wordB]
      have Hw : Hid (wordB 116 s = (!emptyB s && partB s)) := hW
      clear hW
      have HE : emptyB s = s.toList.isEmpty := rfl
      cases hE : s.toList.isEmpty with
      | true =>
        go_wp2_with (go_at_call 50; refine (l02Part_any _ _).mono ?_; rintro e w2 ⟨rfl, rfl⟩; try dsimp only)
        go_ret
        exact ⟨ret_bool (by rw [Hw.out, HE, hE]; rfl), HB.out⟩
      | false =>
        go_wp2_with (go_at_call 50; refine (l02Part_any _ _).mono ?_; rintro e w2 ⟨rfl, rfl⟩; try dsimp only)
        go_ret
        exact ⟨ret_bool (by rw [Hw.out, HE, hE]; simp), HB.out⟩
    · have hW : wordB 100 s = (ok && decide (0 ≤ n ∧ n ≤ 100000)) := by rw [← HL.inB (by omega) (by omega)]; simp [wordB]
      have Hw : Hid (wordB 100 s = (ok && decide (0 ≤ n ∧ n ≤ 100000))) := hW
      clear hW HL
      cases ok <;> (go_wp2_with (go_at_call 91; refine (l01Day_any _ _).mono ?_; rintro e w2 ⟨rfl, rfl⟩; try dsimp only)) <;> (go_ret; exact ⟨ret_bool (by rw [Hw.out]; simp), HB.out⟩)
    · have hW : wordB 122 s = (ok && decide (-1000000 ≤ n ∧ n ≤ 1000000 ∧ n ≠ 0)) := by rw [← HL.zB]; simp [wordB]
      have Hw : Hid (wordB 122 s = (ok && decide (-1000000 ≤ n ∧ n ≤ 1000000 ∧ n ≠ 0))) := hW
      clear hW HL
      cases ok <;> go_wp2 <;> (go_ret; refine ⟨ret_bool ?_, HB.out⟩; rw [Hw.out, Bool.eq_iff_iff]; simp at *; try omega)
    · have hW : wordB 113 s = (ok && decide (1 ≤ n ∧ n ≤ 1000000)) := by rw [← HL.inB (by omega) (by omega)]; simp [wordB]
      have Hw : Hid (wordB 113 s = (ok && decide (1 ≤ n ∧ n ≤ 1000000))) := hW
      clear hW HL
      cases ok <;> (go_wp2_with (go_at_call 90; refine (l01Qty_any _ _).mono ?_; rintro e w2 ⟨rfl, rfl⟩; try dsimp only)) <;> (go_ret; exact ⟨ret_bool (by rw [Hw.out]; simp), HB.out⟩)
    · have hW : wordB 110 s = (ok && decide (0 ≤ n ∧ n ≤ 1000000000)) := by rw [← HL.inB (by omega) (by omega)]; simp [wordB]
      have Hw : Hid (wordB 110 s = (ok && decide (0 ≤ n ∧ n ≤ 1000000000))) := hW
      clear hW HL
      cases ok <;> go_wp2 <;> (go_ret; refine ⟨ret_bool ?_, HB.out⟩; rw [Hw.out]; simp at *; try omega)
  · have h1' : ((ss.length : Int) == 1) = false := by rw [beq_eq_false_iff_ne]; omega
    rw [elemB_no h1]
    clear h
    go_enter Tryz.func82, Tryz.ntmps82
    go_wp2_with fail
    go_ret
    exact ⟨ret_bool rfl, (Below.refl _ _).alloc (Nat.le_refl _) _⟩
end Go.Proofs.YtcdebinldmblkaaGreatDoor
