/- Texts of ours put together: DeepRow, PartB. -/
import Derived.Test.YtgecdmpokahahaaGreatDoorG00
import Derived.Deep.QuietTactic
import Derived.BigQuiet
import Derived.BigRegion
namespace Go.Proofs.YtgecdmpokahahaaGreatDoor
open Go.ChangeShapes Go.WideShapes Go.ChangeAt Go.RowKit
/-- A list of texts. -/
structure RowS (W : World) (v : Value) (ss : List ByteArray) : Prop where
  shape : ∃ a cap, v = .slice a ss.length cap ∧ (ss ≠ [] → ∃ b o, a = some ⟨b, o, none⟩ ∧ ∀ (i : Nat) (s : ByteArray), ss[i]? = some s → W.cell? ⟨b, o + i, none⟩ = some (.string s))
  len : ss.length ≤ 9223372036854775807
  sizes : ∀ (i : Nat) (s : ByteArray), ss[i]? = some s → s.size ≤ 9223372036854775807
theorem RowS.below {W W' : World} {v : Value} {ss : List ByteArray} (h : RowS W v ss) (hb : Below W.heap.size W W') : RowS W' v ss := by
  obtain ⟨a, cap, e, hc⟩ := h.shape
  refine ⟨⟨a, cap, e, fun hn => ?_⟩, h.len, h.sizes⟩
  obtain ⟨b, o, ea, hcell⟩ := hc hn
  exact ⟨b, o, ea, fun i s hi => (hb.cell (p := ⟨b, o + i, none⟩) (cell_lt (hcell i s hi))).trans (hcell i s hi)⟩
theorem RowS.at {W : World} {v : Value} {ss : List ByteArray} (h : RowS W v ss) {k : Nat} (hk : k < ss.length) : ∃ b o cap s, v = .slice (some ⟨b, o, none⟩) ss.length cap ∧ ss[k]? = some s ∧ W.cell? ⟨b, o + k, none⟩ = some (.string s) ∧ s.size ≤ 9223372036854775807 := by
  obtain ⟨a, cap, e, hc⟩ := h.shape
  obtain ⟨b, o, rfl, hcell⟩ := hc (by intro g; rw [g] at hk; simp at hk)
  have hs : ss[k]? = some ss[k] := List.getElem?_eq_getElem hk
  exact ⟨b, o, cap, _, e, hs, hcell k _ hs, h.sizes k _ hs⟩
/-- A list of elements, each a list of texts. -/
structure RowE (W : World) (v : Value) (es : List (List ByteArray)) : Prop where
  shape : ∃ a cap, v = .slice a es.length cap ∧ (es ≠ [] → ∃ b o, a = some ⟨b, o, none⟩ ∧ ∀ (i : Nat) (e : List ByteArray), es[i]? = some e → ∃ u, W.cell? ⟨b, o + i, none⟩ = some u ∧ RowS W u e)
  len : es.length ≤ 9223372036854775807
theorem RowE.below {W W' : World} {v : Value} {es : List (List ByteArray)} (h : RowE W v es) (hb : Below W.heap.size W W') : RowE W' v es := by
  obtain ⟨a, cap, e, hc⟩ := h.shape
  refine ⟨⟨a, cap, e, fun hn => ?_⟩, h.len⟩
  obtain ⟨b, o, ea, hcell⟩ := hc hn
  refine ⟨b, o, ea, fun i s hi => ?_⟩
  obtain ⟨u, h1, h2⟩ := hcell i s hi
  exact ⟨u, (hb.cell (p := ⟨b, o + i, none⟩) (cell_lt h1)).trans h1, h2.below hb⟩
theorem RowE.at {W : World} {v : Value} {es : List (List ByteArray)} (h : RowE W v es) {k : Nat} (hk : k < es.length) : ∃ b o cap e u, v = .slice (some ⟨b, o, none⟩) es.length cap ∧ es[k]? = some e ∧ W.cell? ⟨b, o + k, none⟩ = some u ∧ RowS W u e := by
  obtain ⟨a, cap, e, hc⟩ := h.shape
  obtain ⟨b, o, rfl, hcell⟩ := hc (by intro g; rw [g] at hk; simp at hk)
  have hs : es[k]? = some es[k] := List.getElem?_eq_getElem hk
  obtain ⟨u, h1, h2⟩ := hcell k _ hs
  exact ⟨b, o, cap, _, u, e, hs, h1, h2⟩
theorem RowS.val {W : World} {v : Value} {ss : List ByteArray} (h : RowS W v ss) : ∃ a cap, v = .slice a ss.length cap := by
  obtain ⟨a, cap, e, _⟩ := h.shape
  exact ⟨a, cap, e⟩
theorem RowE.val {W : World} {v : Value} {es : List (List ByteArray)} (h : RowE W v es) : ∃ a cap, v = .slice a es.length cap := by
  obtain ⟨a, cap, e, _⟩ := h.shape
  exact ⟨a, cap, e⟩
/-- Bounded sizes. -/
def BdS (n : Nat) (ss : List ByteArray) : Prop := ss.length ≤ n ∧ ∀ (i : Nat) (s : ByteArray), ss[i]? = some s → s.size ≤ n
def BdE (n : Nat) (es : List (List ByteArray)) : Prop := es.length ≤ n ∧ ∀ (i : Nat) (e : List ByteArray), es[i]? = some e → BdS n e
end Go.Proofs.YtgecdmpokahahaaGreatDoor
namespace Go.Proofs.YtgecdmpokahahaaGreatDoor
open Go.ChangeShapes Go.WideShapes Go.ChangeAt Go.RowKit
/-- Are all bytes within these limits? -/
def rngB (lo hi : Nat) (t : ByteArray) : Bool := t.data.toList.all fun x => decide (lo ≤ x.toNat) && decide (x.toNat ≤ hi)
theorem rngB_yes {lo hi : Nat} {t : ByteArray} (h : ∀ (j : Nat) (hj : j < t.size), lo ≤ (t[j]'hj).toNat ∧ (t[j]'hj).toNat ≤ hi) : rngB lo hi t = true := by
  unfold rngB
  rw [List.all_eq_true]
  intro x hx
  obtain ⟨j, hj, rfl⟩ := List.mem_iff_getElem.1 hx
  have := h j (by simpa using hj)
  simp only [Bool.and_eq_true, decide_eq_true_eq]
  exact this
theorem rngB_no {lo hi : Nat} {t : ByteArray} (j : Nat) (hj : j < t.size) (h : (t[j]'hj).toNat < lo ∨ hi < (t[j]'hj).toNat) : rngB lo hi t = false := by
  unfold rngB
  rw [List.all_eq_false]
  refine ⟨t[j]'hj, ?_, ?_⟩
  · have hj' : j < t.data.toList.length := by simpa using hj
    exact List.mem_iff_getElem.2 ⟨j, hj', rfl⟩
  · simp only [Bool.and_eq_true, decide_eq_true_eq]
    omega
def tagB (t : ByteArray) : Bool := decide (t.size = 3) && rngB 65 90 t
def partB (t : ByteArray) : Bool := decide (t.size ≤ 40) && rngB 32 126 t
set_option maxHeartbeats 1000000 in
theorem isPart_any (t : ByteArray) (w : World) : Calls Tryz.prog 118 #[.string t] w fun e w' => e = .returned (.bool (partB t)) ∧ w' = w := by
  by_cases hs : t.size ≤ 40
  · have hB : partB t = rngB 32 126 t := by simp [partB, hs]
    rw [hB]
    have hs' : ¬ (40 : Int) < (t.size : Int) := by omega
    have hs2 : (t.size : Int) ≤ 40 := by omega
    go_enter Tryz.func118, Tryz.ntmps118
    go_wp2
    go_loopw [9] (fun i wr => ∃ k : Nat, i = .int .i64 (k : Int) ∧ k ≤ t.size ∧ (∀ (j : Nat) (hj : j < t.size), j < k → 32 ≤ (t[j]'hj).toNat ∧ (t[j]'hj).toNat ≤ 126) ∧ wr = w) (fun i _ => t.size - (intOf i).toNat)
    case atStart => exact ⟨0, rfl, by omega, fun j hj h => by omega, rfl⟩
    case round =>
      obtain ⟨k, rfl, hk, hA, rfl⟩ := hrel
      have HA : Hid (∀ (j : Nat) (hj : j < t.size), j < k → 32 ≤ (t[j]'hj).toNat ∧ (t[j]'hj).toNat ≤ 126) := hA
      clear hA
      by_cases hlt : k < t.size
      · have hlt' : (k : Int) < (t.size : Int) := by omega
        skip
        have hx0 : 0 ≤ ((t[k]'hlt).toNat : Int) := by omega
        have hx1 : ((t[k]'hlt).toNat : Int) ≤ 255 := by have := (t[k]'hlt).toNat_lt; omega
        by_cases hlo : ((t[k]'hlt).toNat : Int) < 32
        · have d1 : decide (((t[k]'hlt).toNat : Int) < 32) = true := by simpa using hlo
          go_wp2
          go_ret
          exact ⟨ret_bool (rngB_no k hlt (by omega)).symm, rfl⟩
        · have d1 : decide (((t[k]'hlt).toNat : Int) < 32) = false := by simpa using hlo
          by_cases hhi : 126 < ((t[k]'hlt).toNat : Int)
          · have d2 : decide (126 < ((t[k]'hlt).toNat : Int)) = true := by simpa using hhi
            go_wp2
            go_ret
            exact ⟨ret_bool (rngB_no k hlt (by omega)).symm, rfl⟩
          · have d2 : decide (126 < ((t[k]'hlt).toNat : Int)) = false := by simpa using hhi
            go_wp2
            go_roundw
            case rel =>
              refine ⟨k + 1, by go_num, by omega, fun j hj h => ?_, trivial⟩
              rcases Nat.lt_or_ge j k with g | g
              · exact HA.out j hj g
              · obtain rfl : j = k := by omega
                omega
            case measure => simp [intOf]; omega
      · obtain rfl : k = t.size := by omega
        skip
        go_wp2
        go_ret
        exact ⟨ret_bool (rngB_yes fun j hj => HA.out j hj hj).symm, rfl⟩
  · have hB : partB t = false := by simp [partB, hs]
    rw [hB]
    have hs' : (40 : Int) < (t.size : Int) := by omega
    go_enter Tryz.func118, Tryz.ntmps118
    go_wp2
    go_ret
    exact ⟨rfl, rfl⟩
set_option maxHeartbeats 1000000 in
theorem l02Part_any (t : ByteArray) (w : World) : Calls Tryz.prog 45 #[.string t] w fun e w' => e = .returned (.bool (partB t)) ∧ w' = w := by
  by_cases hs : t.size ≤ 40
  · have hB : partB t = rngB 32 126 t := by simp [partB, hs]
    rw [hB]
    have hs' : ¬ (40 : Int) < (t.size : Int) := by omega
    have hs2 : (t.size : Int) ≤ 40 := by omega
    go_enter Tryz.func45, Tryz.ntmps45
    go_wp2
    go_loopw [3] (fun i wr => ∃ k : Nat, i = .int .i64 (k : Int) ∧ k ≤ t.size ∧ (∀ (j : Nat) (hj : j < t.size), j < k → 32 ≤ (t[j]'hj).toNat ∧ (t[j]'hj).toNat ≤ 126) ∧ wr = w) (fun i _ => t.size - (intOf i).toNat)
    case atStart => exact ⟨0, rfl, by omega, fun j hj h => by omega, rfl⟩
    case round =>
      obtain ⟨k, rfl, hk, hA, rfl⟩ := hrel
      have HA : Hid (∀ (j : Nat) (hj : j < t.size), j < k → 32 ≤ (t[j]'hj).toNat ∧ (t[j]'hj).toNat ≤ 126) := hA
      clear hA
      by_cases hlt : k < t.size
      · have hlt' : (k : Int) < (t.size : Int) := by omega
        skip
        have hx0 : 0 ≤ ((t[k]'hlt).toNat : Int) := by omega
        have hx1 : ((t[k]'hlt).toNat : Int) ≤ 255 := by have := (t[k]'hlt).toNat_lt; omega
        by_cases hlo : ((t[k]'hlt).toNat : Int) < 32
        · have d1 : decide (((t[k]'hlt).toNat : Int) < 32) = true := by simpa using hlo
          go_wp2
          go_ret
          exact ⟨ret_bool (rngB_no k hlt (by omega)).symm, rfl⟩
        · have d1 : decide (((t[k]'hlt).toNat : Int) < 32) = false := by simpa using hlo
          by_cases hhi : 126 < ((t[k]'hlt).toNat : Int)
          · have d2 : decide (126 < ((t[k]'hlt).toNat : Int)) = true := by simpa using hhi
            go_wp2
            go_ret
            exact ⟨ret_bool (rngB_no k hlt (by omega)).symm, rfl⟩
          · have d2 : decide (126 < ((t[k]'hlt).toNat : Int)) = false := by simpa using hhi
            go_wp2
            go_roundw
            case rel =>
              refine ⟨k + 1, by go_num, by omega, fun j hj h => ?_, trivial⟩
              rcases Nat.lt_or_ge j k with g | g
              · exact HA.out j hj g
              · obtain rfl : j = k := by omega
                omega
            case measure => simp [intOf]; omega
      · obtain rfl : k = t.size := by omega
        skip
        go_wp2
        go_ret
        exact ⟨ret_bool (rngB_yes fun j hj => HA.out j hj hj).symm, rfl⟩
  · have hB : partB t = false := by simp [partB, hs]
    rw [hB]
    have hs' : (40 : Int) < (t.size : Int) := by omega
    go_enter Tryz.func45, Tryz.ntmps45
    go_wp2
    go_ret
    exact ⟨rfl, rfl⟩
end Go.Proofs.YtgecdmpokahahaaGreatDoor
