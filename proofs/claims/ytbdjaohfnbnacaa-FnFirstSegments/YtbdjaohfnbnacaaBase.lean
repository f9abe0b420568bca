/- Contracts of the leaf functions: impl.mayMark and the model's l01Mark tell whether a number may be a mark, slices.Index and slices.Contains over int64 tell whether a number is among the first ones of a list, at every number; of slices: of at most 1000 elements. -/
import Derived.Test.YtbdjaohfnbnacaaRows
import Derived.Test.YtbdjaohfnbnacaaKeep
import Derived.Test.YtbdjaohfnbnacaaRet
import Derived.WalkKit
import Derived.ProofKit
import Derived.OpenShut
import Derived.ShutString
import Derived.ChangeOld
import Derived.Below
import Derived.WalkLawsBesides
import Derived.WalkSpells
import Derived.Deep.Light
import Derived.Handy
namespace Go.Proofs.Ytbdjaohfnbnacaa
open Go.ChangeShapes Go.WideShapes Go.ChangeAt Go.RowKit
def markB (c : Int) : Bool := decide (33 ≤ c ∧ c ≤ 126 ∧ c ≠ 45 ∧ ¬ (48 ≤ c ∧ c ≤ 57) ∧ ¬ (65 ≤ c ∧ c ≤ 90) ∧ ¬ (97 ≤ c ∧ c ≤ 122))
set_option maxHeartbeats 400000 in
theorem mayMark_any (c : Int) (w : World) : Calls Try.prog 39 #[.int .i64 c] w fun e w' => e = .returned (.bool (markB c)) ∧ w' = w := by
  go_enter Try.func39, Try.ntmps39
  go_wp2
  all_goals
    go_ret
    refine ⟨ret_bool ?_, rfl⟩
    go_light
    simp [markB] at *
    try omega
set_option maxHeartbeats 400000 in
theorem l01Mark_any (c : Int) (w : World) : Calls Try.prog 30 #[.int .i64 c] w fun e w' => e = .returned (.bool (markB c)) ∧ w' = w := by
  go_enter Try.func30, Try.ntmps30
  go_wp2
  all_goals
    go_ret
    refine ⟨ret_bool ?_, rfl⟩
    go_light
    rw [Bool.eq_iff_iff]
    simp [markB] at *
    try omega
set_option maxHeartbeats 400000 in
theorem index_any (b off len cap : Nat) (zs : List Int) (v : Int) (w : World) (hl : len ≤ 1000) (hcell : ∀ i, i < len → w.cell? ⟨b, off + i, none⟩ = some (.int .i64 (zs[i]?.getD 0))) :
    Calls Try.prog 52 #[.slice (some ⟨b, off, none⟩) len cap, .int .i64 v] w fun e w' => (∃ r : Int, e = .returned (.int .i64 r) ∧ (0 ≤ r ↔ ∃ j, j < len ∧ zs[j]?.getD 0 = v)) ∧ w' = w := by
  go_enter Try.func52, Try.ntmps52
  go_wp2
  go_loop [8] (fun t => ∃ k : Nat, k ≤ len ∧ t = .int .i64 k ∧ ∀ j, j < k → zs[j]?.getD 0 ≠ v) (fun t => len - (intOf t).toNat)
  case atStart => exact ⟨0, Nat.zero_le _, rfl, fun j h => absurd h (by omega)⟩
  case round =>
    obtain ⟨k, hk, rfl, hn⟩ := hrel
    have Hn : Hid (∀ j, j < k → zs[j]?.getD 0 ≠ v) := hn
    clear hn
    by_cases hlt : k < len
    · have hc := hcell k hlt
      have Hc : Hid (∀ i, i < len → w.cell? ⟨b, off + i, none⟩ = some (.int .i64 (zs[i]?.getD 0))) := hcell
      clear hcell
      by_cases hv : (v == zs[k]?.getD 0) = true
      · go_wp2
        go_ret
        exact ⟨⟨_, rfl, ⟨fun _ => ⟨k, hlt, by simpa using (beq_iff_eq.1 hv).symm⟩, fun _ => by omega⟩⟩, rfl⟩
      · have hv' : (v == zs[k]?.getD 0) = false := by simpa using hv
        clear hv
        go_wp2
        go_round
        case rel => exact ⟨k + 1, by omega, by go_num, fun j hj => by
          by_cases h : j = k
          · subst h; intro e; rw [e] at hv'; simp at hv'
          · exact Hn.out j (by omega)⟩
        case measure => simp [intOf]; omega
    · have Hc : Hid (∀ i, i < len → w.cell? ⟨b, off + i, none⟩ = some (.int .i64 (zs[i]?.getD 0))) := hcell
      clear hcell
      go_wp2
      go_ret
      refine ⟨⟨_, rfl, ⟨fun h => absurd h (by omega), fun ⟨j, h1, h2⟩ => absurd h2 (Hn.out j (by omega))⟩⟩, rfl⟩

def hasB (v : Int) (zs : List Int) (len : Nat) : Bool := (zs.take len).contains v
theorem hasB_iff (v : Int) (zs : List Int) (len : Nat) (h : len ≤ zs.length) : hasB v zs len = true ↔ ∃ j, j < len ∧ zs[j]?.getD 0 = v := by
  unfold hasB
  rw [List.contains_iff_mem, List.mem_take_iff_getElem]
  constructor
  · rintro ⟨j, hj, e⟩
    exact ⟨j, by omega, by simp [e, List.getElem?_eq_getElem (by omega : j < zs.length)]⟩
  · rintro ⟨j, hj, e⟩
    exact ⟨j, by omega, by rw [← e]; simp [List.getElem?_eq_getElem (by omega : j < zs.length)]⟩
set_option maxHeartbeats 400000 in
theorem contains_any (b off len cap : Nat) (zs : List Int) (v : Int) (w : World) (hl : len ≤ 1000) (hz : len ≤ zs.length) (hcell : ∀ i, i < len → w.cell? ⟨b, off + i, none⟩ = some (.int .i64 (zs[i]?.getD 0))) :
    Calls Try.prog 40 #[.slice (some ⟨b, off, none⟩) len cap, .int .i64 v] w fun e w' => e = .returned (.bool (hasB v zs len)) ∧ w' = w := by
  have Hc : Hid (∀ i, i < len → w.cell? ⟨b, off + i, none⟩ = some (.int .i64 (zs[i]?.getD 0))) := hcell
  clear hcell
  have Hb : Hid (hasB v zs len = true ↔ ∃ j, j < len ∧ zs[j]?.getD 0 = v) := hasB_iff v zs len hz
  go_enter Try.func40, Try.ntmps40
  go_wp2_with fail
  refine (index_any b off len cap zs v w hl Hc.out).mono ?_
  rintro e w' ⟨⟨r, rfl, hr⟩, hw⟩
  subst hw
  have Hr : Hid (0 ≤ r ↔ ∃ j, j < len ∧ zs[j]?.getD 0 = v) := hr
  clear hr
  go_wp2
  go_ret
  refine ⟨ret_bool ?_, rfl⟩
  rw [Bool.eq_iff_iff, Hb.out, decide_eq_true_iff]
  exact Hr.out
def rightB (a b c d : Int) : Bool := markB a && (markB b && !hasB b [a, b, c, d] 1 && (markB c && !hasB c [a, b, c, d] 2 && (markB d && !hasB d [a, b, c, d] 3)))
end Go.Proofs.Ytbdjaohfnbnacaa
