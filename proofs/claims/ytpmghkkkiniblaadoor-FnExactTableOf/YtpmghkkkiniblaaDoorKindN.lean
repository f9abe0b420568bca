/- KindName: impl's and the model's tell the name of a kind from 1 to 7, else the empty text, at every number, in any world whose tables' variable holds what the program's text lays. -/
import Derived.Test.YtpmghkkkiniblaaDoorTab
import Derived.ShutString
import Derived.ChangeOld
import Derived.WalkLawsBesides
import Derived.WalkSpells
import Derived.Deep.Light
import Derived.Handy
namespace Go.Proofs.YtpmghkkkiniblaaDoor
open Go.ChangeShapes Go.WideShapes Go.ChangeAt Go.RowKit
def kindB (n : Int) : Bool := decide (1 ≤ n ∧ n ≤ 7)
def kindNm (n : Int) : ByteArray := if 1 ≤ n ∧ n ≤ 7 then bs (nameK n.toNat) else bs []
theorem ret_bool {a b : Bool} (h : a = b) : Ending.returned (.bool a) = .returned (.bool b) := by rw [h]
theorem ret_str {a b : ByteArray} (h : a = b) : Ending.returned (.string a) = .returned (.string b) := by rw [h]
set_option maxHeartbeats 400000 in
theorem isKind_any (c : Int) (w : World) : Calls Tryd.prog 15 #[.int .i64 c] w fun e w' => e = .returned (.bool (kindB c)) ∧ w' = w := by
  go_enter Tryd.func15, Tryd.ntmps15
  go_wp2
  all_goals
    go_ret
    refine ⟨ret_bool ?_, rfl⟩
    simp [kindB] at *
    try omega
set_option maxHeartbeats 400000 in
theorem kindName_impl (n : Int) (w : World) (hT : TablesAt w) : Calls Tryd.prog 12 #[.int .i64 n] w fun e w' => e = .returned (.string (kindNm n)) ∧ w' = w := by
  by_cases hk : 1 ≤ n ∧ n ≤ 7
  · have hB : kindB n = true := by simp [kindB, hk]
    obtain ⟨c0, _⟩ := hT n.toNat (by omega) (by omega)
    have e : kindNm n = bs (nameK n.toNat) := by simp [kindNm, hk]
    rw [e]
    obtain ⟨k, rfl⟩ : ∃ k : Nat, n = k := ⟨n.toNat, by omega⟩
    simp only [Int.toNat_natCast] at c0 ⊢
    have hk7 : k ≤ 7 := by omega
    have hk1 : 1 ≤ k := by omega
    clear hT
    go_enter Tryd.func12, Tryd.ntmps12
    go_wp2_with (go_at_call 15; refine (isKind_any _ _).mono ?_; rintro e w1 ⟨rfl, rfl⟩; rw [hB]; try dsimp only)
    go_ret
    exact ⟨rfl, rfl⟩
  · have hB : kindB n = false := by simp [kindB]; omega
    have e : kindNm n = bs [] := by simp [kindNm, hk]
    rw [e]
    go_enter Tryd.func12, Tryd.ntmps12
    go_wp2_with (go_at_call 15; refine (isKind_any _ _).mono ?_; rintro e w1 ⟨rfl, rfl⟩; rw [hB]; try dsimp only)
    go_ret
    exact ⟨rfl, rfl⟩
set_option maxHeartbeats 400000 in
theorem kindName_spec (n : Int) (w : World) : Calls Tryd.prog 11 #[.int .i64 n] w fun e w' => e = .returned (.string (kindNm n)) ∧ Below w.heap.size w w' := by
  by_cases hk : 1 ≤ n ∧ n ≤ 7
  · obtain rfl | rfl | rfl | rfl | rfl | rfl | rfl : n = 1 ∨ n = 2 ∨ n = 3 ∨ n = 4 ∨ n = 5 ∨ n = 6 ∨ n = 7 := by omega
    all_goals
      go_enter Tryd.func11, Tryd.ntmps11
      go_wp2
      go_ret
      exact ⟨ret_str (by kernel_rfl), (Below.refl _ _).alloc (Nat.le_refl _) _⟩
  · have h1 : ¬ n < 1 → n > 7 := by omega
    have e : kindNm n = bs [] := by simp [kindNm, hk]
    rw [e]
    go_enter Tryd.func11, Tryd.ntmps11
    go_wp2
    all_goals
      go_ret
      exact ⟨ret_str rfl, (Below.refl _ _).alloc (Nat.le_refl _) _⟩
end Go.Proofs.YtpmghkkkiniblaaDoor
