/- Texts of ours put together: PiA. -/
import Derived.Test.YtcdebinldmblkaaGreatDoorG09
import Derived.Test.YtcdebinldmblkaaGreatDoorG08
import Derived.Test.YtcdebinldmblkaaGreatDoorG01
namespace Go.Proofs.YtcdebinldmblkaaGreatDoor
open Go.ChangeShapes Go.WideShapes Go.ChangeAt Go.RowKit
set_option maxHeartbeats 1000000 in
theorem digitsOf_any (n : Int) (w : World) (h : i64B n) (ht : TabOk w) : Calls Tryz.prog 65 #[.int .i64 n] w fun e w' => e = .returned (.string (decS n)) ∧ Below w.heap.size w w' := by
  go_enter Tryz.func65, Tryz.ntmps65
  go_wp2_with fail
  refine (fmt_any n _ h.1 h.2 ht).mono ?_
  rintro e w1 ⟨rfl, hb⟩
  have HB : Hid (Below w.heap.size w w1) := hb
  clear hb
  go_wp2
  go_ret
  exact ⟨rfl, HB.out⟩
/-- A number that is missing if it is nought. -/
def unlN (n : Int) : ByteArray := if n = 0 then eT else decS n
theorem unlN_z : unlN 0 = ⟨#[]⟩ := rfl
theorem unlN_n {n : Int} (h : n ≠ 0) : unlN n = decS n := by unfold unlN; rw [if_neg h]
set_option maxHeartbeats 1000000 in
theorem unless_any (n : Int) (w : World) (h : i64B n) (ht : TabOk w) : Calls Tryz.prog 170 #[.int .i64 n] w fun e w' => e = .returned (.string (unlN n)) ∧ Below w.heap.size w w' := by
  by_cases hz : n = 0
  · subst hz
    go_enter Tryz.func170, Tryz.ntmps170
    go_wp2
    go_ret
    exact ⟨rfl, Below.refl _ _⟩
  · have hz' : (n == 0) = false := by simpa using hz
    have HU : Hid (unlN n = decS n) := unlN_n hz
    go_enter Tryz.func170, Tryz.ntmps170
    go_wp2_with fail
    refine (digitsOf_any n _ h ht).mono ?_
    rintro e w1 ⟨rfl, hb⟩
    have HB : Hid (Below w.heap.size w w1) := hb
    clear hb
    go_wp2
    go_ret
    exact ⟨by rw [HU.out]; rfl, HB.out⟩
theorem parse_e : Lib.parseIntB 64 [] = .syntax := by rfl
set_option maxHeartbeats 1000000 in
theorem numberOf_any (t : ByteArray) (n : Int) (w : World) (hs : t.size ≤ 281474976710656) (hE : ErrsAt w) (h : (numT t.data.toList = some n ∧ i64B n) ∨ (t = eT ∧ n = 0)) : Calls Tryz.prog 84 #[.string t] w fun e w' => e = .returned (.int .i64 n) ∧ Below w.heap.size w w' := by
  go_enter Tryz.func84, Tryz.ntmps84
  go_wp2_with fail
  refine (parse_any t w hs hE).mono ?_
  rintro e w1 ⟨hb, hv⟩
  have HB : Hid (Below w.heap.size w w1) := hb
  clear hb
  rcases hv with ⟨v, hv, rfl⟩ | ⟨m, T, p, hv, rfl⟩
  · have e1 : v = n := by
      rcases h with ⟨h1, h2⟩ | ⟨rfl, _⟩
      · rcases numT_parse h1 with ⟨_, _, q⟩ | ⟨q, _⟩
        · rw [q] at hv; cases hv; rfl
        · unfold i64B at h2; omega
      · have : eT.data.toList = [] := rfl
        rw [this, parse_e] at hv
        cases hv
    subst e1
    clear hv h
    go_wp2
    go_ret
    exact ⟨rfl, HB.out⟩
  · have e1 : n = 0 := by
      rcases h with ⟨h1, h2⟩ | ⟨_, q⟩
      · rcases numT_parse h1 with ⟨_, _, q⟩ | ⟨q, _⟩
        · exact absurd q (hv n)
        · unfold i64B at h2; omega
      · exact q
    subst e1
    clear hv h
    go_wp2
    go_ret
    exact ⟨rfl, HB.out⟩
/-- The type that stands behind a kind. -/
def tyK (k : Int) : Nat := if k = 1 then 90 else if k = 2 then 91 else if k = 3 then 92 else if k = 4 then 94 else if k = 5 then 95 else if k = 6 then 96 else 97
set_option maxHeartbeats 1000000 in
theorem paperKindOf_any (k : Int) (w : World) (hk : 1 ≤ k ∧ k ≤ 7) : Calls Tryz.prog 43 #[.int .i64 k] w fun e w' => e = .returned (.iface (tyK k) (.agg #[])) ∧ w' = w := by
  obtain rfl | rfl | rfl | rfl | rfl | rfl | rfl : k = 1 ∨ k = 2 ∨ k = 3 ∨ k = 4 ∨ k = 5 ∨ k = 6 ∨ k = 7 := by omega
  all_goals
    go_enter Tryz.func43, Tryz.ntmps43
    go_wp2
    go_ret
    exact ⟨rfl, rfl⟩
set_option maxRecDepth 100000 in
set_option maxHeartbeats 4000000 in
theorem rulesOf_any (k : Int) (w : World) (hk : 1 ≤ k ∧ k ≤ 7) : Calls Tryz.prog 76 #[.iface (tyK k) (.agg #[])] w fun e w' => e = .returned (.tuple #[.bool (risB k), .bool (oncB k)]) ∧ w' = w := by
  obtain rfl | rfl | rfl | rfl | rfl | rfl | rfl : k = 1 ∨ k = 2 ∨ k = 3 ∨ k = 4 ∨ k = 5 ∨ k = 6 ∨ k = 7 := by omega
  · show Calls Tryz.prog 76 #[.iface 90 (.agg #[])] w _
    have h_order : ∀ w, (Instr.typeAssert (.iface 90 (.agg #[])) 68 90 true).run Tryz.prog w = .ok (.tuple #[.agg #[], .bool true]) w := fun _ => by kernel_rfl
    have h_answer : ∀ w, (Instr.typeAssert (.iface 90 (.agg #[])) 68 91 true).run Tryz.prog w = .ok (.tuple #[.agg #[], .bool false]) w := fun _ => by kernel_rfl
    have h_sent : ∀ w, (Instr.typeAssert (.iface 90 (.agg #[])) 68 92 true).run Tryz.prog w = .ok (.tuple #[.agg #[], .bool false]) w := fun _ => by kernel_rfl
    have h_got : ∀ w, (Instr.typeAssert (.iface 90 (.agg #[])) 68 94 true).run Tryz.prog w = .ok (.tuple #[.agg #[], .bool false]) w := fun _ => by kernel_rfl
    have h_stock : ∀ w, (Instr.typeAssert (.iface 90 (.agg #[])) 68 95 true).run Tryz.prog w = .ok (.tuple #[.agg #[], .bool false]) w := fun _ => by kernel_rfl
    have h_adjust : ∀ w, (Instr.typeAssert (.iface 90 (.agg #[])) 68 96 true).run Tryz.prog w = .ok (.tuple #[.agg #[], .bool false]) w := fun _ => by kernel_rfl
    go_enter Tryz.func76, Tryz.ntmps76
    go_wp2
    go_ret2
    exact ⟨rfl, rfl⟩
  · show Calls Tryz.prog 76 #[.iface 91 (.agg #[])] w _
    have h_order : ∀ w, (Instr.typeAssert (.iface 91 (.agg #[])) 68 90 true).run Tryz.prog w = .ok (.tuple #[.agg #[], .bool false]) w := fun _ => by kernel_rfl
    have h_answer : ∀ w, (Instr.typeAssert (.iface 91 (.agg #[])) 68 91 true).run Tryz.prog w = .ok (.tuple #[.agg #[], .bool true]) w := fun _ => by kernel_rfl
    have h_sent : ∀ w, (Instr.typeAssert (.iface 91 (.agg #[])) 68 92 true).run Tryz.prog w = .ok (.tuple #[.agg #[], .bool false]) w := fun _ => by kernel_rfl
    have h_got : ∀ w, (Instr.typeAssert (.iface 91 (.agg #[])) 68 94 true).run Tryz.prog w = .ok (.tuple #[.agg #[], .bool false]) w := fun _ => by kernel_rfl
    have h_stock : ∀ w, (Instr.typeAssert (.iface 91 (.agg #[])) 68 95 true).run Tryz.prog w = .ok (.tuple #[.agg #[], .bool false]) w := fun _ => by kernel_rfl
    have h_adjust : ∀ w, (Instr.typeAssert (.iface 91 (.agg #[])) 68 96 true).run Tryz.prog w = .ok (.tuple #[.agg #[], .bool false]) w := fun _ => by kernel_rfl
    go_enter Tryz.func76, Tryz.ntmps76
    go_wp2
    go_ret2
    exact ⟨rfl, rfl⟩
  · show Calls Tryz.prog 76 #[.iface 92 (.agg #[])] w _
    have h_order : ∀ w, (Instr.typeAssert (.iface 92 (.agg #[])) 68 90 true).run Tryz.prog w = .ok (.tuple #[.agg #[], .bool false]) w := fun _ => by kernel_rfl
    have h_answer : ∀ w, (Instr.typeAssert (.iface 92 (.agg #[])) 68 91 true).run Tryz.prog w = .ok (.tuple #[.agg #[], .bool false]) w := fun _ => by kernel_rfl
    have h_sent : ∀ w, (Instr.typeAssert (.iface 92 (.agg #[])) 68 92 true).run Tryz.prog w = .ok (.tuple #[.agg #[], .bool true]) w := fun _ => by kernel_rfl
    have h_got : ∀ w, (Instr.typeAssert (.iface 92 (.agg #[])) 68 94 true).run Tryz.prog w = .ok (.tuple #[.agg #[], .bool false]) w := fun _ => by kernel_rfl
    have h_stock : ∀ w, (Instr.typeAssert (.iface 92 (.agg #[])) 68 95 true).run Tryz.prog w = .ok (.tuple #[.agg #[], .bool false]) w := fun _ => by kernel_rfl
    have h_adjust : ∀ w, (Instr.typeAssert (.iface 92 (.agg #[])) 68 96 true).run Tryz.prog w = .ok (.tuple #[.agg #[], .bool false]) w := fun _ => by kernel_rfl
    go_enter Tryz.func76, Tryz.ntmps76
    go_wp2
    go_ret2
    exact ⟨rfl, rfl⟩
  · show Calls Tryz.prog 76 #[.iface 94 (.agg #[])] w _
    have h_order : ∀ w, (Instr.typeAssert (.iface 94 (.agg #[])) 68 90 true).run Tryz.prog w = .ok (.tuple #[.agg #[], .bool false]) w := fun _ => by kernel_rfl
    have h_answer : ∀ w, (Instr.typeAssert (.iface 94 (.agg #[])) 68 91 true).run Tryz.prog w = .ok (.tuple #[.agg #[], .bool false]) w := fun _ => by kernel_rfl
    have h_sent : ∀ w, (Instr.typeAssert (.iface 94 (.agg #[])) 68 92 true).run Tryz.prog w = .ok (.tuple #[.agg #[], .bool false]) w := fun _ => by kernel_rfl
    have h_got : ∀ w, (Instr.typeAssert (.iface 94 (.agg #[])) 68 94 true).run Tryz.prog w = .ok (.tuple #[.agg #[], .bool true]) w := fun _ => by kernel_rfl
    have h_stock : ∀ w, (Instr.typeAssert (.iface 94 (.agg #[])) 68 95 true).run Tryz.prog w = .ok (.tuple #[.agg #[], .bool false]) w := fun _ => by kernel_rfl
    have h_adjust : ∀ w, (Instr.typeAssert (.iface 94 (.agg #[])) 68 96 true).run Tryz.prog w = .ok (.tuple #[.agg #[], .bool false]) w := fun _ => by kernel_rfl
    go_enter Tryz.func76, Tryz.ntmps76
    go_wp2
    go_ret2
    exact ⟨rfl, rfl⟩
  · show Calls Tryz.prog 76 #[.iface 95 (.agg #[])] w _
    have h_order : ∀ w, (Instr.typeAssert (.iface 95 (.agg #[])) 68 90 true).run Tryz.prog w = .ok (.tuple #[.agg #[], .bool false]) w := fun _ => by kernel_rfl
    have h_answer : ∀ w, (Instr.typeAssert (.iface 95 (.agg #[])) 68 91 true).run Tryz.prog w = .ok (.tuple #[.agg #[], .bool false]) w := fun _ => by kernel_rfl
    have h_sent : ∀ w, (Instr.typeAssert (.iface 95 (.agg #[])) 68 92 true).run Tryz.prog w = .ok (.tuple #[.agg #[], .bool false]) w := fun _ => by kernel_rfl
    have h_got : ∀ w, (Instr.typeAssert (.iface 95 (.agg #[])) 68 94 true).run Tryz.prog w = .ok (.tuple #[.agg #[], .bool false]) w := fun _ => by kernel_rfl
    have h_stock : ∀ w, (Instr.typeAssert (.iface 95 (.agg #[])) 68 95 true).run Tryz.prog w = .ok (.tuple #[.agg #[], .bool true]) w := fun _ => by kernel_rfl
    have h_adjust : ∀ w, (Instr.typeAssert (.iface 95 (.agg #[])) 68 96 true).run Tryz.prog w = .ok (.tuple #[.agg #[], .bool false]) w := fun _ => by kernel_rfl
    go_enter Tryz.func76, Tryz.ntmps76
    go_wp2
    go_ret2
    exact ⟨rfl, rfl⟩
  · show Calls Tryz.prog 76 #[.iface 96 (.agg #[])] w _
    have h_order : ∀ w, (Instr.typeAssert (.iface 96 (.agg #[])) 68 90 true).run Tryz.prog w = .ok (.tuple #[.agg #[], .bool false]) w := fun _ => by kernel_rfl
    have h_answer : ∀ w, (Instr.typeAssert (.iface 96 (.agg #[])) 68 91 true).run Tryz.prog w = .ok (.tuple #[.agg #[], .bool false]) w := fun _ => by kernel_rfl
    have h_sent : ∀ w, (Instr.typeAssert (.iface 96 (.agg #[])) 68 92 true).run Tryz.prog w = .ok (.tuple #[.agg #[], .bool false]) w := fun _ => by kernel_rfl
    have h_got : ∀ w, (Instr.typeAssert (.iface 96 (.agg #[])) 68 94 true).run Tryz.prog w = .ok (.tuple #[.agg #[], .bool false]) w := fun _ => by kernel_rfl
    have h_stock : ∀ w, (Instr.typeAssert (.iface 96 (.agg #[])) 68 95 true).run Tryz.prog w = .ok (.tuple #[.agg #[], .bool false]) w := fun _ => by kernel_rfl
    have h_adjust : ∀ w, (Instr.typeAssert (.iface 96 (.agg #[])) 68 96 true).run Tryz.prog w = .ok (.tuple #[.agg #[], .bool true]) w := fun _ => by kernel_rfl
    go_enter Tryz.func76, Tryz.ntmps76
    go_wp2
    go_ret2
    exact ⟨rfl, rfl⟩
  · show Calls Tryz.prog 76 #[.iface 97 (.agg #[])] w _
    have h_order : ∀ w, (Instr.typeAssert (.iface 97 (.agg #[])) 68 90 true).run Tryz.prog w = .ok (.tuple #[.agg #[], .bool false]) w := fun _ => by kernel_rfl
    have h_answer : ∀ w, (Instr.typeAssert (.iface 97 (.agg #[])) 68 91 true).run Tryz.prog w = .ok (.tuple #[.agg #[], .bool false]) w := fun _ => by kernel_rfl
    have h_sent : ∀ w, (Instr.typeAssert (.iface 97 (.agg #[])) 68 92 true).run Tryz.prog w = .ok (.tuple #[.agg #[], .bool false]) w := fun _ => by kernel_rfl
    have h_got : ∀ w, (Instr.typeAssert (.iface 97 (.agg #[])) 68 94 true).run Tryz.prog w = .ok (.tuple #[.agg #[], .bool false]) w := fun _ => by kernel_rfl
    have h_stock : ∀ w, (Instr.typeAssert (.iface 97 (.agg #[])) 68 95 true).run Tryz.prog w = .ok (.tuple #[.agg #[], .bool false]) w := fun _ => by kernel_rfl
    have h_adjust : ∀ w, (Instr.typeAssert (.iface 97 (.agg #[])) 68 96 true).run Tryz.prog w = .ok (.tuple #[.agg #[], .bool false]) w := fun _ => by kernel_rfl
    go_enter Tryz.func76, Tryz.ntmps76
    go_wp2
    go_ret2
    exact ⟨rfl, rfl⟩
end Go.Proofs.YtcdebinldmblkaaGreatDoor
