/- Contract of the digits' value. -/
import Derived.Test.YtcdmnodhkgiaaaaDoorOnI
import Derived.Maps.RangeWalk
import Derived.Maps.Views
namespace Go.Proofs.YtcdmnodhkgiaaaaDoor
open Go.ChangeShapes Go.WideShapes Go.ChangeAt Go.RowKit
/-- The value of a digit's letter. -/
def valD (z : Int) : Option Nat := (List.range 16).find? fun j => decide (hexD j = z)
theorem valD_find (z : Int) : (dgs 16).find? (fun x => decide (x.1 = z)) = (valD z).map fun j => (hexD j, (j : Int)) := by
  unfold dgs valD
  rw [List.find?_map]
  rfl
theorem zeroU8 (w : World) : (zeroValue 5).run Tryd.prog w = .ok (.int .u8 0) w := by kernel_rfl
theorem lookU {w : World} {m n : Nat} {z : Int} (h : w.ownsMap Tryd.prog 21 rdU m n (mapU (dgs 16))) (hz : -2147483648 ≤ z ∧ z ≤ 2147483647) :
    (Instr.lookup 75 (.map (some m)) (.int .i32 z) true).run Tryd.prog w = .ok (.tuple #[.int .u8 (((valD z).map fun (j : Nat) => (j : Int)).getD 0), .bool (valD z).isSome]) w := by
  obtain ⟨es, clock, hb, F, _, hD⟩ := h
  rcases Maps.fit_look true i32_keyed Tryd.underlying75 (zeroU8 w) hb F (i32_key hz) with ⟨hrun, _, hat⟩ | ⟨e0, y, _, _, hrun, hR, hat, _⟩
  · have := hat .nil
    rw [← hD, at_mapU, valD_find] at this
    cases hf : valD z with
    | none => rw [hrun]; rfl
    | some s => rw [hf] at this; cases this
  · obtain ⟨a, hv, rfl⟩ := rdU_inv hR
    have := hat .nil
    rw [← hD, at_mapU, valD_find] at this
    cases hf : valD z with
    | none => rw [hf] at this; cases this
    | some s =>
      rw [hf] at this
      cases this
      rw [hrun, hv]
      rfl
set_option maxRecDepth 100000 in
set_option maxHeartbeats 4000000 in
theorem value_any {T nn : Nat} {r : Nat → Value} (hnn : 20 ≤ nn) (B : Nat) (z : Int) (hz : -2147483648 ≤ z ∧ z ≤ 2147483647) (w : World) (h : Dgt true T nn r B w) :
    Calls Tryd.prog 58 #[.pointer (some ⟨B, 0, none⟩), .int .i32 z] w fun e w' => e = .returned (.tuple #[.int .u8 (((valD z).map fun (j : Nat) => (j : Int)).getD 0), .bool (valD z).isSome]) ∧ DgM true T nn r B w' ∧ w.grownBy w' (some B) := by
  have Q := do_any (mp := true) hnn B w h
  have hmf : ∀ (fn : Fn) (first cap : Array Value) (w : World), (Instr.makeFunc fn first cap).run Tryd.prog w = .ok (.func fn first cap) w := fun _ _ _ _ => rfl
  clear h
  go_enter Tryd.func58, Tryd.ntmps58
  go_wp2_with fail
  refine Q.mono ?_
  rintro e w2 ⟨rfl, hE, hg⟩
  have H2 : Hid (DgM true T nn r B w2 ∧ w.grownBy w2 (some B)) := ⟨hE, hg⟩
  obtain ⟨m, _, hr, hm⟩ := hE
  have c19 : w2.cell? ⟨B, 19, none⟩ = some (.map (some m)) := hr.cell (i := 19) (by omega)
  have hlk := lookU (hm rfl) hz
  obtain ⟨a, ha⟩ : ∃ a, a = ((valD z).map fun (j : Nat) => (j : Int)).getD 0 := ⟨_, rfl⟩
  obtain ⟨b, hb⟩ : ∃ b, b = (valD z).isSome := ⟨_, rfl⟩
  rw [← ha, ← hb] at hlk
  have HAB : Hid (a = ((valD z).map fun (j : Nat) => (j : Int)).getD 0 ∧ b = (valD z).isSome) := ⟨ha, hb⟩
  clear hr hg hmf hm Q ha hb
  go_wp2
  refine bodyPost_ret (v := .tuple #[.int .u8 a, .bool b]) (by simp [results, Tryd.results58, go_sem]; try rfl) rfl ?_
  exact ⟨by rw [← HAB.out.1, ← HAB.out.2], H2.out⟩
end Go.Proofs.YtcdmnodhkgiaaaaDoor
