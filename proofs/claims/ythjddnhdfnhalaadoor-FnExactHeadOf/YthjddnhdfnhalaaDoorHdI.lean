/- Contracts of impl of the head of an interchange. -/
import Derived.Test.YthjddnhdfnhalaaDoorRowIx
import Derived.Test.YthjddnhdfnhalaaDoorNameB
import Derived.Test.YthjddnhdfnhalaaDoorCtlB
import Derived.Deep.RegionHeld3
namespace Go.Proofs.YthjddnhdfnhalaaDoor
open Go.ChangeShapes Go.WideShapes Go.ChangeAt Go.RowKit
set_option maxHeartbeats 1000000 in
theorem numbered_any (n : Int) (w : World) : Calls Tryd.prog 39 #[.agg #[.int .i64 n]] w fun e w' => e = .returned (.bool (ctlB n)) ∧ Below w.heap.size w w' := by
  go_enter Tryd.func39, Tryd.ntmps39
  go_wp2_with fail
  refine (isControl_any n _).mono ?_
  rintro e w1 ⟨rfl, rfl⟩
  go_wp2
  go_ret
  exact ⟨rfl, (Below.refl _ _).alloc (Nat.le_refl _) _⟩
set_option maxHeartbeats 1000000 in
theorem ixAround_any (f t : ByteArray) (n : Int) (A : Option Addr) (l C : Nat) (w : World) : Calls Tryd.prog 24 #[.agg #[.string f, .string t, .int .i64 n, .slice A l C]] w fun e w' => e = .returned (.agg #[.int .i64 n, .string f, .string t, .slice A l C]) ∧ Below w.heap.size w w' := by
  go_enter Tryd.func24, Tryd.ntmps24
  go_wp2
  exact bodyPost_ret (v := .agg #[.int .i64 n, .string f, .string t, .slice A l C]) (by simp [results, Tryd.results24, go_sem]) rfl ⟨rfl, ((Below.refl _ _).alloc (Nat.le_refl _) _).alloc (by simp) _⟩
set_option maxHeartbeats 1000000 in
theorem headRight_any (n : Int) (f t : ByteArray) (A : Option Addr) (l C : Nat) (w : World) : Calls Tryd.prog 25 #[.agg #[.int .i64 n, .string f, .string t, .slice A l C]] w fun e w' => e = .returned (.bool (ctlB n && (nameB f && nameB t))) ∧ Below w.heap.size w w' := by
  have b0 : Below w.heap.size w (w.alloc (.cells #[.int .i64 n, .string f, .string t, .slice A l C] 60)) := (Below.refl _ _).alloc (Nat.le_refl _) _
  go_enter Tryd.func25, Tryd.ntmps25
  go_wp2_with fail
  refine (numbered_any n _).mono ?_
  rintro e w1 ⟨rfl, hb1⟩
  have c1 : w1.cell? ⟨w.heap.size, 1, none⟩ = some (.string f) := (hb1.cell (p := ⟨w.heap.size, 1, none⟩) (by simp)).trans (by simp [go_sem])
  have c2 : w1.cell? ⟨w.heap.size, 2, none⟩ = some (.string t) := (hb1.cell (p := ⟨w.heap.size, 2, none⟩) (by simp)).trans (by simp [go_sem])
  have H1 : Hid (Below w.heap.size w w1) := b0.trans (hb1.mono (by simp))
  clear hb1 b0
  cases hc : ctlB n
  · go_wp2
    go_ret
    exact ⟨ret_bool (by simp [hc]), H1.out⟩
  · go_wp2_with fail
    refine (isName_any f _).mono ?_
    rintro e w2 ⟨rfl, rfl⟩
    cases hf : nameB f
    · go_wp2
      go_ret
      exact ⟨ret_bool (by simp [hf]), H1.out⟩
    · go_wp2_with fail
      refine (isName_any t _).mono ?_
      rintro e w3 ⟨rfl, rfl⟩
      go_wp2
      go_ret
      exact ⟨ret_bool (by simp [hc, hf]), H1.out⟩
end Go.Proofs.YthjddnhdfnhalaaDoor
