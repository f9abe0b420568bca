/- The laws' comparison, marks and held marks of what HeadOf hands back: an interchange without bundles. -/
import Derived.Test.YthjddnhdfnhalaaDoorHdP
import Derived.Test.YthjddnhdfnhalaaDoorEqIx
namespace Go.Proofs.YthjddnhdfnhalaaDoor
open Go.ChangeShapes Go.WideShapes Go.ChangeAt Go.RowKit
theorem rowB_nil (W : World) : RowB W (.slice none 0 0) [] := ⟨⟨none, 0, rfl, fun h => absurd rfl h⟩, by simp⟩
set_option maxHeartbeats 1000000 in
theorem heldB_nil (k : Int) (w : World) : Calls Tryd.prog 45 #[.slice none 0 0, .int .i64 k] w fun e w' => e = .returned (.int .i64 k) ∧ Below w.heap.size w w' := by
  go_enter Tryd.func45, Tryd.ntmps45
  go_wp2
  go_loopw [1, 5] (fun kv i wr => kv = .int .i64 k ∧ i = .int .i64 0 ∧ Below w.heap.size w wr) (fun _ _ _ => 0)
  case atStart => exact ⟨rfl, rfl, Below.refl _ _⟩
  case round =>
    obtain ⟨rfl, rfl, hb⟩ := hrel
    have HB : Hid (Below w.heap.size w wr) := hb
    clear hb
    go_wp2
    go_ret
    exact ⟨rfl, HB.out⟩
set_option maxHeartbeats 1000000 in
theorem heldI_nil (f t : ByteArray) (n k : Int) (w : World) (hk : 0 ≤ k) : Calls Tryd.prog 31 #[.agg #[.string f, .string t, .int .i64 n, .slice none 0 0], .int .i64 k] w fun e w' => e = .returned (.int .i64 k) ∧ Below w.heap.size w w' := by
  have hk' : ¬ k < 0 := by omega
  go_enter Tryd.func31, Tryd.ntmps31
  go_wp2_with fail
  refine (heldB_nil k _).mono ?_
  rintro e w2 ⟨rfl, hb⟩
  have HB : Hid (Below w.heap.size w w2) := ((Below.refl _ _).alloc (Nat.le_refl _) _).trans (hb.mono (by simp))
  clear hb
  go_wp2
  go_ret
  exact ⟨rfl, HB.out⟩
set_option maxHeartbeats 1000000 in
theorem markB_nil (k : Int) (w : World) : Calls Tryd.prog 44 #[.slice none 0 0, .int .i64 k] w fun e w' => e = .returned (.int .i64 k) ∧ Below w.heap.size w w' := by
  go_enter Tryd.func44, Tryd.ntmps44
  go_wp2
  go_loopw [1, 5] (fun kv i wr => kv = .int .i64 k ∧ i = .int .i64 0 ∧ Below w.heap.size w wr) (fun _ _ _ => 0)
  case atStart => exact ⟨rfl, rfl, Below.refl _ _⟩
  case round =>
    obtain ⟨rfl, rfl, hb⟩ := hrel
    have HB : Hid (Below w.heap.size w wr) := hb
    clear hb
    go_wp2
    go_ret
    exact ⟨rfl, HB.out⟩
set_option maxHeartbeats 1000000 in
theorem markI_nil (f t : ByteArray) (n k : Int) (w : World) : Calls Tryd.prog 30 #[.agg #[.string f, .string t, .int .i64 n, .slice none 0 0], .int .i64 k] w fun e w' => e = .returned (.int .i64 k) ∧ Below w.heap.size w w' := by
  go_enter Tryd.func30, Tryd.ntmps30
  go_wp2_with fail
  refine (markB_nil k _).mono ?_
  rintro e w2 ⟨rfl, hb⟩
  have HB : Hid (Below w.heap.size w w2) := ((Below.refl _ _).alloc (Nat.le_refl _) _).trans (hb.mono (by simp))
  clear hb
  go_wp2
  go_ret
  exact ⟨rfl, HB.out⟩
set_option maxHeartbeats 1000000 in
theorem heldIO_any (o : ByteArray × ByteArray × Int × Bool × Int) (k : Int) (w : World) (hk : 0 ≤ k) : Calls Tryd.prog 12 #[hdV o, .int .i64 k] w fun e w' => e = .returned (.int .i64 k) ∧ Below w.heap.size w w' := by
  obtain ⟨f, t, n, b, c⟩ := o
  unfold hdV
  dsimp only
  have hk' : ¬ k < 0 := by omega
  go_enter Tryd.func12, Tryd.ntmps12
  go_wp2_with fail
  refine (heldI_nil f t n k _ hk).mono ?_
  rintro e w2 ⟨rfl, hb⟩
  have HB : Hid (Below w.heap.size w w2) := ((Below.refl _ _).alloc (Nat.le_refl _) _).trans (hb.mono (by simp))
  clear hb
  go_wp2
  go_ret
  exact ⟨rfl, HB.out⟩
set_option maxHeartbeats 1000000 in
theorem markIO_any (o : ByteArray × ByteArray × Int × Bool × Int) (k : Int) (w : World) : Calls Tryd.prog 11 #[hdV o, .int .i64 k] w fun e w' => e = .returned (.int .i64 k) ∧ Below w.heap.size w w' := by
  obtain ⟨f, t, n, b, c⟩ := o
  unfold hdV
  dsimp only
  go_enter Tryd.func11, Tryd.ntmps11
  go_wp2_with fail
  refine (markI_nil f t n k _).mono ?_
  rintro e w2 ⟨rfl, hb⟩
  have HB : Hid (Below w.heap.size w w2) := ((Below.refl _ _).alloc (Nat.le_refl _) _).trans (hb.mono (by simp))
  clear hb
  go_wp2
  go_ret
  exact ⟨rfl, HB.out⟩
set_option maxHeartbeats 1000000 in
theorem eqIO_any (o : ByteArray × ByteArray × Int × Bool × Int) (w : World) (hf : o.1.size ≤ 9223372036854775807) (ht : o.2.1.size ≤ 9223372036854775807) : Calls Tryd.prog 8 #[hdV o, hdV o] w fun e w' => e = .returned (.bool true) ∧ Below w.heap.size w w' := by
  obtain ⟨f, t, n, b, c⟩ := o
  unfold hdV
  dsimp only at hf ht ⊢
  have hR : ∀ W, RI W (.slice none 0 0) ⟨f, t, n, []⟩ := fun W => ⟨rowB_nil W, hf, ht⟩
  have b0 : Below w.heap.size w ((w.alloc (.cells #[.string f, .string t, .int .i64 n, .slice none 0 0, .bool b, .int .i64 0, .int .i64 c] 28)).alloc (.cells #[.string f, .string t, .int .i64 n, .slice none 0 0, .bool b, .int .i64 0, .int .i64 c] 28)) := ((Below.refl _ _).alloc (Nat.le_refl _) _).alloc (by simp) _
  go_enter Tryd.func8, Tryd.ntmps8
  go_wp2_with fail
  refine (eqI_any ⟨f, t, n, []⟩ _ _ _ (hR _) (hR _)).mono ?_
  rintro e w2 ⟨rfl, hb2⟩
  have fa : w2.heap[w.heap.size]? = some (.cells #[.string f, .string t, .int .i64 n, .slice none 0 0, .bool b, .int .i64 0, .int .i64 c] 28) := (hb2.block w.heap.size (by simp; omega)).trans ((Below.heap_alloc _ _ _ (by simp)).trans (World.alloc_heap_new w _))
  have fb : w2.heap[w.heap.size + 1]? = some (.cells #[.string f, .string t, .int .i64 n, .slice none 0 0, .bool b, .int .i64 0, .int .i64 c] 28) := (hb2.block (w.heap.size + 1) (by simp)).trans (heap_new2 w _ _)
  have a4 : w2.cell? ⟨w.heap.size, 4, none⟩ = some (.bool b) := by simp [World.cell?, fa]
  have a5 : w2.cell? ⟨w.heap.size, 5, none⟩ = some (.int .i64 0) := by simp [World.cell?, fa]
  have a6 : w2.cell? ⟨w.heap.size, 6, none⟩ = some (.int .i64 c) := by simp [World.cell?, fa]
  have b4 : w2.cell? ⟨w.heap.size + 1, 4, none⟩ = some (.bool b) := by simp [World.cell?, fb]
  have b5 : w2.cell? ⟨w.heap.size + 1, 5, none⟩ = some (.int .i64 0) := by simp [World.cell?, fb]
  have b6 : w2.cell? ⟨w.heap.size + 1, 6, none⟩ = some (.int .i64 c) := by simp [World.cell?, fb]
  have HB : Hid (Below w.heap.size w w2) := b0.trans (hb2.mono (by simp; omega))
  clear fa fb hb2 hR b0
  cases b
  · go_wp2
    go_ret
    exact ⟨rfl, HB.out⟩
  · go_wp2
    go_ret
    exact ⟨rfl, HB.out⟩
end Go.Proofs.YthjddnhdfnhalaaDoor
