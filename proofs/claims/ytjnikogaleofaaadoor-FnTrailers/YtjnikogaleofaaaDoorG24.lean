/- Texts of ours put together: RdB, HdI. -/
import Derived.Test.YtjnikogaleofaaaDoorG20
import Derived.Test.YtjnikogaleofaaaDoorG23
import Derived.BigQuiet
import Derived.Deep.QuietTactic
import Derived.BigRegion
import Derived.Deep.RegionLaw
import Derived.Deep.RegionHeld3
import Derived.Test.YtjnikogaleofaaaDoorG08
import Derived.Test.YtjnikogaleofaaaDoorG11
import Derived.Test.YtjnikogaleofaaaDoorG12
namespace Go.Proofs.YtjnikogaleofaaaDoor
open Go.ChangeShapes Go.WideShapes Go.ChangeAt Go.RowKit
theorem box11R {W : World} {b t : Nat} {x0 x1 x2 x3 x4 x5 x6 x7 x8 x9 x10 : Value} (h : W.heap[b]? = some (.cells #[x0, x1, x2, x3, x4, x5, x6, x7, x8, x9, x10] t)) : W.cell? ⟨b, 0, none⟩ = some x0 ∧ W.cell? ⟨b, 1, none⟩ = some x1 ∧ W.cell? ⟨b, 2, none⟩ = some x2 ∧ W.cell? ⟨b, 3, none⟩ = some x3 ∧ W.cell? ⟨b, 4, none⟩ = some x4 ∧ W.cell? ⟨b, 5, none⟩ = some x5 ∧ W.cell? ⟨b, 6, none⟩ = some x6 ∧ W.cell? ⟨b, 7, none⟩ = some x7 ∧ W.cell? ⟨b, 8, none⟩ = some x8 ∧ W.cell? ⟨b, 9, none⟩ = some x9 ∧ W.cell? ⟨b, 10, none⟩ = some x10 := by
  refine ⟨?_, ?_, ?_, ?_, ?_, ?_, ?_, ?_, ?_, ?_, ?_⟩ <;> simp [World.cell?, h]
theorem below_drewR {B : Nat} {a w : World} (h : Below B a w) (n : Nat) : Below B a (w.drewN n) := h.trans ⟨rfl, rfl, rfl, Nat.le_refl _, fun _ _ => rfl⟩
set_option maxHeartbeats 4000000 in
theorem over_any (R : Nat) (A : Option Addr) (L C : Nat) (at_ : Int) (x2 x3 x4 x5 x6 x7 x8 x9 x10 : Value) (w : World) (h : w.heap[R]? = some (.cells #[.slice A L C, .int .i64 at_, x2, x3, x4, x5, x6, x7, x8, x9, x10] 67)) :
    Calls Tryd.prog 34 #[.pointer (some ⟨R, 0, none⟩)] w fun e w' => e = .returned (.bool (at_ == (L : Int))) ∧ Below w.heap.size w w' := by
  obtain ⟨c0, c1, _, _, _, _, _, _, _, _, _⟩ := box11R h
  clear h
  go_enter Tryd.func34, Tryd.ntmps34
  go_upto_region 1 with fail
  go_quiet (fail)
  go_wp2
  go_ret
  exact ⟨rfl, below_drewR (Below.refl _ _) _⟩
set_option maxHeartbeats 4000000 in
theorem next_any (R b o L C : Nat) (k : Nat) (tag : ByteArray) (Au : Option Addr) (nu Cu : Nat) (x2 x3 x4 x5 x6 x7 x8 x9 x10 : Value) (w : World) (h : w.heap[R]? = some (.cells #[.slice (some ⟨b, o, none⟩) L C, .int .i64 (k : Int), x2, x3, x4, x5, x6, x7, x8, x9, x10] 67)) (hk : k < L)
    (h0 : w.cell? ⟨b, o + k * 2, none⟩ = some (.string tag)) (h1 : w.cell? ⟨b, o + k * 2 + 1, none⟩ = some (.slice Au nu Cu)) :
    Calls Tryd.prog 49 #[.pointer (some ⟨R, 0, none⟩)] w fun e w' => e = .returned (.agg #[.string tag, .slice Au nu Cu]) ∧ Below w.heap.size w w' := by
  have hkl : (k : Int) < (L : Int) := by omega
  obtain ⟨W0, hW0⟩ : ∃ W0, w.alloc (.cells #[.string ⟨#[]⟩, .slice none 0 0] 33) = W0 := ⟨_, rfl⟩
  have hb0 : Below w.heap.size w W0 := by rw [← hW0]; exact (Below.refl _ _).alloc (Nat.le_refl _) _
  have i0 : W0.heap[w.heap.size]? = some (.cells #[.string ⟨#[]⟩, .slice none 0 0] 33) := by rw [← hW0]; exact World.alloc_heap_new _ _
  have hR := (hb0.block R (Array.getElem?_eq_some_iff.1 h).1).trans h
  obtain ⟨c0, c1, _, _, _, _, _, _, _, _, _⟩ := box11R hR
  have q0 := (hb0.cell (cell_lt h0)).trans h0
  have q1 := (hb0.cell (cell_lt h1)).trans h1
  obtain ⟨Q, hQ⟩ : ∃ Q, Q = w.heap.size := ⟨_, rfl⟩
  have HB : Hid (Below w.heap.size w W0 ∧ w.heap.size ≤ Q) := ⟨hb0, by omega⟩
  rw [← hQ] at i0
  have r0 : W0.cell? ⟨Q, 0, none⟩ = some (.string ⟨#[]⟩) := by simp [World.cell?, i0]
  have r1 : W0.cell? ⟨Q, 1, none⟩ = some (.slice none 0 0) := by simp [World.cell?, i0]
  have rz : ∀ o, W0.frozen? ⟨Q, o, none⟩ = false := fun o => by simp [World.frozen?, i0]
  have HI : Hid (W0.heap[Q]? = some (.cells #[.string ⟨#[]⟩, .slice none 0 0] 33)) := i0
  have HW0 : Hid (w.alloc (.cells #[.string ⟨#[]⟩, .slice none 0 0] 33) = W0 ∧ Q = w.heap.size) := ⟨hW0, hQ⟩
  clear h h0 h1 hR hW0 hb0 i0 hQ
  go_enter Tryd.func49, Tryd.ntmps49
  go_upto_region 1 with fail
  try rw [HW0.out.1]
  try rw [← HW0.out.2]
  clear HW0
  have c0d : W0.drew.cell? ⟨R, 0, none⟩ = _ := c0
  have c1d : W0.drew.cell? ⟨R, 1, none⟩ = _ := c1
  have q0d : W0.drew.cell? ⟨b, o + k * 2, none⟩ = _ := q0
  have q1d : W0.drew.cell? ⟨b, o + k * 2 + 1, none⟩ = _ := q1
  have r0d : W0.drew.cell? ⟨Q, 0, none⟩ = _ := r0
  have r1d : W0.drew.cell? ⟨Q, 1, none⟩ = _ := r1
  have rzd : ∀ o, W0.drew.frozen? ⟨Q, o, none⟩ = false := rz
  go_region_law (fail)
  all_goals clear c0 c1 q0 q1 r0 r1 rz c0d c1d q0d q1d r0d r1d rzd
  all_goals have f0 : ((W0.setCell ⟨Q, 0, none⟩ (.string tag)).setCell ⟨Q, 1, none⟩ (.slice Au nu Cu)).drew.cell? ⟨Q, 0, none⟩ = some (.string tag) := by (simp [World.cell?, World.setCell, World.drew, Array.getElem?_modify, HI.out])
  all_goals have f1 : ((W0.setCell ⟨Q, 0, none⟩ (.string tag)).setCell ⟨Q, 1, none⟩ (.slice Au nu Cu)).drew.cell? ⟨Q, 1, none⟩ = some (.slice Au nu Cu) := by (simp [World.cell?, World.setCell, World.drew, Array.getElem?_modify, HI.out])
  all_goals go_wp2
  all_goals exact bodyPost_ret (v := .agg #[.string tag, .slice Au nu Cu]) (by simp [results, Tryd.results49, go_sem, f0, f1]) rfl ⟨rfl, ((HB.out.1.setCell HB.out.2 _).setCell HB.out.2 _).drew⟩
theorem fldSeg (tag : ByteArray) (Au : Option Addr) (nu Cu : Nat) (w : World) : (Instr.field 33 (.agg #[.string tag, .slice Au nu Cu]) 0).run Tryd.prog w = .ok (.string tag) w := by kernel_rfl
set_option maxHeartbeats 4000000 in
theorem nextIs_any (R b o L C : Nat) (k : Nat) (t tag : ByteArray) (Au : Option Addr) (nu Cu : Nat) (x2 x3 x4 x5 x6 x7 x8 x9 x10 : Value) (w : World) (h : w.heap[R]? = some (.cells #[.slice (some ⟨b, o, none⟩) L C, .int .i64 (k : Int), x2, x3, x4, x5, x6, x7, x8, x9, x10] 67)) (hk : k < L)
    (h0 : w.cell? ⟨b, o + k * 2, none⟩ = some (.string tag)) (h1 : w.cell? ⟨b, o + k * 2 + 1, none⟩ = some (.slice Au nu Cu)) :
    Calls Tryd.prog 35 #[.pointer (some ⟨R, 0, none⟩), .string t] w fun e w' => e = .returned (.bool (tag.toList == t.toList)) ∧ Below w.heap.size w w' := by
  have Q := next_any R b o L C k tag Au nu Cu x2 x3 x4 x5 x6 x7 x8 x9 x10 w h hk h0 h1
  have fx := fldSeg tag Au nu Cu
  clear h h0 h1
  go_enter Tryd.func35, Tryd.ntmps35
  go_wp2_with (go_at_call 49; refine Q.mono ?_; rintro e w1 ⟨rfl, hb1⟩; have H1 : Hid (Below w.heap.size w w1) := hb1; clear hb1)
  go_ret
  exact ⟨rfl, H1.out⟩
end Go.Proofs.YtjnikogaleofaaaDoor
namespace Go.Proofs.YtjnikogaleofaaaDoor
open Go.ChangeShapes Go.WideShapes Go.ChangeAt Go.RowKit
set_option maxHeartbeats 1000000 in
theorem numbered_any (n : Int) (w : World) : Calls Tryd.prog 47 #[.agg #[.int .i64 n]] w fun e w' => e = .returned (.bool (ctlB n)) ∧ Below w.heap.size w w' := by
  go_enter Tryd.func47, Tryd.ntmps47
  go_wp2_with fail
  refine (isControl_any n _).mono ?_
  rintro e w1 ⟨rfl, rfl⟩
  go_wp2
  go_ret
  exact ⟨rfl, (Below.refl _ _).alloc (Nat.le_refl _) _⟩
set_option maxHeartbeats 1000000 in
theorem ixAround_any (f t : ByteArray) (n : Int) (A : Option Addr) (l C : Nat) (w : World) : Calls Tryd.prog 21 #[.agg #[.string f, .string t, .int .i64 n, .slice A l C]] w fun e w' => e = .returned (.agg #[.int .i64 n, .string f, .string t, .slice A l C]) ∧ Below w.heap.size w w' := by
  go_enter Tryd.func21, Tryd.ntmps21
  go_wp2
  exact bodyPost_ret (v := .agg #[.int .i64 n, .string f, .string t, .slice A l C]) (by simp [results, Tryd.results21, go_sem]) rfl ⟨rfl, ((Below.refl _ _).alloc (Nat.le_refl _) _).alloc (by simp) _⟩
set_option maxHeartbeats 1000000 in
theorem headRight_any (n : Int) (f t : ByteArray) (A : Option Addr) (l C : Nat) (w : World) : Calls Tryd.prog 33 #[.agg #[.int .i64 n, .string f, .string t, .slice A l C]] w fun e w' => e = .returned (.bool (ctlB n && (nameB f && nameB t))) ∧ Below w.heap.size w w' := by
  have b0 : Below w.heap.size w (w.alloc (.cells #[.int .i64 n, .string f, .string t, .slice A l C] 60)) := (Below.refl _ _).alloc (Nat.le_refl _) _
  go_enter Tryd.func33, Tryd.ntmps33
  go_wp2_with fail
  refine (numbered_any n _).mono ?_
  rintro e w1 ⟨rfl, hb1⟩
  have c1 : w1.cell? ⟨w.heap.size, 1, none⟩ = some (.string f) := (hb1.cell (p := ⟨w.heap.size, 1, none⟩) (by simp)).trans (by simp [go_sem])
  have c2 : w1.cell? ⟨w.heap.size, 2, none⟩ = some (.string t) := (hb1.cell (p := ⟨w.heap.size, 2, none⟩) (by simp)).trans (by simp [go_sem])
  have H1 : Hid (Below w.heap.size w w1) := b0.trans (hb1.mono (by simp))
  clear hb1 b0
  cases hc : ctlB n
  · go_wp2
    go_ret
    exact ⟨ret_bool (by simp [hc]), H1.out⟩
  · go_wp2_with fail
    refine (isName_any f _).mono ?_
    rintro e w2 ⟨rfl, rfl⟩
    cases hf : nameB f
    · go_wp2
      go_ret
      exact ⟨ret_bool (by simp [hf]), H1.out⟩
    · go_wp2_with fail
      refine (isName_any t _).mono ?_
      rintro e w3 ⟨rfl, rfl⟩
      go_wp2
      go_ret
      exact ⟨ret_bool (by simp [hc, hf]), H1.out⟩
end Go.Proofs.YtjnikogaleofaaaDoor
