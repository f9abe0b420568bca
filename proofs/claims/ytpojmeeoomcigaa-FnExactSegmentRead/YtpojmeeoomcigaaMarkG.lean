/- Contracts of the laws' helpers for what SegmentRead hands back. -/
import Derived.Test.YtpojmeeoomcigaaMarkE
import Derived.Test.YtpojmeeoomcigaaEqRow
import Derived.Test.YtpojmeeoomcigaaRead1
namespace Go.Proofs.Ytpojmeeoomcigaa
open Go.ChangeShapes Go.WideShapes Go.ChangeAt Go.RowKit
set_option maxHeartbeats 1000000 in
theorem eqSO_any (tag : ByteArray) (v v' : Value) (es : List (List ByteArray)) (x y z : Int) (w : World) (h : RowE w v es) (h' : RowE w v' es) :
    Calls Try.prog 24 #[.agg #[.string tag, v, .int .i64 x, .int .i64 y, .int .i64 z], .agg #[.string tag, v', .int .i64 x, .int .i64 y, .int .i64 z]] w fun e w' => e = .returned (.bool true) ∧ Below w.heap.size w w' := by
  have hb0 : Below w.heap.size w ((w.alloc (.cells #[.string tag, v, .int .i64 x, .int .i64 y, .int .i64 z] 34)).alloc (.cells #[.string tag, v', .int .i64 x, .int .i64 y, .int .i64 z] 34)) := ((Below.refl _ _).alloc (Nat.le_refl _) _).alloc (by simp) _
  have HR : Hid (RowE ((w.alloc (.cells #[.string tag, v, .int .i64 x, .int .i64 y, .int .i64 z] 34)).alloc (.cells #[.string tag, v', .int .i64 x, .int .i64 y, .int .i64 z] 34)) v es ∧ RowE ((w.alloc (.cells #[.string tag, v, .int .i64 x, .int .i64 y, .int .i64 z] 34)).alloc (.cells #[.string tag, v', .int .i64 x, .int .i64 y, .int .i64 z] 34)) v' es ∧ Below w.heap.size w ((w.alloc (.cells #[.string tag, v, .int .i64 x, .int .i64 y, .int .i64 z] 34)).alloc (.cells #[.string tag, v', .int .i64 x, .int .i64 y, .int .i64 z] 34))) := ⟨h.below hb0, h'.below hb0, hb0⟩
  obtain ⟨A, C, rfl⟩ := h.val
  obtain ⟨A', C', rfl⟩ := h'.val
  clear h h' hb0
  go_enter Try.func24, Try.ntmps24
  go_wp2_with fail
  refine (eqG_any tag _ _ es _ HR.out.1 HR.out.2.1).mono ?_
  rintro e w2 ⟨rfl, hb2⟩
  have f0 : w2.heap[w.heap.size]? = some (.cells #[.string tag, .slice A es.length C, .int .i64 x, .int .i64 y, .int .i64 z] 34) := (hb2.block w.heap.size (by simp; omega)).trans ((Below.heap_alloc _ _ _ (by simp)).trans (World.alloc_heap_new w _))
  have f1 : w2.heap[w.heap.size + 1]? = some (.cells #[.string tag, .slice A' es.length C', .int .i64 x, .int .i64 y, .int .i64 z] 34) := (hb2.block (w.heap.size + 1) (by simp)).trans (heap_new2 w _ _)
  have a2 : w2.cell? ⟨w.heap.size, 2, none⟩ = some (.int .i64 x) := by simp [World.cell?, f0]
  have a3 : w2.cell? ⟨w.heap.size, 3, none⟩ = some (.int .i64 y) := by simp [World.cell?, f0]
  have a4 : w2.cell? ⟨w.heap.size, 4, none⟩ = some (.int .i64 z) := by simp [World.cell?, f0]
  have b2 : w2.cell? ⟨w.heap.size + 1, 2, none⟩ = some (.int .i64 x) := by simp [World.cell?, f1]
  have b3 : w2.cell? ⟨w.heap.size + 1, 3, none⟩ = some (.int .i64 y) := by simp [World.cell?, f1]
  have b4 : w2.cell? ⟨w.heap.size + 1, 4, none⟩ = some (.int .i64 z) := by simp [World.cell?, f1]
  have HB : Hid (Below w.heap.size w w2) := HR.out.2.2.trans (hb2.mono (by simp; omega))
  clear f0 f1 hb2 HR
  go_wp2
  go_ret
  exact ⟨rfl, HB.out⟩
set_option maxHeartbeats 1000000 in
theorem markG1_any (tag : ByteArray) (v : Value) (vals : List Value) (es : List (List ByteArray)) (n₀ k0 : Nat) (w : World) (h : OwnV n₀ w v vals es) (hX : BdX es) (hl : es.length ≤ 10) (hn : n₀ ≤ w.heap.size) (hk0 : 0 < k0) (hk1 : k0 ≤ 50000) :
    Calls Try.prog 60 #[.agg #[.string tag, v], .int .i64 k0] w fun e w' => e = .returned (.int .i64 ((k0 + offE es es.length : Nat) : Int)) ∧ MkE k0 w' v vals es ∧ Below n₀ w w' ∧ KeepT w w' := by
  have HO : Hid (OwnV n₀ (w.alloc (.cells #[.string tag, v] 27)) v vals es ∧ BdX es) := ⟨h.below ((Below.refl _ _).alloc (Nat.le_refl _) _), hX⟩
  obtain ⟨A, C, rfl, _⟩ := h.slice
  clear h hX
  go_enter Try.func60, Try.ntmps60
  go_wp2_with fail
  refine (markE_any _ vals es n₀ k0 _ HO.out.1 HO.out.2 hl (by simp; omega) hk0 hk1).mono ?_
  rintro e w2 ⟨rfl, hm, hb, hT⟩
  have HM : Hid (MkE k0 w2 (.slice A es.length C) vals es ∧ Below n₀ w w2 ∧ KeepT w w2) := ⟨hm, ((Below.refl _ _).alloc hn _).trans hb, fun k hk hc => (hT k (by simp; omega) (fun c h => hc c ((Below.heap_alloc w _ k hk).symm.trans h))).trans (Below.heap_alloc w _ k hk)⟩
  clear hm hb hT HO
  go_wp2
  go_ret
  exact ⟨rfl, HM.out⟩
set_option maxHeartbeats 1000000 in
theorem markSO_any (tag : ByteArray) (v : Value) (vals : List Value) (es : List (List ByteArray)) (x y z : Int) (n₀ k0 : Nat) (w : World) (h : OwnV n₀ w v vals es) (hX : BdX es) (hl : es.length ≤ 10) (hn : n₀ ≤ w.heap.size) (hk0 : 0 < k0) (hk1 : k0 ≤ 50000) :
    Calls Try.prog 25 #[.agg #[.string tag, v, .int .i64 x, .int .i64 y, .int .i64 z], .int .i64 k0] w fun e w' => e = .returned (.int .i64 ((k0 + offE es es.length : Nat) : Int)) ∧ MkE k0 w' v vals es ∧ Below n₀ w w' ∧ KeepT w w' := by
  have HO : Hid (OwnV n₀ (w.alloc (.cells #[.string tag, v, .int .i64 x, .int .i64 y, .int .i64 z] 34)) v vals es ∧ BdX es) := ⟨h.below ((Below.refl _ _).alloc (Nat.le_refl _) _), hX⟩
  obtain ⟨A, C, rfl, _⟩ := h.slice
  clear h hX
  go_enter Try.func25, Try.ntmps25
  go_wp2_with fail
  refine (markG1_any tag _ vals es n₀ k0 _ HO.out.1 HO.out.2 hl (by simp; omega) hk0 hk1).mono ?_
  rintro e w2 ⟨rfl, hm, hb, hT⟩
  have HM : Hid (MkE k0 w2 (.slice A es.length C) vals es ∧ Below n₀ w w2 ∧ KeepT w w2) := ⟨hm, ((Below.refl _ _).alloc hn _).trans hb, fun k hk hc => (hT k (by simp; omega) (fun c h => hc c ((Below.heap_alloc w _ k hk).symm.trans h))).trans (Below.heap_alloc w _ k hk)⟩
  clear hm hb hT HO
  go_wp2
  go_ret
  exact ⟨rfl, HM.out⟩
set_option maxHeartbeats 1000000 in
theorem heldG1_any (tag : ByteArray) (v : Value) (vals : List Value) (es : List (List ByteArray)) (k0 : Nat) (w : World) (h : MkE k0 w v vals es) (hX : BdX es) (hl : es.length ≤ 10) (hk0 : 0 < k0) (hk1 : k0 ≤ 50000) :
    Calls Try.prog 61 #[.agg #[.string tag, v], .int .i64 k0] w fun e w' => e = .returned (.int .i64 ((k0 + offE es es.length : Nat) : Int)) ∧ Below w.heap.size w w' := by
  have HO : Hid (MkE k0 (w.alloc (.cells #[.string tag, v] 27)) v vals es ∧ BdX es) := ⟨h.below ((Below.refl _ _).alloc (Nat.le_refl _) _), hX⟩
  obtain ⟨A, C, rfl, _⟩ := h.at_
  clear h hX
  go_enter Try.func61, Try.ntmps61
  go_wp2_with fail
  refine (heldE_any _ vals es k0 _ HO.out.1 HO.out.2 hl hk0 hk1).mono ?_
  rintro e w2 ⟨rfl, hb⟩
  have HM : Hid (Below w.heap.size w w2) := ((Below.refl _ _).alloc (Nat.le_refl _) _).trans (hb.mono (by simp))
  clear hb HO
  go_wp2
  go_ret
  exact ⟨rfl, HM.out⟩
set_option maxHeartbeats 1000000 in
theorem heldSO_any (tag : ByteArray) (v : Value) (vals : List Value) (es : List (List ByteArray)) (x y z : Int) (k0 : Nat) (w : World) (h : MkE k0 w v vals es) (hX : BdX es) (hl : es.length ≤ 10) (hk0 : 0 < k0) (hk1 : k0 ≤ 50000) :
    Calls Try.prog 26 #[.agg #[.string tag, v, .int .i64 x, .int .i64 y, .int .i64 z], .int .i64 k0] w fun e w' => e = .returned (.int .i64 ((k0 + offE es es.length : Nat) : Int)) ∧ Below w.heap.size w w' := by
  have HO : Hid (MkE k0 (w.alloc (.cells #[.string tag, v, .int .i64 x, .int .i64 y, .int .i64 z] 34)) v vals es ∧ BdX es) := ⟨h.below ((Below.refl _ _).alloc (Nat.le_refl _) _), hX⟩
  obtain ⟨A, C, rfl, _⟩ := h.at_
  clear h hX
  go_enter Try.func26, Try.ntmps26
  go_wp2_with fail
  refine (heldG1_any tag _ vals es k0 _ HO.out.1 HO.out.2 hl hk0 hk1).mono ?_
  rintro e w2 ⟨rfl, hb⟩
  have HM : Hid (Below w.heap.size w w2) := ((Below.refl _ _).alloc (Nat.le_refl _) _).trans (hb.mono (by simp))
  clear hb HO
  go_wp2
  go_ret
  exact ⟨rfl, HM.out⟩
end Go.Proofs.Ytpojmeeoomcigaa
