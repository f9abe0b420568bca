/- Contracts of the laws' own comparisons: two values that read as the same segment are told to be equal. -/
import Derived.Test.YthjddnhdfnhalaaDoorDeepRow
import Derived.Deep.RegionHeld3
import Derived.Test.YthjddnhdfnhalaaDoorEqS
namespace Go.Proofs.YthjddnhdfnhalaaDoor
open Go.ChangeShapes Go.WideShapes Go.ChangeAt Go.RowKit
set_option maxHeartbeats 400000 in
theorem eqEl_any (v v' : Value) (ss : List ByteArray) (w : World) (h : RowS w v ss) (h' : RowS w v' ss) :
    Calls Tryd.prog 53 #[.agg #[v], .agg #[v']] w fun e w' => e = .returned (.bool true) ∧ Below w.heap.size w w' := by
  obtain ⟨a, cap, rfl⟩ := h.val
  obtain ⟨a', cap', rfl⟩ := h'.val
  have H : Hid (RowS w (.slice a ss.length cap) ss ∧ RowS w (.slice a' ss.length cap') ss) := ⟨h, h'⟩
  clear h h'
  go_enter Tryd.func53, Tryd.ntmps53
  go_wp2_with fail
  have hb0 : Below w.heap.size w ((w.alloc (.cells #[.slice a ss.length cap] 70)).alloc (.cells #[.slice a' ss.length cap'] 70)) := ((Below.refl _ _).alloc (Nat.le_refl _) _).alloc (by simp) _
  refine (eqS_any _ _ ss _ (H.out.1.below hb0) (H.out.2.below hb0)).mono ?_
  rintro e w1 ⟨rfl, hb⟩
  have HB : Hid (Below w.heap.size w w1) := hb0.trans (hb.mono (by simp; omega))
  clear hb hb0
  go_wp2
  go_ret
  exact ⟨rfl, HB.out⟩
set_option maxHeartbeats 1000000 in
theorem eqE_any (v v' : Value) (es : List (List ByteArray)) (w : World) (h : RowE w v es) (h' : RowE w v' es) :
    Calls Tryd.prog 42 #[v, v'] w fun e w' => e = .returned (.bool true) ∧ Below w.heap.size w w' := by
  have hlen := h.len
  obtain ⟨a, cap, rfl⟩ := h.val
  obtain ⟨a', cap', rfl⟩ := h'.val
  have H : Hid (RowE w (.slice a es.length cap) es ∧ RowE w (.slice a' es.length cap') es) := ⟨h, h'⟩
  clear h h'
  go_enter Tryd.func42, Tryd.ntmps42
  go_wp2
  go_loopw [5] (fun i wr => ∃ k : Nat, i = .int .i64 (k : Int) ∧ k ≤ es.length ∧ Below w.heap.size w wr) (fun i _ => es.length - (intOf i).toNat)
  case atStart => exact ⟨0, rfl, by omega, Below.refl _ _⟩
  case round =>
    obtain ⟨k, rfl, hk, hb⟩ := hrel
    by_cases hlt : k < es.length
    · have hlt' : (k : Int) < (es.length : Int) := by omega
      obtain ⟨b, o, c1, s, u, e, hs, hc, hS⟩ := (H.out.1.below hb).at hlt
      obtain ⟨b', o', c2, s', u', e', hs', hc', hS'⟩ := (H.out.2.below hb).at hlt
      simp only [Value.slice.injEq, true_and] at e e'
      obtain ⟨rfl, rfl⟩ := e
      obtain ⟨rfl, rfl⟩ := e'
      obtain rfl : s = s' := by rw [hs] at hs'; exact Option.some.inj hs'
      have HB : Hid (Below w.heap.size w wr ∧ RowS wr u s ∧ RowS wr u' s) := ⟨hb, hS, hS'⟩
      clear hs hs' hb hS hS'
      have hlb := cell_lt hc
      have hlb' := cell_lt hc'
      go_wp2_with fail
      go_region_held3 (fun W => W.cell? ⟨b, o + k, none⟩ = some u ∧ W.cell? ⟨b', o' + k, none⟩ = some u') (go_keep) (first | (go_at_call 53; refine (eqEl_any u u' s _ (HB.out.2.1.below (Below.refl _ _).drew) (HB.out.2.2.below (Below.refl _ _).drew)).mono ?_; rintro e w2 ⟨rfl, hb2⟩; have y0 : w2.cell? ⟨b, o + k, none⟩ = some u := (hb2.cell (p := ⟨b, o + k, none⟩) hlb).trans hc; have y1 : w2.cell? ⟨b', o' + k, none⟩ = some u' := (hb2.cell (p := ⟨b', o' + k, none⟩) hlb').trans hc'))
      have HB2 : Hid (Below w.heap.size w w2) := HB.out.1.drew.trans (hb2.mono HB.out.1.size)
      clear hb2
      rename_i hHeld
      clear hHeld
      go_wp2
      go_roundw
      case rel => exact ⟨k + 1, by go_num, by omega, HB2.out⟩
      case measure => simp [intOf]; omega
    · obtain rfl : k = es.length := by omega
      have HB : Hid (Below w.heap.size w wr) := hb
      clear hb
      go_wp2
      go_ret
      exact ⟨rfl, HB.out⟩
set_option maxHeartbeats 400000 in
theorem eqG_any (tag : ByteArray) (v v' : Value) (es : List (List ByteArray)) (w : World) (h : RowE w v es) (h' : RowE w v' es) :
    Calls Tryd.prog 27 #[.agg #[.string tag, v], .agg #[.string tag, v']] w fun e w' => e = .returned (.bool true) ∧ Below w.heap.size w w' := by
  obtain ⟨a, cap, rfl⟩ := h.val
  obtain ⟨a', cap', rfl⟩ := h'.val
  have H : Hid (RowE w (.slice a es.length cap) es ∧ RowE w (.slice a' es.length cap') es) := ⟨h, h'⟩
  clear h h'
  go_enter Tryd.func27, Tryd.ntmps27
  go_wp2_with fail
  have hb0 : Below w.heap.size w ((w.alloc (.cells #[.string tag, .slice a es.length cap] 43)).alloc (.cells #[.string tag, .slice a' es.length cap'] 43)) := ((Below.refl _ _).alloc (Nat.le_refl _) _).alloc (by simp) _
  refine (eqE_any _ _ es _ (H.out.1.below hb0) (H.out.2.below hb0)).mono ?_
  rintro e w1 ⟨rfl, hb⟩
  have HB : Hid (Below w.heap.size w w1) := hb0.trans (hb.mono (by simp; omega))
  clear hb hb0
  go_wp2
  go_ret
  exact ⟨rfl, HB.out⟩
end Go.Proofs.YthjddnhdfnhalaaDoor
