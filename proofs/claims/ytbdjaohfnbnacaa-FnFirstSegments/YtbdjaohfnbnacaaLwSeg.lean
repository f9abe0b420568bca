/- Contract of the laws' lwSeg: of two segments that read alike it tells true. -/
import Derived.Test.YtbdjaohfnbnacaaDeepRow
import Derived.Deep.RegionHeld3
import Derived.Deep.QuietTactic
import Derived.BigQuiet
namespace Go.Proofs.Ytbdjaohfnbnacaa
open Go.ChangeShapes Go.WideShapes Go.ChangeAt Go.RowKit
/-- Both boxes, and what they hold read as it did. -/
structure LB (w W : World) (tag : ByteArray) (v v' : Value) (es : List (List ByteArray)) : Prop where
  f0 : W.heap[w.heap.size]? = some (.cells #[.string tag, v] 44)
  f1 : W.heap[w.heap.size + 1]? = some (.cells #[.string tag, v'] 44)
  r0 : RowE W v es
  r1 : RowE W v' es
  bel : Below w.heap.size w W
theorem LB.below {w W W' : World} {tag : ByteArray} {v v' : Value} {es : List (List ByteArray)} (h : LB w W tag v v' es) (hb : Below W.heap.size W W') : LB w W' tag v v' es :=
  ⟨(hb.block _ (Array.getElem?_eq_some_iff.1 h.f0).1).trans h.f0, (hb.block _ (Array.getElem?_eq_some_iff.1 h.f1).1).trans h.f1, h.r0.below hb, h.r1.below hb, h.bel.trans (hb.mono h.bel.size)⟩
set_option maxRecDepth 20000 in
set_option maxHeartbeats 4000000 in
theorem lwSeg_any (tag : ByteArray) (v v' : Value) (es : List (List ByteArray)) (w : World) (h : RowE w v es) (h' : RowE w v' es) :
    Calls Try.prog 24 #[.agg #[.string tag, v], .agg #[.string tag, v']] w fun e w' => e = .returned (.bool true) ∧ Below w.heap.size w w' := by
  have hb0 : Below w.heap.size w ((w.alloc (.cells #[.string tag, v] 44)).alloc (.cells #[.string tag, v'] 44)) := ((Below.refl _ _).alloc (Nat.le_refl _) _).alloc (by simp) _
  have HB : Hid (LB w ((w.alloc (.cells #[.string tag, v] 44)).alloc (.cells #[.string tag, v'] 44)) tag v v' es) := ⟨(Below.heap_alloc _ _ _ (by simp)).trans (World.alloc_heap_new w _), heap_new2 w _ _, h.below hb0, h'.below hb0, hb0⟩
  have hlen := h.len
  obtain ⟨A, C, rfl⟩ := h.val
  obtain ⟨A', C', rfl⟩ := h'.val
  clear h h' hb0
  go_enter Try.func24, Try.ntmps24
  go_wp2_with fail
  go_loopw [5] (fun i wr => ∃ k : Nat, k ≤ es.length ∧ i = .int .i64 k ∧ LB w wr tag (.slice A es.length C) (.slice A' es.length C') es) (fun i _ => es.length - (intOf i).toNat)
  case atStart => exact ⟨0, Nat.zero_le _, rfl, HB.out⟩
  case round =>
    obtain ⟨k, hk, rfl, hL⟩ := hrel
    have f0 := hL.f0
    have f1 := hL.f1
    have m1 : wr.cell? ⟨w.heap.size, 1, none⟩ = some (.slice A es.length C) := by simp [World.cell?, f0]
    have n1 : wr.cell? ⟨w.heap.size + 1, 1, none⟩ = some (.slice A' es.length C') := by simp [World.cell?, f1]
    by_cases hlt : k < es.length
    · have hlt' : (k : Int) < (es.length : Int) := by omega
      obtain ⟨b, o, c1, ss, u, e1, hss, hc, hu⟩ := hL.r0.at hlt
      obtain ⟨b', o', c2, ss', u', e2, hss', hc', hu'⟩ := hL.r1.at hlt
      rw [hss] at hss'
      cases hss'
      simp only [Value.slice.injEq, true_and] at e1 e2
      obtain ⟨rfl, rfl⟩ := e1
      obtain ⟨rfl, rfl⟩ := e2
      have hsl := hu.len
      obtain ⟨Au, Cu, rfl⟩ := hu.val
      obtain ⟨Au', Cu', rfl⟩ := hu'.val
      have HL : Hid (LB w wr tag (.slice (some ⟨b, o, none⟩) es.length C) (.slice (some ⟨b', o', none⟩) es.length C') es ∧ RowS wr (.slice Au ss.length Cu) ss ∧ RowS wr (.slice Au' ss.length Cu') ss) := ⟨hL, hu, hu'⟩
      clear hL hu hu' f0 f1 hss
      go_wp2_with fail
      go_quiet (fail)
      obtain ⟨wo, hwo⟩ : ∃ wo, wo = wr := ⟨_, rfl⟩
      subst hwo
      go_wp2_with fail
      go_loopw [6] (fun i wr => ∃ j : Nat, j ≤ ss.length ∧ i = .int .i64 j ∧ Below wo.heap.size wo wr) (fun i _ => ss.length - (intOf i).toNat)
      case atStart => exact ⟨0, Nat.zero_le _, rfl, below_drewN (Below.refl _ _) _⟩
      case round =>
        obtain ⟨j, hj, rfl, hb⟩ := hrel
        have hx1 : wr.cell? ⟨w.heap.size, 1, none⟩ = some (.slice (some ⟨b, o, none⟩) es.length C) := (hb.cell (p := ⟨w.heap.size, 1, none⟩) (cell_lt m1)).trans m1
        have hx2 : wr.cell? ⟨w.heap.size + 1, 1, none⟩ = some (.slice (some ⟨b', o', none⟩) es.length C') := (hb.cell (p := ⟨w.heap.size + 1, 1, none⟩) (cell_lt n1)).trans n1
        have hx3 := (hb.cell (p := ⟨b, o + k, none⟩) (cell_lt hc)).trans hc
        have hx4 := (hb.cell (p := ⟨b', o' + k, none⟩) (cell_lt hc')).trans hc'
        have HJ : Hid (LB w wr tag (.slice (some ⟨b, o, none⟩) es.length C) (.slice (some ⟨b', o', none⟩) es.length C') es ∧ Below wo.heap.size wo wr) := ⟨HL.out.1.below hb, hb⟩
        by_cases hj2 : j < ss.length
        · have hj2' : (j : Int) < (ss.length : Int) := by omega
          obtain ⟨p, q, c3, t, e3, ht, hct, htz⟩ := (HL.out.2.1.below hb).at hj2
          obtain ⟨p', q', c4, t', e4, ht', hct', _⟩ := (HL.out.2.2.below hb).at hj2
          rw [ht] at ht'
          cases ht'
          simp only [Value.slice.injEq, true_and] at e3 e4
          obtain ⟨rfl, rfl⟩ := e3
          obtain ⟨rfl, rfl⟩ := e4
          clear hb ht
          go_wp2_with fail
          go_quiet (fail)
          go_wp2
          go_roundw
          case rel => exact ⟨j + 1, by omega, by go_num, below_drewN HJ.out.2 _⟩
          case measure => simp [intOf]; omega
        · have hge : (ss.length : Int) ≤ (j : Int) := by omega
          clear hb
          go_wp2
          go_roundw
          case rel => exact ⟨k + 1, by omega, by go_num, HJ.out.1⟩
          case measure => simp [intOf]; omega
    · have hge : (es.length : Int) ≤ (k : Int) := by omega
      have HE : Hid (Below w.heap.size w wr) := hL.bel
      clear hL f0 f1
      go_wp2
      go_ret
      exact ⟨rfl, HE.out⟩
end Go.Proofs.Ytbdjaohfnbnacaa
