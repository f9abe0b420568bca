/- The comparison of two lists of texts: two that read as the same are told to be equal. -/
import Derived.Test.YthjddnhdfnhalaaDoorDeepRow
import Derived.Deep.RegionHeld3
namespace Go.Proofs.YthjddnhdfnhalaaDoor
open Go.ChangeShapes Go.WideShapes Go.ChangeAt Go.RowKit
set_option maxHeartbeats 1000000 in
theorem eqS_any (v v' : Value) (ss : List ByteArray) (w : World) (h : RowS w v ss) (h' : RowS w v' ss) :
    Calls Tryd.prog 65 #[v, v'] w fun e w' => e = .returned (.bool true) ∧ Below w.heap.size w w' := by
  have hlen := h.len
  obtain ⟨a, cap, rfl⟩ := h.val
  obtain ⟨a', cap', rfl⟩ := h'.val
  have H : Hid (RowS w (.slice a ss.length cap) ss ∧ RowS w (.slice a' ss.length cap') ss) := ⟨h, h'⟩
  clear h h'
  go_enter Tryd.func65, Tryd.ntmps65
  go_wp2
  go_loopw [5] (fun i wr => ∃ k : Nat, i = .int .i64 (k : Int) ∧ k ≤ ss.length ∧ Below w.heap.size w wr) (fun i _ => ss.length - (intOf i).toNat)
  case atStart => exact ⟨0, rfl, by omega, Below.refl _ _⟩
  case round =>
    obtain ⟨k, rfl, hk, hb⟩ := hrel
    by_cases hlt : k < ss.length
    · have hlt' : (k : Int) < (ss.length : Int) := by omega
      obtain ⟨b, o, c1, s, e, hs, hc, hsz⟩ := (H.out.1.below hb).at hlt
      obtain ⟨b', o', c2, s', e', hs', hc', hsz'⟩ := (H.out.2.below hb).at hlt
      simp only [Value.slice.injEq, true_and] at e e'
      obtain ⟨rfl, rfl⟩ := e
      obtain ⟨rfl, rfl⟩ := e'
      obtain rfl : s = s' := by rw [hs] at hs'; exact Option.some.inj hs'
      have HB : Hid (Below w.heap.size w wr) := hb
      clear hs hs' hb
      go_wp2
      go_quiet (fail)
      go_wp2
      go_roundw
      case rel => exact ⟨k + 1, by go_num, by omega, below_drewN HB.out _⟩
      case measure => simp [intOf]; omega
    · obtain rfl : k = ss.length := by omega
      have HB : Hid (Below w.heap.size w wr) := hb
      clear hb
      go_wp2
      go_ret
      exact ⟨rfl, HB.out⟩
end Go.Proofs.YthjddnhdfnhalaaDoor
