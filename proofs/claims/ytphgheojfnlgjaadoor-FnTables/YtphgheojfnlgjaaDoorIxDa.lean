/- Rows of two and three texts; the size of a number told. -/
import Derived.Test.YtphgheojfnlgjaaDoorIxQa
namespace Go.Proofs.YtphgheojfnlgjaaDoor
open Go.ChangeShapes Go.WideShapes Go.ChangeAt Go.RowKit
theorem row2s (w : World) (t s : ByteArray) (hz : t.size ≤ 9223372036854775807) (hs : s.size ≤ 9223372036854775807) : RowS (w.alloc (.cells #[.string t, .string s] 9)) (.slice (some ⟨w.heap.size, 0, none⟩) 2 2) [t, s] := by
  refine ⟨⟨_, _, rfl, fun _ => ⟨w.heap.size, 0, rfl, fun i x hi => ?_⟩⟩, by simp, fun i x hi => ?_⟩
  · rcases i with _ | _ | i
    · simp at hi
      subst hi
      simp [go_sem]
    · simp at hi
      subst hi
      simp [go_sem]
    · simp at hi
  · rcases i with _ | _ | i
    · simp at hi
      subst hi
      exact hz
    · simp at hi
      subst hi
      exact hs
    · simp at hi
theorem row3s (w : World) (t s r : ByteArray) (hz : t.size ≤ 9223372036854775807) (hs : s.size ≤ 9223372036854775807) (hr : r.size ≤ 9223372036854775807) : RowS (w.alloc (.cells #[.string t, .string s, .string r] 9)) (.slice (some ⟨w.heap.size, 0, none⟩) 3 3) [t, s, r] := by
  refine ⟨⟨_, _, rfl, fun _ => ⟨w.heap.size, 0, rfl, fun i x hi => ?_⟩⟩, by simp, fun i x hi => ?_⟩
  · rcases i with _ | _ | _ | i
    · simp at hi
      subst hi
      simp [go_sem]
    · simp at hi
      subst hi
      simp [go_sem]
    · simp at hi
      subst hi
      simp [go_sem]
    · simp at hi
  · rcases i with _ | _ | _ | i
    · simp at hi
      subst hi
      exact hz
    · simp at hi
      subst hi
      exact hs
    · simp at hi
      subst hi
      exact hr
    · simp at hi
theorem nDig_le : ∀ (f u : Nat), u < 10 ^ (f + 1) → Lib.nDigits u ≤ f + 1
  | 0, u, h => by rw [Lib.nDigits_small (by simpa using h)]; omega
  | f + 1, u, h => by
    by_cases q : u < 10
    · rw [Lib.nDigits_small q]; omega
    · rw [Lib.nDigits_big q]
      have := nDig_le f (u / 10) (by rw [Nat.pow_succ] at h; exact Nat.div_lt_of_lt_mul (by omega))
      omega
theorem decS_size (n : Int) (h0 : 0 ≤ n) (h1 : n ≤ 1000000) : (decS n).size ≤ 8 := by
  have hs : (decS n).size = (Lib.itoa n).length := by
    show (decS n).data.size = _
    simp [decS]
  rw [hs]
  unfold Lib.itoa
  rw [if_neg (by omega), Lib.decDigits_length]
  have := nDig_le 6 n.toNat (by omega)
  omega
end Go.Proofs.YtphgheojfnlgjaaDoor
