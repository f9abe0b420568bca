/- Contract of the model's PartOf: at every segment that reads, and every two numbers, the text that partF tells; nothing that was there is written. -/
import Derived.Test.YthjddnhdfnhalaaDoorShClone
import Derived.Test.YthjddnhdfnhalaaDoorDeepRow
namespace Go.Proofs.YthjddnhdfnhalaaDoor
open Go.ChangeShapes Go.WideShapes Go.ChangeAt Go.RowKit
/-- The part of that place of the element of that place. -/
def partF (es : List (List ByteArray)) (el part : Int) : ByteArray :=
  if 0 ≤ el ∧ el < es.length then
    if 0 ≤ part ∧ part < (es[el.toNat]?.getD []).length then (es[el.toNat]?.getD [])[part.toNat]?.getD ⟨#[]⟩ else ⟨#[]⟩
  else ⟨#[]⟩
set_option maxHeartbeats 2000000 in
theorem part_spec (tag : ByteArray) (v : Value) (es : List (List ByteArray)) (el part : Int) (w : World) (h : RowE w v es) (hE : BdE 1048576 es) :
    Calls Tryd.prog 15 #[.agg #[.string tag, v], .int .i64 el, .int .i64 part] w fun e w' => e = .returned (.string (partF es el part)) ∧ Below w.heap.size w w' := by
  have hlen := hE.1
  obtain ⟨a, cap, rfl⟩ := h.val
  have H : Hid (RowE w (.slice a es.length cap) es ∧ BdE 1048576 es) := ⟨h, hE⟩
  clear h hE
  unfold partF
  by_cases h1 : 0 ≤ el ∧ el < es.length
  · rw [if_pos h1]
    obtain ⟨h10, h11⟩ := h1
    obtain ⟨k, rfl⟩ := Int.eq_ofNat_of_zero_le h10
    have hk : k < es.length := by omega
    obtain ⟨b, o, c1, s, u, e, hs, hc, hS⟩ := (H.out.1.below ((Below.refl _ _).alloc (Nat.le_refl _) (.cells #[.string tag, .slice a es.length cap] 43))).at hk
    simp only [Value.slice.injEq, true_and] at e
    obtain ⟨rfl, rfl⟩ := e
    have hsl := (H.out.2.2 k s hs).1
    rw [Int.toNat_natCast, hs, Option.getD_some]
    obtain ⟨a2, cap2, rfl⟩ := hS.val
    have HS : Hid (RowS (w.alloc (.cells #[.string tag, .slice (some ⟨b, o, none⟩) es.length cap] 43)) (.slice a2 s.length cap2) s ∧ BdS 1048576 s) := ⟨hS, H.out.2.2 k s hs⟩
    clear hS hs
    have n1 : ¬ (k : Int) < 0 := by omega
    have n1' : decide ((k : Int) < 0) = false := by simp
    have n3 : ¬ (es.length : Int) ≤ (k : Int) := by omega
    have n3' : decide ((es.length : Int) ≤ (k : Int)) = false := by simp; omega
    by_cases h2 : 0 ≤ part ∧ part < (s.length : Int)
    · rw [if_pos h2]
      obtain ⟨h20, h21⟩ := h2
      obtain ⟨p, rfl⟩ := Int.eq_ofNat_of_zero_le h20
      have hp : p < s.length := by omega
      obtain ⟨b2, o2, c2, t, e2, ht, hc2, hsz⟩ := HS.out.1.at hp
      simp only [Value.slice.injEq, true_and] at e2
      obtain ⟨rfl, rfl⟩ := e2
      have htl := HS.out.2.2 p t ht
      rw [Int.toNat_natCast, ht, Option.getD_some]
      clear ht
      have n2 : ¬ (p : Int) < 0 := by omega
      have n2' : decide ((p : Int) < 0) = false := by simp
      have n4 : decide ((s.length : Int) ≤ (p : Int)) = false := by simp; omega
      go_enter Tryd.func15, Tryd.ntmps15
      go_wp2_with fail
      first
        | (go_quiet (fail); go_wp2)
        | go_wp2
      go_ret
      exact ⟨rfl, by first | exact below_drewN ((Below.refl _ _).alloc (Nat.le_refl _) _) _ | exact (Below.refl _ _).alloc (Nat.le_refl _) _⟩
    · rw [if_neg h2]
      by_cases h20 : part < 0
      · have n2 : decide (part < 0) = true := by simpa using h20
        go_enter Tryd.func15, Tryd.ntmps15
        (go_wp2_with fail; first | (go_quiet (fail); go_wp2) | go_wp2)
        go_ret
        exact ⟨rfl, by first | exact below_drewN ((Below.refl _ _).alloc (Nat.le_refl _) _) _ | exact (Below.refl _ _).alloc (Nat.le_refl _) _⟩
      · have h21 : (s.length : Int) ≤ part := by omega
        have n2 : decide (part < 0) = false := by simp; omega
        have n4 : decide ((s.length : Int) ≤ part) = true := by simpa using h21
        go_enter Tryd.func15, Tryd.ntmps15
        (go_wp2_with fail; first | (go_quiet (fail); go_wp2) | go_wp2)
        go_ret
        exact ⟨rfl, by first | exact below_drewN ((Below.refl _ _).alloc (Nat.le_refl _) _) _ | exact (Below.refl _ _).alloc (Nat.le_refl _) _⟩
  · rw [if_neg h1]
    by_cases h20 : el < 0
    · have n2 : decide (el < 0) = true := by simpa using h20
      go_enter Tryd.func15, Tryd.ntmps15
      (go_wp2_with fail; first | (go_quiet (fail); go_wp2) | go_wp2)
      go_ret
      exact ⟨rfl, by first | exact below_drewN ((Below.refl _ _).alloc (Nat.le_refl _) _) _ | exact (Below.refl _ _).alloc (Nat.le_refl _) _⟩
    · have h21 : (es.length : Int) ≤ el := by omega
      have n2 : decide (el < 0) = false := by simp; omega
      have n4 : decide ((es.length : Int) ≤ el) = true := by simpa using h21
      go_enter Tryd.func15, Tryd.ntmps15
      (go_wp2_with fail; first | (go_quiet (fail); go_wp2) | go_wp2)
      go_ret
      exact ⟨rfl, by first | exact below_drewN ((Below.refl _ _).alloc (Nat.le_refl _) _) _ | exact (Below.refl _ _).alloc (Nat.le_refl _) _⟩
end Go.Proofs.YthjddnhdfnhalaaDoor
