/- Texts of ours put together: EvS. -/
import Derived.Test.YtibjmokhkjklkaaDoorG02
import Derived.Deep.RegionHeld3
namespace Go.Proofs.YtibjmokhkjklkaaDoor
open Go.ChangeShapes Go.WideShapes Go.ChangeAt Go.RowKit
set_option maxHeartbeats 4000000 in
theorem eventRight_spec (e : EvR) (w : World) : Calls Tryd.prog 31 #[.agg #[.int .i64 e.kind, .string e.a, .string e.b, .string e.c]] w fun r w' => r = .returned (.bool (evB e)) ∧ Below w.heap.size w w' := by
  obtain ⟨r, hr⟩ : ∃ r, r = evB e := ⟨_, rfl⟩
  have HR : Hid (r = evB e) := hr
  rw [← hr]
  clear hr
  obtain ⟨kind, a, b, c⟩ := e
  dsimp only
  have HB : Hid (∀ o, Below w.heap.size w (w.alloc o)) := fun o => (Below.refl _ _).alloc (Nat.le_refl _) _
  by_cases h1 : kind = 1
  case pos =>
    subst h1
    have Qa := l01Name_any a
    cases hna : nameB a
    · obtain rfl : r = false := by rw [HR.out]; exact evB_no fun h => by rcases h.ok with h | h | h | h <;> simp_all
      rw [hna] at Qa
      go_enter Tryd.func31, Tryd.ntmps31
      go_wp2_with (first | (go_at_call_of 44 (Value.string a); refine (Qa _).mono ?_; rintro e w' ⟨rfl, rfl⟩))
      go_ret
      exact ⟨rfl, HB.out _⟩
    rw [hna] at Qa
    by_cases heb : b = ⟨#[]⟩
    case neg =>
      obtain rfl : r = false := by rw [HR.out]; exact evB_no fun h => by rcases h.ok with h | h | h | h <;> simp_all
      obtain ⟨zb, yb⟩ := nonE heb
      go_enter Tryd.func31, Tryd.ntmps31
      go_wp2_with (first | (go_at_call_of 44 (Value.string a); refine (Qa _).mono ?_; rintro e w' ⟨rfl, rfl⟩))
      go_ret
      exact ⟨rfl, HB.out _⟩
    subst heb
    by_cases hec : c = ⟨#[]⟩
    case neg =>
      obtain rfl : r = false := by rw [HR.out]; exact evB_no fun h => by rcases h.ok with h | h | h | h <;> simp_all
      obtain ⟨zc, yc⟩ := nonE hec
      go_enter Tryd.func31, Tryd.ntmps31
      go_wp2_with (first | (go_at_call_of 44 (Value.string a); refine (Qa _).mono ?_; rintro e w' ⟨rfl, rfl⟩))
      go_ret
      exact ⟨rfl, HB.out _⟩
    subst hec
    obtain rfl : r = true := by rw [HR.out]; exact evB_yes ⟨.inl ⟨rfl, hna, rfl, rfl⟩⟩
    go_enter Tryd.func31, Tryd.ntmps31
    go_wp2_with (first | (go_at_call_of 44 (Value.string a); refine (Qa _).mono ?_; rintro e w' ⟨rfl, rfl⟩))
    go_ret
    exact ⟨rfl, HB.out _⟩
  by_cases h2 : kind = 2
  case pos =>
    subst h2
    have Qa := l01Name_any a
    cases hna : nameB a
    · obtain rfl : r = false := by rw [HR.out]; exact evB_no fun h => by rcases h.ok with h | h | h | h <;> simp_all
      rw [hna] at Qa
      go_enter Tryd.func31, Tryd.ntmps31
      go_wp2_with (first | (go_at_call_of 44 (Value.string a); refine (Qa _).mono ?_; rintro e w' ⟨rfl, rfl⟩))
      go_ret
      exact ⟨rfl, HB.out _⟩
    rw [hna] at Qa
    have Qb := l01Name_any b
    cases hnb : nameB b
    · obtain rfl : r = false := by rw [HR.out]; exact evB_no fun h => by rcases h.ok with h | h | h | h <;> simp_all
      rw [hnb] at Qb
      go_enter Tryd.func31, Tryd.ntmps31
      go_wp2_with (first | (go_at_call_of 44 (Value.string a); refine (Qa _).mono ?_; rintro e w' ⟨rfl, rfl⟩) | (go_at_call_of 44 (Value.string b); refine (Qb _).mono ?_; rintro e w' ⟨rfl, rfl⟩))
      go_ret
      exact ⟨rfl, HB.out _⟩
    rw [hnb] at Qb
    have Qc := l01Name_any c
    cases hnc : nameB c
    · obtain rfl : r = false := by rw [HR.out]; exact evB_no fun h => by rcases h.ok with h | h | h | h <;> simp_all
      rw [hnc] at Qc
      go_enter Tryd.func31, Tryd.ntmps31
      go_wp2_with (first | (go_at_call_of 44 (Value.string a); refine (Qa _).mono ?_; rintro e w' ⟨rfl, rfl⟩) | (go_at_call_of 44 (Value.string b); refine (Qb _).mono ?_; rintro e w' ⟨rfl, rfl⟩) | (go_at_call_of 44 (Value.string c); refine (Qc _).mono ?_; rintro e w' ⟨rfl, rfl⟩))
      go_ret
      exact ⟨rfl, HB.out _⟩
    rw [hnc] at Qc
    obtain rfl : r = true := by rw [HR.out]; exact evB_yes ⟨.inr (.inl ⟨rfl, hna, hnb, hnc⟩)⟩
    go_enter Tryd.func31, Tryd.ntmps31
    go_wp2_with (first | (go_at_call_of 44 (Value.string a); refine (Qa _).mono ?_; rintro e w' ⟨rfl, rfl⟩) | (go_at_call_of 44 (Value.string b); refine (Qb _).mono ?_; rintro e w' ⟨rfl, rfl⟩) | (go_at_call_of 44 (Value.string c); refine (Qc _).mono ?_; rintro e w' ⟨rfl, rfl⟩))
    go_ret
    exact ⟨rfl, HB.out _⟩
  by_cases h3 : kind = 3
  case pos =>
    subst h3
    by_cases hs : a.size ≤ 4000
    case neg =>
      obtain rfl : r = false := by rw [HR.out]; exact evB_no fun h => by rcases h.ok with h | h | h | h <;> simp_all
      have hs' : ¬ (a.size : Int) ≤ 4000 := by omega
      go_enter Tryd.func31, Tryd.ntmps31
      go_wp2
      go_ret
      exact ⟨rfl, HB.out _⟩
    have hs' : (a.size : Int) ≤ 4000 := by omega
    by_cases heb : b = ⟨#[]⟩
    case neg =>
      obtain rfl : r = false := by rw [HR.out]; exact evB_no fun h => by rcases h.ok with h | h | h | h <;> simp_all
      obtain ⟨zb, yb⟩ := nonE heb
      go_enter Tryd.func31, Tryd.ntmps31
      go_wp2
      go_ret
      exact ⟨rfl, HB.out _⟩
    subst heb
    by_cases hec : c = ⟨#[]⟩
    case neg =>
      obtain rfl : r = false := by rw [HR.out]; exact evB_no fun h => by rcases h.ok with h | h | h | h <;> simp_all
      obtain ⟨zc, yc⟩ := nonE hec
      go_enter Tryd.func31, Tryd.ntmps31
      go_wp2
      go_ret
      exact ⟨rfl, HB.out _⟩
    subst hec
    obtain rfl : r = true := by rw [HR.out]; exact evB_yes ⟨.inr (.inr (.inl ⟨rfl, hs, rfl, rfl⟩))⟩
    go_enter Tryd.func31, Tryd.ntmps31
    go_wp2
    go_ret
    exact ⟨rfl, HB.out _⟩
  by_cases h4 : kind = 4
  case pos =>
    subst h4
    by_cases hea : a = ⟨#[]⟩
    case neg =>
      obtain rfl : r = false := by rw [HR.out]; exact evB_no fun h => by rcases h.ok with h | h | h | h <;> simp_all
      obtain ⟨za, ya⟩ := nonE hea
      go_enter Tryd.func31, Tryd.ntmps31
      go_wp2
      go_ret
      exact ⟨rfl, HB.out _⟩
    subst hea
    by_cases heb : b = ⟨#[]⟩
    case neg =>
      obtain rfl : r = false := by rw [HR.out]; exact evB_no fun h => by rcases h.ok with h | h | h | h <;> simp_all
      obtain ⟨zb, yb⟩ := nonE heb
      go_enter Tryd.func31, Tryd.ntmps31
      go_wp2
      go_ret
      exact ⟨rfl, HB.out _⟩
    subst heb
    by_cases hec : c = ⟨#[]⟩
    case neg =>
      obtain rfl : r = false := by rw [HR.out]; exact evB_no fun h => by rcases h.ok with h | h | h | h <;> simp_all
      obtain ⟨zc, yc⟩ := nonE hec
      go_enter Tryd.func31, Tryd.ntmps31
      go_wp2
      go_ret
      exact ⟨rfl, HB.out _⟩
    subst hec
    obtain rfl : r = true := by rw [HR.out]; exact evB_yes ⟨.inr (.inr (.inr ⟨rfl, rfl, rfl, rfl⟩))⟩
    go_enter Tryd.func31, Tryd.ntmps31
    go_wp2
    go_ret
    exact ⟨rfl, HB.out _⟩
  obtain rfl : r = false := by rw [HR.out]; exact evB_no fun h => by rcases h.ok with h | h | h | h <;> simp_all
  go_enter Tryd.func31, Tryd.ntmps31
  go_wp2
  go_ret
  exact ⟨rfl, HB.out _⟩
end Go.Proofs.YtibjmokhkjklkaaDoor
