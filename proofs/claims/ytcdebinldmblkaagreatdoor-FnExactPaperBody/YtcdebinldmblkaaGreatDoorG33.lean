/- Texts of ours put together: PartS, PsA. -/
import Derived.Test.YtcdebinldmblkaaGreatDoorG14
import Derived.Test.YtcdebinldmblkaaGreatDoorG04
import Derived.Test.YtcdebinldmblkaaGreatDoorG08
import Derived.Test.YtcdebinldmblkaaGreatDoorG02
namespace Go.Proofs.YtcdebinldmblkaaGreatDoor
open Go.ChangeShapes Go.WideShapes Go.ChangeAt Go.RowKit
/-- The part of that place of the element of that place. -/
def partF (es : List (List ByteArray)) (el part : Int) : ByteArray :=
  if 0 ≤ el ∧ el < es.length then
    if 0 ≤ part ∧ part < (es[el.toNat]?.getD []).length then (es[el.toNat]?.getD [])[part.toNat]?.getD ⟨#[]⟩ else ⟨#[]⟩
  else ⟨#[]⟩
set_option maxHeartbeats 2000000 in
theorem part_spec (tag : ByteArray) (v : Value) (es : List (List ByteArray)) (el part : Int) (w : World) (h : RowE w v es) (hE : BdE 1048576 es) :
    Calls Tryz.prog 53 #[.agg #[.string tag, v], .int .i64 el, .int .i64 part] w fun e w' => e = .returned (.string (partF es el part)) ∧ Below w.heap.size w w' := by
  have hlen := hE.1
  obtain ⟨a, cap, rfl⟩ := h.val
  have H : Hid (RowE w (.slice a es.length cap) es ∧ BdE 1048576 es) := ⟨h, hE⟩
  clear h hE
  unfold partF
  by_cases h1 : 0 ≤ el ∧ el < es.length
  · rw [if_pos h1]
    obtain ⟨h10, h11⟩ := h1
    obtain ⟨k, rfl⟩ := Int.eq_ofNat_of_zero_le h10
    have hk : k < es.length := by omega
    obtain ⟨b, o, c1, s, u, e, hs, hc, hS⟩ := (H.out.1.below ((Below.refl _ _).alloc (Nat.le_refl _) (.cells #[.string tag, .slice a es.length cap] 46))).at hk
    simp only [Value.slice.injEq, true_and] at e
    obtain ⟨rfl, rfl⟩ := e
    have hsl := (H.out.2.2 k s hs).1
    rw [Int.toNat_natCast, hs, Option.getD_some]
    obtain ⟨a2, cap2, rfl⟩ := hS.val
    have HS : Hid (RowS (w.alloc (.cells #[.string tag, .slice (some ⟨b, o, none⟩) es.length cap] 46)) (.slice a2 s.length cap2) s ∧ BdS 1048576 s) := ⟨hS, H.out.2.2 k s hs⟩
    clear hS hs
    have n1 : ¬ (k : Int) < 0 := by omega
    have n1' : decide ((k : Int) < 0) = false := by simp
    have n3 : ¬ (es.length : Int) ≤ (k : Int) := by omega
    have n3' : decide ((es.length : Int) ≤ (k : Int)) = false := by simp; omega
    by_cases h2 : 0 ≤ part ∧ part < (s.length : Int)
    · rw [if_pos h2]
      obtain ⟨h20, h21⟩ := h2
      obtain ⟨p, rfl⟩ := Int.eq_ofNat_of_zero_le h20
      have hp : p < s.length := by omega
      obtain ⟨b2, o2, c2, t, e2, ht, hc2, hsz⟩ := HS.out.1.at hp
      simp only [Value.slice.injEq, true_and] at e2
      obtain ⟨rfl, rfl⟩ := e2
      have htl := HS.out.2.2 p t ht
      rw [Int.toNat_natCast, ht, Option.getD_some]
      clear ht
      have n2 : ¬ (p : Int) < 0 := by omega
      have n2' : decide ((p : Int) < 0) = false := by simp
      have n4 : decide ((s.length : Int) ≤ (p : Int)) = false := by simp; omega
      go_enter Tryz.func53, Tryz.ntmps53
      go_wp2_with fail
      first
        | (go_quiet (fail); go_wp2)
        | go_wp2
      go_ret
      exact ⟨rfl, by first | exact below_drewN ((Below.refl _ _).alloc (Nat.le_refl _) _) _ | exact (Below.refl _ _).alloc (Nat.le_refl _) _⟩
    · rw [if_neg h2]
      by_cases h20 : part < 0
      · have n2 : decide (part < 0) = true := by simpa using h20
        go_enter Tryz.func53, Tryz.ntmps53
        (go_wp2_with fail; first | (go_quiet (fail); go_wp2) | go_wp2)
        go_ret
        exact ⟨rfl, by first | exact below_drewN ((Below.refl _ _).alloc (Nat.le_refl _) _) _ | exact (Below.refl _ _).alloc (Nat.le_refl _) _⟩
      · have h21 : (s.length : Int) ≤ part := by omega
        have n2 : decide (part < 0) = false := by simp; omega
        have n4 : decide ((s.length : Int) ≤ part) = true := by simpa using h21
        go_enter Tryz.func53, Tryz.ntmps53
        (go_wp2_with fail; first | (go_quiet (fail); go_wp2) | go_wp2)
        go_ret
        exact ⟨rfl, by first | exact below_drewN ((Below.refl _ _).alloc (Nat.le_refl _) _) _ | exact (Below.refl _ _).alloc (Nat.le_refl _) _⟩
  · rw [if_neg h1]
    by_cases h20 : el < 0
    · have n2 : decide (el < 0) = true := by simpa using h20
      go_enter Tryz.func53, Tryz.ntmps53
      (go_wp2_with fail; first | (go_quiet (fail); go_wp2) | go_wp2)
      go_ret
      exact ⟨rfl, by first | exact below_drewN ((Below.refl _ _).alloc (Nat.le_refl _) _) _ | exact (Below.refl _ _).alloc (Nat.le_refl _) _⟩
    · have h21 : (es.length : Int) ≤ el := by omega
      have n2 : decide (el < 0) = false := by simp; omega
      have n4 : decide ((es.length : Int) ≤ el) = true := by simpa using h21
      go_enter Tryz.func53, Tryz.ntmps53
      (go_wp2_with fail; first | (go_quiet (fail); go_wp2) | go_wp2)
      go_ret
      exact ⟨rfl, by first | exact below_drewN ((Below.refl _ _).alloc (Nat.le_refl _) _) _ | exact (Below.refl _ _).alloc (Nat.le_refl _) _⟩
end Go.Proofs.YtcdebinldmblkaaGreatDoor
namespace Go.Proofs.YtcdebinldmblkaaGreatDoor
open Go.ChangeShapes Go.WideShapes Go.ChangeAt Go.RowKit
theorem l05Has_any (k : Int) (w : World) : Calls Tryz.prog 34 #[.int .i64 k] w fun e w' => e = .returned (.bool (hasO k)) ∧ w' = w := by
  have hv : hasO k = ((k == 2) || (k == 3) || (k == 4)) := by
    simp [hasO, Bool.or_assoc]
    rfl
  rw [hv]
  go_enter Tryz.func34, Tryz.ntmps34
  cases h1 : (k == 2) <;> cases h2 : (k == 3) <;> cases h3 : (k == 4)
  all_goals
    go_wp2
    go_ret
    exact ⟨rfl, rfl⟩
theorem l05Own_any (k : Int) (w : World) : Calls Tryz.prog 57 #[.int .i64 k] w fun e w' => e = .returned (.bool (oncB k)) ∧ w' = w := by
  have hv : oncB k = ((k == 1) || (k == 5) || (k == 6)) := by
    simp [oncB, Bool.or_assoc]
    rfl
  rw [hv]
  go_enter Tryz.func57, Tryz.ntmps57
  cases h1 : (k == 1) <;> cases h2 : (k == 5) <;> cases h3 : (k == 6)
  all_goals
    go_wp2
    go_ret
    exact ⟨rfl, rfl⟩
theorem l05Numbered_any (k : Int) (w : World) : Calls Tryz.prog 56 #[.int .i64 k] w fun e w' => e = .returned (.bool (risB k)) ∧ w' = w := by
  by_cases h1 : 1 ≤ k
  · by_cases h2 : k ≤ 4
    · have hv : risB k = true := by simp [risB]; omega
      rw [hv]
      go_enter Tryz.func56, Tryz.ntmps56
      go_wp2
      go_ret
      exact ⟨rfl, rfl⟩
    · have hv : risB k = false := by simp [risB]; omega
      rw [hv]
      go_enter Tryz.func56, Tryz.ntmps56
      go_wp2
      go_ret
      exact ⟨rfl, rfl⟩
  · have hv : risB k = false := by simp [risB]; omega
    rw [hv]
    go_enter Tryz.func56, Tryz.ntmps56
    go_wp2
    go_ret
    exact ⟨rfl, rfl⟩
/-- A text that tells a number, or a missing one. -/
def NumM (t : ByteArray) (n : Int) : Prop := (numT t.data.toList = some n) ∨ (t = eT ∧ n = 0)
set_option maxRecDepth 20000 in
set_option maxHeartbeats 16000000 in
theorem l01Num_eT (w : World) : Calls Tryz.prog 72 #[.string eT] w fun e w' => (∃ b, e = .returned (.tuple #[.int .i64 0, .bool b])) ∧ Below w.heap.size w w' := by
  unfold eT
  go_enter Tryz.func72, Tryz.ntmps72
  go_wp2
  go_ret2
  exact ⟨⟨_, rfl⟩, Below.refl _ _⟩
theorem l01Num_of (t : ByteArray) (n : Int) (w : World) (hz : t.size ≤ 281474976710656) (hn : NumM t n) (h0 : -1000000000000 < n) (h1 : n < 1000000000000) : Calls Tryz.prog 72 #[.string t] w fun e w' => (∃ b, e = .returned (.tuple #[.int .i64 n, .bool b])) ∧ Below w.heap.size w w' := by
  rcases hn with h | ⟨rfl, rfl⟩
  · refine (l01Num_any t w hz).mono ?_
    rintro e w' ⟨m, b, rfl, hL, hb⟩
    rcases hL with ⟨_, q⟩ | ⟨_, q⟩
    · rw [h] at q
      cases q
      exact ⟨⟨_, rfl⟩, hb⟩
    · have := q n h
      omega
  · exact l01Num_eT w
def NumE (es : List (List ByteArray)) (i n : Int) : Prop := NumM (partF es i 0) n ∧ -1000000000000 < n ∧ n < 1000000000000
theorem partF_bd {es : List (List ByteArray)} (hE : BdE 1048576 es) (i j : Int) : (partF es i j).size ≤ 1048576 := by
  unfold partF
  split
  · split
    · cases he : es[i.toNat]? with
      | none => exact Nat.zero_le _
      | some e =>
        rw [Option.getD_some]
        cases ht : e[j.toNat]? with
        | none => exact Nat.zero_le _
        | some t => exact (hE.2 _ e he).2 _ t ht
    · exact Nat.zero_le _
  · exact Nat.zero_le _
set_option maxRecDepth 20000 in
set_option maxHeartbeats 16000000 in
theorem l05Num_any (tag : ByteArray) (v : Value) (es : List (List ByteArray)) (i n : Int) (w : World) (h : RowE w v es) (hE : BdE 1048576 es) (hn : NumE es i n) :
    Calls Tryz.prog 54 #[.agg #[.string tag, v], .int .i64 i] w fun e w' => e = .returned (.int .i64 n) ∧ Below w.heap.size w w' := by
  obtain ⟨A, C, rfl⟩ := h.val
  have bA : Below w.heap.size w (w.alloc (.cells #[.string tag, .slice A es.length C] 46)) := (Below.refl _ _).alloc (Nat.le_refl _) _
  have H : Hid (RowE (w.alloc (.cells #[.string tag, .slice A es.length C] 46)) (.slice A es.length C) es ∧ Below w.heap.size w (w.alloc (.cells #[.string tag, .slice A es.length C] 46)) ∧ BdE 1048576 es ∧ NumE es i n) := ⟨h.below bA, bA, hE, hn⟩
  clear h bA hE hn
  go_enter Tryz.func54, Tryz.ntmps54
  go_wp2_with fail
  refine (part_spec tag _ es i 0 _ H.out.1 H.out.2.2.1).mono ?_
  rintro e w1 ⟨rfl, hb1⟩
  have H1 : Hid (Below w.heap.size w w1) := H.out.2.1.trans (hb1.mono (by simp))
  clear hb1
  go_wp2_with fail
  refine (l01Num_of _ n _ (by have := partF_bd H.out.2.2.1 i 0; omega) H.out.2.2.2.1 H.out.2.2.2.2.1 H.out.2.2.2.2.2).mono ?_
  rintro e w2 ⟨⟨b, rfl⟩, hb2⟩
  have H2 : Hid (Below w.heap.size w w2) := H1.out.trans (hb2.mono H1.out.size)
  clear hb2
  go_wp2
  go_ret
  exact ⟨rfl, H2.out⟩
end Go.Proofs.YtcdebinldmblkaaGreatDoor
