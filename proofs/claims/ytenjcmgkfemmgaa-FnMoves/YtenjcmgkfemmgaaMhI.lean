/- Contract of the program's moveHand: the hand of a name is moved in the map, or nothing is. -/
import Derived.Test.YtenjcmgkfemmgaaCpB
import Derived.Test.YtenjcmgkfemmgaaBhH
import Derived.Test.YtenjcmgkfemmgaaMvP
import Derived.Maps.OwnSet
namespace Go.Proofs.Ytenjcmgkfemmgaa
open Go.ChangeShapes Go.WideShapes Go.ChangeAt Go.RowKit
theorem lookS2 {w : World} {b n : Nat} {l : List Stk} {t : ByteArray} (h : w.ownsMap Try.prog 9 rdZ b n (mapS l)) (ht : t.size ≤ maxLen) :
    (Instr.lookup 47 (.map (some b)) (.string t) true).run Try.prog w = .ok (.tuple #[.int .i64 (((findS t l).map Stk.hand).getD 0), .bool (findS t l).isSome]) w := by
  obtain ⟨es, clock, hb, F, _, hD⟩ := h
  rcases Maps.fit_look true str_keyed Try.underlying47 (zeroI64 w) hb F (str_key ht) with ⟨hrun, _, hat⟩ | ⟨e0, y, _, _, hrun, hR, hat, _⟩
  · have := hat .nil
    rw [← hD, at_mapS] at this
    cases hf : findS t l with
    | none => rw [hrun]; rfl
    | some s => rw [hf] at this; cases this
  · obtain ⟨z, hv, rfl⟩ := rdZ_inv hR
    have := hat .nil
    rw [← hD, at_mapS] at this
    cases hf : findS t l with
    | none => rw [hf] at this; cases this
    | some s =>
      rw [hf] at this
      cases this
      rw [hrun, hv]
      rfl
/-- What is to hand of a name. -/
def hndL (l : List Stk) (t : ByteArray) : Int := ((findS t l).map Stk.hand).getD 0
/-- The hands behind a move. -/
def mvS (l : List Stk) (t : ByteArray) (z : Int) : List Stk := insS ⟨t, hndL l t + z⟩ (l.filter fun x => !nmS t x)
/-- May it be moved? -/
def mhB (l : List Stk) (t : ByteArray) (z : Int) : Bool := decide (-hndL l t ≤ z) && (decide (z ≤ 1000000000 - hndL l t) && ((findS t l).isSome || decide (l.length < 100)))
/-- What a move leaves. -/
def MhOut (M n : Nat) (l : List Stk) (t : ByteArray) (z : Int) (w : World) (e : Ending) (w' : World) : Prop :=
  e = .returned (.bool (mhB l t z)) ∧ ((mhB l t z = false ∧ w' = w) ∨ (mhB l t z = true ∧ w.grownBy w' (some M) ∧ w'.ownsMap Try.prog 9 rdZ M (n + 1) (mapS (mvS l t z))))
set_option maxRecDepth 100000 in
set_option maxHeartbeats 4000000 in
theorem moveHand_any (M n : Nat) (l : List Stk) (t : ByteArray) (z : Int) (w : World) (ho : w.ownsMap Try.prog 9 rdZ M n (mapS l)) (hn : l.length ≤ n ∧ n ≤ 1000000) (hl : l.length ≤ 100) (ht : t.size ≤ 1048576) (hh : 0 ≤ hndL l t ∧ hndL l t ≤ 1000000000) :
    Calls Try.prog 22 #[.map (some M), .string t, .int .i64 z] w fun e w' => MhOut M n l t z w e w' := by
  have hL := lookS2 ho (t := t) (by unfold maxLen; omega)
  have hLen := fun ty => ho.len Try.underlying47 ty
  have hMs : Maps.size (mapS l) = l.length := by simp [Maps.size, mapS]
  rw [hMs] at hLen
  have e1 : (((findS t l).map Stk.hand).getD 0) = hndL l t := rfl
  rw [e1] at hL
  obtain ⟨hd, hhd⟩ : ∃ hd, hd = hndL l t := ⟨_, rfl⟩
  obtain ⟨th, hth⟩ : ∃ th, th = (findS t l).isSome := ⟨_, rfl⟩
  rw [← hhd, ← hth] at hL
  rw [← hhd] at hh
  have HD : Hid (hd = hndL l t ∧ th = (findS t l).isSome) := ⟨hhd, hth⟩
  obtain ⟨h0, h1⟩ := hh
  clear hMs e1 hhd hth
  have HN : Hid (∀ z', (¬ -hd ≤ z ∨ ¬ z ≤ 1000000000 - hd ∨ (th = false ∧ ¬ l.length < 100)) → z' = false → MhOut M n l t z w (.returned (.bool z')) w) := fun z' hc hz' => by
    have hB : mhB l t z = false := by
      unfold mhB
      rw [← HD.out.1, ← HD.out.2]
      rcases hc with q | q | ⟨q1, q2⟩
      · simp [q]
      · simp [q]
      · simp [q1, q2]
    exact ⟨by rw [hB, hz'], .inl ⟨hB, rfl⟩⟩
  go_enter Try.func22, Try.ntmps22
  by_cases hz1 : z < -hd
  · go_wp2
    go_ret
    exact HN.out _ (.inl (by omega)) rfl
  by_cases hz2 : 1000000000 - hd < z
  · go_wp2
    go_ret
    exact HN.out _ (.inr (.inl (by omega))) rfl
  have HW : Hid (∀ w', w.grownBy w' (some M) → w'.ownsMap Try.prog 9 rdZ M (n + 1) (mapS (mvS l t z)) → (th = true ∨ l.length < 100) → MhOut M n l t z w (.returned (.bool true)) w') := fun w' hg hw hc => by
    have hB : mhB l t z = true := by
      unfold mhB
      rw [← HD.out.1, ← HD.out.2]
      rcases hc with q | q
      · simp [q]; omega
      · simp [q]; omega
    exact ⟨by rw [hB], .inr ⟨hB, hg, hw⟩⟩
  cases th with
  | true =>
    go_wp2_with (first | (at_mapUpdate; refine wpList_mapUpdate_own _ rfl _ _ _ 47 rfl 9 2 str_keyed Try.underlying47 rdZ M n _ rfl ho (by unfold maxLen; omega) _ _ _ rfl rfl (str_key (by unfold maxLen; omega)) _ [] (rdZ_mk (hd + z)) ?_; intro w5 hown5 hgrow5; rw [put_mapS, HD.out.1] at hown5))
    have H5 : Hid (w5.ownsMap Try.prog 9 rdZ M (n + 1) (mapS (mvS l t z)) ∧ w.grownBy w5 (some M)) := ⟨hown5, hgrow5⟩
    clear hown5 hgrow5
    go_wp2
    go_ret
    exact HW.out _ H5.out.2 H5.out.1 (.inl (by trivial))
  | false =>
    by_cases hl1 : 100 ≤ l.length
    · have hl1' : (100 : Int) ≤ (l.length : Int) := by omega
      go_wp2
      go_ret
      exact HN.out _ (.inr (.inr ⟨by trivial, by omega⟩)) rfl
    · have hl1' : ¬ (100 : Int) ≤ (l.length : Int) := by omega
      go_wp2_with (first | (at_mapUpdate; refine wpList_mapUpdate_own _ rfl _ _ _ 47 rfl 9 2 str_keyed Try.underlying47 rdZ M n _ rfl ho (by unfold maxLen; omega) _ _ _ rfl rfl (str_key (by unfold maxLen; omega)) _ [] (rdZ_mk (hd + z)) ?_; intro w5 hown5 hgrow5; rw [put_mapS, HD.out.1] at hown5))
      have H5 : Hid (w5.ownsMap Try.prog 9 rdZ M (n + 1) (mapS (mvS l t z)) ∧ w.grownBy w5 (some M)) := ⟨hown5, hgrow5⟩
      clear hown5 hgrow5
      go_wp2
      go_ret
      exact HW.out _ H5.out.2 H5.out.1 (.inr (by omega))
end Go.Proofs.Ytenjcmgkfemmgaa
