/- Contract of CrossTheirs. -/
import Derived.Test.YtfdfanleigcfpaaItV
import Derived.Test.YtfdfanleigcfpaaShClone
namespace Go.Proofs.Ytfdfanleigcfpaa
open Go.ChangeShapes Go.WideShapes Go.ChangeAt Go.RowKit
set_option maxRecDepth 100000 in
set_option maxHeartbeats 4000000 in
theorem wayTheirs_any (b1 b2 : Nat) (rs : List Crs) (p t : ByteArray) (w : World) (h : MC w b2 owK rs) (hP : rs.Pairwise fun a b => owK a ≠ owK b) (hp : p.size ≤ 9223372036854775807) (ht : t.size ≤ 9223372036854775807) :
    Calls Try.prog 26 #[.agg #[.map (some b1), .map (some b2)], .string p, .string t] w fun e w' => e = .returned (.string (((atK owK (p, t) rs).map (·.theirs)).getD t)) ∧ Below w.heap.size w w' := by
  obtain ⟨W1, hW1⟩ : ∃ W1, w.alloc (.cells #[.map (some b1), .map (some b2)] 45) = W1 := ⟨_, rfl⟩
  have ha : Below w.heap.size w W1 := by rw [← hW1]; exact (Below.refl _ _).alloc (Nat.le_refl _) _
  have hbx : W1.heap[w.heap.size]? = some (.cells #[.map (some b1), .map (some b2)] 45) := by rw [← hW1]; exact World.alloc_heap_new _ _
  have hL := (h.below ha).look_at hP (k := (p, t)) ⟨hp, ht⟩
  have z0 : W1.cell? ⟨w.heap.size, 1, none⟩ = some (.map (some b2)) := by simp [World.cell?, hbx]
  have HM : Hid (Below w.heap.size w W1) := ha
  clear hbx ha h
  obtain ⟨o, ho⟩ : ∃ o, o = ((atK owK (p, t) rs).map (·.theirs)).getD t := ⟨_, rfl⟩
  rw [← ho]
  go_enter Try.func26, Try.ntmps26
  go_upto_region 1 with fail
  try rw [hW1]
  clear hW1
  cases ha : atK owK (p, t) rs with
  | some c =>
    rw [ha] at hL
    obtain ⟨cp, ct, co⟩ := c
    simp only [Option.getD_some, Option.isSome_some, cv, kv] at hL
    have HO : Hid (o = ct) := by rw [ho, ha]; exact rfl
    clear ha ho
    have HB : Hid (∀ o, Below w.heap.size w (W1.alloc o)) := fun o => HM.out.alloc HM.out.size o
    go_wp2
    go_ret
    exact ⟨by rw [HO.out]; rfl, HB.out _⟩
  | none =>
    rw [ha] at hL
    simp only [Option.getD_none, Option.isSome_none, cv, kv] at hL
    have HO : Hid (o = t) := by rw [ho, ha]; exact rfl
    clear ha ho
    have HB : Hid (∀ o, Below w.heap.size w (W1.alloc o)) := fun o => HM.out.alloc HM.out.size o
    go_wp2
    go_ret
    exact ⟨by rw [HO.out]; rfl, HB.out _⟩
set_option maxRecDepth 100000 in
set_option maxHeartbeats 4000000 in
theorem crossTheirs_impl (v : Value) (rs : List Crs) (p t : ByteArray) (w : World) (h : RowCs w v rs) (hp : p.size ≤ 9223372036854775807) (ht : t.size ≤ 9223372036854775807) : Calls Try.prog 11 #[v, .string p, .string t] w fun e w' => e = .returned (.string (theirT rs p t)) ∧ Below w.heap.size w w' := by
  obtain ⟨A, Cp, rfl⟩ := h.val
  have H0 : Hid (RowCs w (.slice A rs.length Cp) rs) := h
  clear h
  go_enter Try.func11, Try.ntmps11
  go_wp2_with fail
  refine (ways_any _ rs _ H0.out).mono ?_
  rintro e w1 ⟨b1, b2, rfl, _, _, _, hb, hm⟩
  obtain ⟨W1, hW1⟩ : ∃ W1, w1.alloc (.cells #[.map (some b1), .map (some b2)] 45) = W1 := ⟨_, rfl⟩
  have ha : Below w1.heap.size w1 W1 := by rw [← hW1]; exact (Below.refl _ _).alloc (Nat.le_refl _) _
  have hbx : W1.heap[w1.heap.size]? = some (.cells #[.map (some b1), .map (some b2)] 45) := by rw [← hW1]; exact World.alloc_heap_new _ _
  have HM : Hid (Below w.heap.size w W1 ∧ (rightB rs = true → MC W1 b1 thK rs ∧ MC W1 b2 owK rs)) := ⟨hb.trans (ha.mono hb.size), fun e => ⟨(hm e).1.below ha, (hm e).2.below ha⟩⟩
  clear hb hm
  cases hr : rightB rs
  · have HE : Hid (theirT rs p t = ⟨#[]⟩) := by simp [Hid, theirT, hr]
    go_wp2
    go_ret
    exact ⟨by rw [HE.out]; rfl, HM.out.1⟩
  by_cases h1 : 20000 < p.size
  · have h1' : (20000 : Int) < (p.size : Int) := by omega
    have HE : Hid (theirT rs p t = ⟨#[]⟩) := if_neg fun e => by omega
    go_wp2
    go_ret
    exact ⟨by rw [HE.out]; rfl, HM.out.1⟩
  have h1' : ¬ (20000 : Int) < (p.size : Int) := by omega
  by_cases h2 : 20000 < t.size
  · have h2' : (20000 : Int) < (t.size : Int) := by omega
    have HE : Hid (theirT rs p t = ⟨#[]⟩) := if_neg fun e => by omega
    go_wp2
    go_ret
    exact ⟨by rw [HE.out]; rfl, HM.out.1⟩
  have h2' : ¬ (20000 : Int) < (t.size : Int) := by omega
  have HE : Hid (theirT rs p t = ((atK owK (p, t) rs).map (·.theirs)).getD t) := if_pos ⟨hr, by omega, by omega⟩
  have Q1 := wayTheirs_any b1 b2 rs p t
  obtain ⟨o, ho⟩ : ∃ o, o = ((atK owK (p, t) rs).map (·.theirs)).getD t := ⟨_, rfl⟩
  rw [← ho] at Q1
  have HO : Hid (theirT rs p t = o ∧ o.size ≤ 281474976710656) := by
    refine ⟨by rw [HE.out, ho], ?_⟩
    cases ha : atK owK (p, t) rs with
    | some c =>
      rw [ha] at ho
      have hm := List.mem_of_find?_eq_some ha
      obtain ⟨i, hi⟩ := List.getElem?_of_mem hm
      have := crsB_sizes ((rightB_iff.1 hr).ok i _ hi).names
      subst ho
      try simp only [Option.map_some, Option.getD_some]
      omega
    | none =>
      rw [ha] at ho
      subst ho
      try simp only [Option.map_none, Option.getD_none]
      omega
  have z0 : W1.cell? ⟨w1.heap.size, 0, none⟩ = some (.map (some b1)) := by simp [World.cell?, hbx]
  have z1 : W1.cell? ⟨w1.heap.size, 0 + 1, none⟩ = some (.map (some b2)) := by simp [World.cell?, hbx]
  have z2 : W1.cell? ⟨w1.heap.size, 1, none⟩ = some (.map (some b2)) := z1
  have HQ : Hid (∀ W, MC W b2 owK rs → Calls Try.prog 26 #[.agg #[.map (some b1), .map (some b2)], .string p, .string t] W fun e w' => e = .returned (.string o) ∧ Below W.heap.size W w') := fun W hM => Q1 W hM (rightB_iff.1 hr).owPair hp ht
  clear hbx ha ho Q1 HE
  go_wp2_with fail
  refine (HQ.out _ (HM.out.2 hr).2).mono ?_
  rintro e w2 ⟨rfl, hb2⟩
  have H2 : Hid (Below w.heap.size w w2) := HM.out.1.trans (hb2.mono HM.out.1.size)
  clear hb2
  go_wp2_with fail
  refine (clone_any _ _ HO.out.2).mono ?_
  rintro e w3 ⟨rfl, hb3⟩
  have HB : Hid (Below w.heap.size w w3) := H2.out.trans (hb3.mono H2.out.size)
  clear hb3
  go_wp2
  go_ret
  exact ⟨by rw [HO.out.1]; rfl, HB.out⟩
end Go.Proofs.Ytfdfanleigcfpaa
