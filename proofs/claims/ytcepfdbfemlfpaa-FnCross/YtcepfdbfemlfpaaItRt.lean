/- Contracts of CrossOwn and CrossTheirs. -/
import Derived.Test.YtcepfdbfemlfpaaItQ
import Derived.Test.YtcepfdbfemlfpaaShClone
namespace Go.Proofs.Ytcepfdbfemlfpaa
open Go.ChangeShapes Go.WideShapes Go.ChangeAt Go.RowKit
set_option maxRecDepth 100000 in
set_option maxHeartbeats 4000000 in
theorem crossTheirs_impl (v : Value) (rs : List Crs) (p t : ByteArray) (w : World) (h : RowCs w v rs) (hp : p.size ≤ 9223372036854775807) (ht : t.size ≤ 9223372036854775807) : Calls Try.prog 11 #[v, .string p, .string t] w fun e w' => e = .returned (.string (theirT rs p t)) ∧ Below w.heap.size w w' := by
  obtain ⟨A, Cp, rfl⟩ := h.val
  have H0 : Hid (RowCs w (.slice A rs.length Cp) rs) := h
  clear h
  go_enter Try.func11, Try.ntmps11
  go_wp2_with fail
  refine (ways_any _ rs _ H0.out).mono ?_
  rintro e w1 ⟨b1, b2, rfl, _, _, _, hb, hm⟩
  obtain ⟨W1, hW1⟩ : ∃ W1, w1.alloc (.cells #[.map (some b1), .map (some b2)] 45) = W1 := ⟨_, rfl⟩
  have ha : Below w1.heap.size w1 W1 := by rw [← hW1]; exact (Below.refl _ _).alloc (Nat.le_refl _) _
  have hbx : W1.heap[w1.heap.size]? = some (.cells #[.map (some b1), .map (some b2)] 45) := by rw [← hW1]; exact World.alloc_heap_new _ _
  have HM : Hid (Below w.heap.size w W1 ∧ (rightB rs = true → MC W1 b1 thK rs ∧ MC W1 b2 owK rs)) := ⟨hb.trans (ha.mono hb.size), fun e => ⟨(hm e).1.below ha, (hm e).2.below ha⟩⟩
  clear hb hm
  cases hr : rightB rs
  · have HE : Hid (theirT rs p t = ⟨#[]⟩) := by simp [Hid, theirT, hr]
    go_wp2
    go_ret
    exact ⟨by rw [HE.out]; rfl, HM.out.1⟩
  by_cases h1 : 20000 < p.size
  · have h1' : (20000 : Int) < (p.size : Int) := by omega
    have HE : Hid (theirT rs p t = ⟨#[]⟩) := if_neg fun e => by omega
    go_wp2
    go_ret
    exact ⟨by rw [HE.out]; rfl, HM.out.1⟩
  have h1' : ¬ (20000 : Int) < (p.size : Int) := by omega
  by_cases h2 : 20000 < t.size
  · have h2' : (20000 : Int) < (t.size : Int) := by omega
    have HE : Hid (theirT rs p t = ⟨#[]⟩) := if_neg fun e => by omega
    go_wp2
    go_ret
    exact ⟨by rw [HE.out]; rfl, HM.out.1⟩
  have h2' : ¬ (20000 : Int) < (t.size : Int) := by omega
  have HE : Hid (theirT rs p t = ((atK owK (p, t) rs).map (·.theirs)).getD t) := if_pos ⟨hr, by omega, by omega⟩
  have hL := ((HM.out.2 hr).2).look_at (rightB_iff.1 hr).owPair (k := (p, t)) ⟨hp, ht⟩
  have z0 : W1.cell? ⟨w1.heap.size, 1, none⟩ = some (.map (some b2)) := by simp [World.cell?, hbx]
  clear hbx ha
  cases ha : atK owK (p, t) rs with
  | some c =>
    rw [ha] at hL
    obtain ⟨cp, ct, co⟩ := c
    simp only [Option.getD_some, Option.isSome_some, cv, kv] at hL
    have HC : Hid (theirT rs p t = ct ∧ ct.size ≤ 281474976710656) := by
      refine ⟨by rw [HE.out, ha]; rfl, ?_⟩
      have hm := List.mem_of_find?_eq_some ha
      obtain ⟨i, hi⟩ := List.getElem?_of_mem hm
      have := crsB_sizes ((rightB_iff.1 hr).ok i _ hi).names
      dsimp only at this
      omega
    clear HE ha
    go_wp2_with fail
    refine (clone_any _ _ HC.out.2).mono ?_
    rintro e w2 ⟨rfl, hb2⟩
    have HB : Hid (Below w.heap.size w w2) := ((HM.out.1.alloc HM.out.1.size _)).trans (hb2.mono (by have := HM.out.1.size; simp; omega))
    clear hb2
    go_wp2
    go_ret
    exact ⟨by rw [HC.out.1]; rfl, HB.out⟩
  | none =>
    rw [ha] at hL
    simp only [Option.getD_none, Option.isSome_none, cv, kv] at hL
    have HC : Hid (theirT rs p t = t) := by show theirT rs p t = t; rw [HE.out, ha]; rfl
    clear HE ha
    go_wp2_with fail
    refine (clone_any _ _ (by omega)).mono ?_
    rintro e w2 ⟨rfl, hb2⟩
    have HB : Hid (Below w.heap.size w w2) := ((HM.out.1.alloc HM.out.1.size _)).trans (hb2.mono (by have := HM.out.1.size; simp; omega))
    clear hb2
    go_wp2
    go_ret
    exact ⟨by rw [HC.out]; rfl, HB.out⟩
end Go.Proofs.Ytcepfdbfemlfpaa
