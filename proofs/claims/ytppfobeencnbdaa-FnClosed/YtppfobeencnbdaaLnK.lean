/- Contract of the program's copyOfOrderLine. -/
import Derived.Test.YtppfobeencnbdaaLnR
import Derived.Test.YtppfobeencnbdaaShClone
import Derived.Deep.RegionHeld3
namespace Go.Proofs.Ytppfobeencnbdaa
open Go.ChangeShapes Go.WideShapes Go.ChangeAt Go.RowKit
theorem undrewL {a b : World} (h : Below a.drew.heap.size a.drew b) : Below a.heap.size a b := (Below.refl _ _).drew.trans h
theorem same_set {W : World} {b i : Nat} {v : Value} (h : W.cell? ⟨b, i, none⟩ = some v) : W.setCell ⟨b, i, none⟩ v = W := by
  have hw : ∀ (W : World) (g : Array Obj), g = W.heap → ({ W with heap := g } : World) = W := by
    intro W g e
    subst e
    rfl
  unfold World.setCell
  refine hw W _ ?_
  apply Array.ext_getElem?
  intro j
  simp only [Array.getElem?_modify]
  split
  · rename_i e
    subst e
    unfold World.cell? at h
    cases hc : W.heap[b]? with
    | none => rfl
    | some x =>
      rw [hc] at h
      cases x <;> simp_all
      apply Array.ext_getElem?
      intro k
      rw [Array.getElem?_setIfInBounds]
      split
      · rename_i e
        subst e
        split
        · exact h.symm
        · rename_i hlt
          rw [Array.getElem?_eq_none (by omega)] at h
          cases h
      · rfl
  · rfl
set_option maxRecDepth 20000 in
set_option maxHeartbeats 8000000 in
theorem copyOl_any (l : OLn) (w : World) (hz : l.partner.size ≤ 281474976710656 ∧ l.ref.size ≤ 281474976710656 ∧ l.item.size ≤ 281474976710656) :
    Calls Try.prog 25 #[.agg #[.string l.partner, .string l.ref, .int .i64 l.no, .string l.item, .int .i64 l.ordered, .int .i64 l.sent, .int .i64 l.got, .int .i64 l.cut]] w fun e w' => e = .returned (.agg #[.string l.partner, .string l.ref, .int .i64 l.no, .string l.item, .int .i64 l.ordered, .int .i64 l.sent, .int .i64 l.got, .int .i64 l.cut]) ∧ Below w.heap.size w w' := by
  obtain ⟨z0, z1, z2⟩ := hz
  obtain ⟨W1, hW1⟩ : ∃ W1, (w.alloc (.cells #[.string l.partner, .string l.ref, .int .i64 l.no, .string l.item, .int .i64 l.ordered, .int .i64 l.sent, .int .i64 l.got, .int .i64 l.cut] 31)).alloc (.cells #[.string ⟨#[]⟩, .string ⟨#[]⟩, .int .i64 0, .string ⟨#[]⟩, .int .i64 0, .int .i64 0, .int .i64 0, .int .i64 0] 31) = W1 := ⟨_, rfl⟩
  have hb1 : Below w.heap.size w W1 := by rw [← hW1]; exact ((Below.refl _ _).alloc (Nat.le_refl _) _).alloc (by simp) _
  obtain ⟨k0, k1⟩ := fl_two w (.cells #[.string l.partner, .string l.ref, .int .i64 l.no, .string l.item, .int .i64 l.ordered, .int .i64 l.sent, .int .i64 l.got, .int .i64 l.cut] 31) (.cells #[.string ⟨#[]⟩, .string ⟨#[]⟩, .int .i64 0, .string ⟨#[]⟩, .int .i64 0, .int .i64 0, .int .i64 0, .int .i64 0] 31)
  rw [hW1] at k0 k1
  obtain ⟨B, hB⟩ : ∃ B, B = w.heap.size := ⟨_, rfl⟩
  obtain ⟨R, hR⟩ : ∃ R, R = w.heap.size + 1 := ⟨_, rfl⟩
  rw [← hB] at k0
  rw [← hR] at k1
  have HC : Hid (∀ W, Below W1.heap.size W1 W → W.cell? ⟨B, 0, none⟩ = some (.string l.partner) ∧ W.cell? ⟨B, 1, none⟩ = some (.string l.ref) ∧ W.cell? ⟨B, 3, none⟩ = some (.string l.item)) := fun W hW => by
    obtain ⟨a0, a1, _, a3, _⟩ := box8 ((hW.block _ (Array.getElem?_eq_some_iff.1 k0).1).trans k0)
    exact ⟨a0, a1, a3⟩
  have HD : Hid (∀ W, Below W1.heap.size W1 W → W.heap[B]? = some (.cells #[.string l.partner, .string l.ref, .int .i64 l.no, .string l.item, .int .i64 l.ordered, .int .i64 l.sent, .int .i64 l.got, .int .i64 l.cut] 31) ∧ W.heap[R]? = some (.cells #[.string ⟨#[]⟩, .string ⟨#[]⟩, .int .i64 0, .string ⟨#[]⟩, .int .i64 0, .int .i64 0, .int .i64 0, .int .i64 0] 31)) := fun W hW => ⟨(hW.block _ (Array.getElem?_eq_some_iff.1 k0).1).trans k0, (hW.block _ (Array.getElem?_eq_some_iff.1 k1).1).trans k1⟩
  have HB : Hid (Below w.heap.size w W1) := hb1
  obtain ⟨c0, c1, c3⟩ := HC.out W1 (Below.refl _ _)
  go_enter Try.func25, Try.ntmps25
  go_upto_region 1 with fail
  try rw [hW1]
  try rw [← hR]
  try rw [← hB]
  have HR : Hid (B = w.heap.size ∧ R = w.heap.size + 1) := ⟨hB, hR⟩
  clear hW1 hb1 k0 k1 hB hR
  have s0 : ∀ W : World, W.cell? ⟨B, 0, none⟩ = some (.string l.partner) → W.setCell ⟨B, 0, none⟩ (.string l.partner) = W := fun W h => same_set h
  have s1 : ∀ W : World, W.cell? ⟨B, 1, none⟩ = some (.string l.ref) → W.setCell ⟨B, 1, none⟩ (.string l.ref) = W := fun W h => same_set h
  have s3 : ∀ W : World, W.cell? ⟨B, 3, none⟩ = some (.string l.item) → W.setCell ⟨B, 3, none⟩ (.string l.item) = W := fun W h => same_set h
  have hfB : ∀ W : World, Below W1.heap.size W1 W → ∀ o, W.frozen? ⟨B, o, none⟩ = false := fun W hW o => by
    have e := (HD.out W hW).1
    simp [World.frozen?, e]
  have HF : Hid (∀ W : World, Below W1.heap.size W1 W → ∀ o, W.frozen? ⟨B, o, none⟩ = false) := hfB
  clear hfB
  go_region_held3 (fun W => W.cell? ⟨B, 0, none⟩ = some (.string l.partner) ∧ W.cell? ⟨B, 1, none⟩ = some (.string l.ref) ∧ W.cell? ⟨B, 3, none⟩ = some (.string l.item)) (go_keep) (first | (go_at_call_of 37 (Value.string l.partner); refine (clone_any _ _ (by omega)).mono ?_; rintro e wa ⟨rfl, hba⟩; have ba : Below W1.heap.size W1 wa := (by first | exact hba | exact undrewL hba); obtain ⟨ba0, ba1, ba3⟩ := HC.out wa ba; obtain ⟨_, _, _⟩ := HC.out wa.drew ba.drew; clear hba; try dsimp only) | (go_at_call_of 37 (Value.string l.ref); refine (clone_any _ _ (by omega)).mono ?_; rintro e wb ⟨rfl, hbb⟩; have bb : Below W1.heap.size W1 wb := ba.trans ((by first | exact hbb | exact undrewL hbb : Below wa.heap.size wa wb).mono ba.size); obtain ⟨bb0, bb1, bb3⟩ := HC.out wb bb; obtain ⟨_, _, _⟩ := HC.out wb.drew bb.drew; clear hbb; try dsimp only) | (go_at_call_of 37 (Value.string l.item); refine (clone_any _ _ (by omega)).mono ?_; rintro e wc ⟨rfl, hbc⟩; have bc : Below W1.heap.size W1 wc := bb.trans ((by first | exact hbc | exact undrewL hbc : Below wb.heap.size wb wc).mono bb.size); obtain ⟨bc0, bc1, bc3⟩ := HC.out wc bc; obtain ⟨_, _, _⟩ := HC.out wc.drew bc.drew; clear hbc; have hfr := HF.out wc bc; try dsimp only))
  rename_i hHeld
  clear hHeld s0 s1 s3
  obtain ⟨hb, hr⟩ := HD.out wc bc
  obtain ⟨d0, d1, d2, d3, d4, d5, d6, d7⟩ := box8 hb
  obtain ⟨e0, e1, e2, e3, e4, e5, e6, e7⟩ := box8 hr
  have hfR : ∀ o, wc.frozen? ⟨R, o, none⟩ = false := fun o => by simp [World.frozen?, hr]
  have HE : Hid (Below w.heap.size w wc ∧ wc.heap[R]? = some (.cells #[.string ⟨#[]⟩, .string ⟨#[]⟩, .int .i64 0, .string ⟨#[]⟩, .int .i64 0, .int .i64 0, .int .i64 0, .int .i64 0] 31)) := ⟨HB.out.trans (bc.mono HB.out.size), hr⟩
  clear hb hr bc bb ba
  go_wp2
  obtain ⟨f0, f1, f2, f3, f4, f5, f6, f7⟩ := box8 (set8 (y0 := .string l.partner) (y1 := .string l.ref) (y2 := .int .i64 l.no) (y3 := .string l.item) (y4 := .int .i64 l.ordered) (y5 := .int .i64 l.sent) (y6 := .int .i64 l.got) (y7 := .int .i64 l.cut) HE.out.2)
  have hge : w.heap.size ≤ R := by rw [HR.out.2]; omega
  exact bodyPost_ret (v := .agg #[.string l.partner, .string l.ref, .int .i64 l.no, .string l.item, .int .i64 l.ordered, .int .i64 l.sent, .int .i64 l.got, .int .i64 l.cut]) (by simp [results, Try.results25, go_sem, f0, f1, f2, f3, f4, f5, f6, f7]) rfl ⟨rfl, ((((((((HE.out.1.setCell hge _).setCell hge _).setCell hge _).setCell hge _).setCell hge _).setCell hge _).setCell hge _).setCell hge _)⟩
end Go.Proofs.Ytppfobeencnbdaa
