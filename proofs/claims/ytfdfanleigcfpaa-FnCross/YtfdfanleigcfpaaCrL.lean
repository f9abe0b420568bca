/- What is true of crosses put in and dropped: pure. -/
import Derived.Test.YtfdfanleigcfpaaPutP
namespace Go.Proofs.Ytfdfanleigcfpaa
open Go.ChangeShapes Go.WideShapes Go.ChangeAt Go.RowKit
theorem RightC.of_pairs {rs : List Crs} (hl : rs.length ≤ 200) (hn : ∀ c ∈ rs, crsB c = true) (hb : rs.Pairwise fun a b => befB a b = true) (ho : rs.Pairwise fun a b => owK a ≠ owK b) : RightC rs := by
  rw [List.pairwise_iff_getElem] at hb ho
  refine ⟨hl, fun i c hc => ?_⟩
  obtain ⟨hi, e⟩ := List.getElem?_eq_some_iff.1 hc
  refine ⟨hn c (List.mem_of_getElem? hc), fun d h0 hd => ?_, fun j d hj hd => ?_⟩
  · obtain ⟨hi', e'⟩ := List.getElem?_eq_some_iff.1 hd
    have := hb (i - 1) i hi' hi (by omega)
    rwa [e, e'] at this
  · obtain ⟨hj', e'⟩ := List.getElem?_eq_some_iff.1 hd
    have := ho j i hj' hi hj
    rwa [e, e'] at this
theorem RightC.names {rs : List Crs} (h : RightC rs) : ∀ c ∈ rs, crsB c = true := fun c hc => by
  obtain ⟨i, hi⟩ := List.mem_iff_getElem?.1 hc
  exact (h.ok i c hi).names
theorem RightC.sub {rs ts : List Crs} (h : RightC rs) (hs : ts.Sublist rs) : RightC ts := .of_pairs (Nat.le_trans hs.length_le h.len) (fun c hc => h.names c (hs.subset hc)) (h.pair.sublist hs) (h.owPair.sublist hs)
theorem putT_right {rs : List Crs} (h : RightC rs) (c : Crs) : RightC (putT rs c) := by
  have hl := h.len
  unfold putT
  rw [if_neg (by omega)]
  by_cases hp : rightB rs = true ∧ rightB (spP c false rs) = true
  · rw [if_pos hp]
    exact rightB_iff.1 hp.2
  · rw [if_neg hp]
    exact h
theorem RightC.own_back {rs : List Crs} (h : RightC rs) {x : Crs} (hx : x ∈ rs) : ownT rs x.partner x.theirs = x.own := by
  have hz := crsB_sizes (h.names x hx)
  have he : atK thK (x.partner, x.theirs) rs = some x := atK_some h.thPair hx
  unfold ownT
  rw [if_pos ⟨rightB_yes h, by omega, by omega⟩, he]
  rfl
theorem RightC.their_back {rs : List Crs} (h : RightC rs) {x : Crs} (hx : x ∈ rs) : theirT rs x.partner x.own = x.theirs := by
  have hz := crsB_sizes (h.names x hx)
  have he : atK owK (x.partner, x.own) rs = some x := atK_some h.owPair hx
  unfold theirT
  rw [if_pos ⟨rightB_yes h, by omega, by omega⟩, he]
  rfl
theorem gone_own {rs : List Crs} (h : RightC rs) {p t : ByteArray} (hp : p.size ≤ 20000) (ht : t.size ≤ 20000) : ownT (dropT rs p t) p t = t := by
  have hl := h.len
  have e : dropT rs p t = offK (p, t) rs := by
    unfold dropT
    rw [if_neg (by omega), if_pos (rightB_yes h)]
  have hr : RightC (offK (p, t) rs) := h.sub (offK_sub _ _)
  have hn : atK thK (p, t) (offK (p, t) rs) = none := atK_none fun c hc => by
    have := (List.mem_filter.1 hc).2
    simpa using this
  rw [e]
  unfold ownT
  rw [if_pos ⟨rightB_yes hr, hp, ht⟩, hn]
  rfl
end Go.Proofs.Ytfdfanleigcfpaa
