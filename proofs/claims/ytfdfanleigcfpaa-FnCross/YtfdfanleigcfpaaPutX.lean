/- Contracts of CrossPut and CrossDrop. -/
import Derived.Test.YtfdfanleigcfpaaDelM
import Derived.Test.YtfdfanleigcfpaaItD
import Derived.Test.YtfdfanleigcfpaaItQ
import Derived.Test.YtfdfanleigcfpaaCpI
namespace Go.Proofs.Ytfdfanleigcfpaa
open Go.ChangeShapes Go.WideShapes Go.ChangeAt Go.RowKit
/-- A cross of bounded texts. -/
def BdC (c : Crs) : Prop := c.partner.size ≤ 1048576 ∧ c.theirs.size ≤ 1048576 ∧ c.own.size ≤ 1048576
set_option maxHeartbeats 8000000 in
theorem crossPut_impl (v : Value) (rs : List Crs) (c : Crs) (w : World) (h : RowCs w v rs) (hz : ∀ d ∈ rs, BdC d) (hc : BdC c) :
    Calls Try.prog 6 #[v, .agg #[.string c.partner, .string c.theirs, .string c.own]] w fun e w' => ∃ u b, e = .returned u ∧ w.heap.size ≤ b ∧ LCs b w' u (putT rs c) ∧ Below w.heap.size w w' := by
  have hlen := h.len
  obtain ⟨A, Cp, rfl⟩ := h.val
  have b0 : Below w.heap.size w (w.alloc (.cells #[.string c.partner, .string c.theirs, .string c.own] 25)) := (Below.refl _ _).alloc (Nat.le_refl _) _
  have H0 : Hid (RowCs w (.slice A rs.length Cp) rs ∧ (∀ d ∈ rs, BdC d) ∧ BdC c) := ⟨h, hz, hc⟩
  have HB : Hid (Below w.heap.size w (w.alloc (.cells #[.string c.partner, .string c.theirs, .string c.own] 25))) := b0
  clear h hz hc b0
  go_enter Try.func6, Try.ntmps6
  by_cases h1 : 400 < rs.length
  · have h1' : (400 : Int) < (rs.length : Int) := by omega
    have HT : Hid (putT rs c = []) := if_pos h1
    go_wp2
    go_ret
    exact ⟨_, w.heap.size, rfl, Nat.le_refl _, by rw [HT.out]; exact LCs.nil _ _, HB.out⟩
  have h1' : ¬ (400 : Int) < (rs.length : Int) := by omega
  go_wp2_with fail
  refine (ways_any _ rs _ (H0.out.1.below HB.out)).mono ?_
  rintro e w1 ⟨b1, b2, rfl, l1, l2, hne, hb1, hm⟩
  simp only [World.size_alloc] at l1 l2 hb1
  have hcb1 : w1.heap[w.heap.size]? = some (.cells #[.string c.partner, .string c.theirs, .string c.own] 25) := (hb1.block _ (by omega)).trans (World.alloc_heap_new _ _)
  have hbw1 : Below w.heap.size w w1 := HB.out.trans (hb1.mono (by omega))
  obtain ⟨W1, hW1⟩ : ∃ W1, w1.alloc (.cells #[.map (some b1), .map (some b2)] 45) = W1 := ⟨_, rfl⟩
  have ha : Below w1.heap.size w1 W1 := by rw [← hW1]; exact (Below.refl _ _).alloc (Nat.le_refl _) _
  have hwb : W1.heap[w1.heap.size]? = some (.cells #[.map (some b1), .map (some b2)] 45) := by rw [← hW1]; exact World.alloc_heap_new _ _
  have hcb : W1.heap[w.heap.size]? = some (.cells #[.string c.partner, .string c.theirs, .string c.own] 25) := (ha.block _ (Array.getElem?_eq_some_iff.1 hcb1).1).trans hcb1
  have hsz1 := hbw1.size
  have HM : Hid (Below w.heap.size w W1 ∧ (rightB rs = true → MC W1 b1 thK rs ∧ MC W1 b2 owK rs) ∧ W1.heap[w1.heap.size]? = some (.cells #[.map (some b1), .map (some b2)] 45) ∧ w.heap.size ≤ b1 ∧ w.heap.size ≤ b2 ∧ b1 ≠ b2) := ⟨hbw1.trans (ha.mono hsz1), fun e => ⟨(hm e).1.below ha, (hm e).2.below ha⟩, hwb, by omega, by omega, hne⟩
  have c0 : W1.cell? ⟨w.heap.size, 0, none⟩ = some (.string c.partner) := cell_blk hcb rfl
  have c1 : W1.cell? ⟨w.heap.size, 1, none⟩ = some (.string c.theirs) := cell_blk hcb rfl
  have c2 : W1.cell? ⟨w.heap.size, 2, none⟩ = some (.string c.own) := cell_blk hcb rfl
  have x0 : W1.cell? ⟨w1.heap.size, 0, none⟩ = some (.map (some b1)) := cell_blk hwb rfl
  have x1 : W1.cell? ⟨w1.heap.size, 1, none⟩ = some (.map (some b2)) := cell_blk hwb rfl
  clear l1 l2 hne hb1 hm hcb1 hbw1 ha hwb hcb
  cases hr : rightB rs
  · have HT : Hid (putT rs c = rs) := by
      show putT rs c = rs
      unfold putT
      rw [if_neg h1, if_neg (fun e => by rw [hr] at e; cases e.1)]
    go_wp2_with fail
    refine (copyCs_any _ rs _ (H0.out.1.below HM.out.1) (by omega) H0.out.2.1).mono ?_
    rintro e w2 ⟨u, b, rfl, hb, hL, hb2⟩
    have HF : Hid (w.heap.size ≤ b ∧ LCs b w2 u rs ∧ Below w.heap.size w w2) := ⟨by have := HM.out.1.size; omega, hL, HM.out.1.trans (hb2.mono HM.out.1.size)⟩
    clear hb hL hb2
    go_wp2
    go_ret
    exact ⟨u, b, rfl, HF.out.1, by rw [HT.out]; exact HF.out.2.1, HF.out.2.2⟩
  have HR : Hid (RightC rs) := rightB_iff.1 hr
  have hks : KS (thK c) ∧ KS (owK c) := by
    have := H0.out.2.2
    unfold BdC at this
    refine ⟨⟨?_, ?_⟩, ?_, ?_⟩ <;> simp only [thK, owK, maxLen] <;> omega
  go_wp2_with fail
  refine (put_any b1 b2 c rs rs _ (HM.out.2.1 hr).1 (HM.out.2.1 hr).2 HM.out.2.2.2.2.2 hks.1 hks.2).mono ?_
  rintro e w2 ⟨rfl, m1, _, hk2⟩
  have hbw2 : Below w.heap.size w w2 := HM.out.1.trans (hk2.below HM.out.2.2.2.1 HM.out.2.2.2.2.1 HM.out.1.size)
  have hwb2 : w2.heap[w1.heap.size]? = some (.cells #[.map (some b1), .map (some b2)] 45) := by
    obtain ⟨q1, q2⟩ := HM.out.2.1 hr
    have e1 : w1.heap.size ≠ b1 := fun e => by
      obtain ⟨es, cl, he, _⟩ := q1.ex
      rw [← e, HM.out.2.2.1] at he
      cases he
    have e2 : w1.heap.size ≠ b2 := fun e => by
      obtain ⟨es, cl, he, _⟩ := q2.ex
      rw [← e, HM.out.2.2.1] at he
      cases he
    exact (hk2.block _ (Array.getElem?_eq_some_iff.1 HM.out.2.2.1).1 e1 e2).trans HM.out.2.2.1
  have y0 : w2.cell? ⟨w1.heap.size, 0, none⟩ = some (.map (some b1)) := cell_blk hwb2 rfl
  have y1 : w2.cell? ⟨w1.heap.size, 1, none⟩ = some (.map (some b2)) := cell_blk hwb2 rfl
  have H2 : Hid (Below w.heap.size w w2 ∧ MC w2 b1 thK (putC thK c rs)) := ⟨hbw2, m1⟩
  have hpl : (putC thK c rs).length ≤ 1000 := by
    have e1 := (putC_perm c HR.out.thPair).length_eq
    have e2 := (offK_sub (thK c) rs).length_le
    simp at e1
    omega
  clear m1 hk2 hbw2 hwb2 x0 x1 c0 c1 c2
  go_wp2_with fail
  refine (sorted_any b1 b2 _ _ H2.out.2 hpl (fun d hd => by
    rcases putC_mem d hd with rfl | g
    · have := H0.out.2.2
      unfold BdC at this
      omega
    · have := H0.out.2.1 d g
      unfold BdC at this
      omega)).mono ?_
  rintro e w3 ⟨u3, out, rfl, hp3, hs3, hr3, hb3⟩
  have eo := spP_of_put HR.out hp3 hs3
  subst eo
  have H3 : Hid (Below w.heap.size w w3 ∧ RowCs w3 u3 (spP c false rs)) := ⟨H2.out.1.trans (hb3.mono H2.out.1.size), hr3⟩
  clear hp3 hs3 hr3 hb3 y0 y1
  go_wp2_with fail
  refine (crossRight_impl _ _ _ H3.out.2).mono ?_
  rintro e w4 ⟨rfl, hb4⟩
  have H4 : Hid (Below w.heap.size w w4 ∧ RowCs w4 u3 (spP c false rs)) := ⟨H3.out.1.trans (hb4.mono H3.out.1.size), H3.out.2.below hb4⟩
  clear hb4
  cases hr2 : rightB (spP c false rs)
  · have HT : Hid (putT rs c = rs) := by
      show putT rs c = rs
      unfold putT
      rw [if_neg h1, if_neg (fun e => by rw [hr2] at e; cases e.2)]
    go_wp2_with fail
    refine (copyCs_any _ rs _ (H0.out.1.below H4.out.1) (by omega) H0.out.2.1).mono ?_
    rintro e w5 ⟨u, b, rfl, hb, hL, hb5⟩
    have HF : Hid (w.heap.size ≤ b ∧ LCs b w5 u rs ∧ Below w.heap.size w w5) := ⟨by have := H4.out.1.size; omega, hL, H4.out.1.trans (hb5.mono H4.out.1.size)⟩
    clear hb hL hb5
    go_wp2
    go_ret
    exact ⟨u, b, rfl, HF.out.1, by rw [HT.out]; exact HF.out.2.1, HF.out.2.2⟩
  · have HT : Hid (putT rs c = spP c false rs) := by
      show putT rs c = spP c false rs
      unfold putT
      rw [if_neg h1, if_pos ⟨hr, hr2⟩]
    go_wp2_with fail
    refine (copyCs_any _ _ _ H4.out.2 (by have := spP_len c rs; omega) (fun d hd => by
      rcases spP_mem d hd with rfl | g
      · exact H0.out.2.2
      · exact H0.out.2.1 d g)).mono ?_
    rintro e w5 ⟨u, b, rfl, hb, hL, hb5⟩
    have HF : Hid (w.heap.size ≤ b ∧ LCs b w5 u (spP c false rs) ∧ Below w.heap.size w w5) := ⟨by have := H4.out.1.size; omega, hL, H4.out.1.trans (hb5.mono H4.out.1.size)⟩
    clear hb hL hb5
    go_wp2
    go_ret
    exact ⟨u, b, rfl, HF.out.1, by rw [HT.out]; exact HF.out.2.1, HF.out.2.2⟩
set_option maxHeartbeats 8000000 in
theorem crossDrop_impl (v : Value) (rs : List Crs) (p t : ByteArray) (w : World) (h : RowCs w v rs) (hz : ∀ d ∈ rs, BdC d) (hp : p.size ≤ 9223372036854775807) (ht : t.size ≤ 9223372036854775807) :
    Calls Try.prog 12 #[v, .string p, .string t] w fun e w' => ∃ u b, e = .returned u ∧ w.heap.size ≤ b ∧ LCs b w' u (dropT rs p t) ∧ Below w.heap.size w w' := by
  have hlen := h.len
  obtain ⟨A, Cp, rfl⟩ := h.val
  have H0 : Hid (RowCs w (.slice A rs.length Cp) rs ∧ (∀ d ∈ rs, BdC d)) := ⟨h, hz⟩
  clear h hz
  go_enter Try.func12, Try.ntmps12
  by_cases h0 : 400 < rs.length
  · have h0' : (400 : Int) < (rs.length : Int) := by omega
    have HT : Hid (dropT rs p t = []) := if_pos (.inl h0)
    go_wp2
    go_ret
    first | exact ⟨_, w.heap.size, rfl, Nat.le_refl _, by rw [HT.out]; exact LCs.nil _ _, Below.refl _ _⟩ | exact ⟨_, rfl, w.heap.size, Nat.le_refl _, by rw [HT.out]; exact LCs.nil _ _, Below.refl _ _⟩
  have h0' : ¬ (400 : Int) < (rs.length : Int) := by omega
  by_cases h1 : 20000 < p.size
  · have h1' : (20000 : Int) < (p.size : Int) := by omega
    have HT : Hid (dropT rs p t = []) := if_pos (.inr (.inl h1))
    go_wp2
    go_ret
    first | exact ⟨_, w.heap.size, rfl, Nat.le_refl _, by rw [HT.out]; exact LCs.nil _ _, Below.refl _ _⟩ | exact ⟨_, rfl, w.heap.size, Nat.le_refl _, by rw [HT.out]; exact LCs.nil _ _, Below.refl _ _⟩
  have h1' : ¬ (20000 : Int) < (p.size : Int) := by omega
  by_cases h2 : 20000 < t.size
  · have h2' : (20000 : Int) < (t.size : Int) := by omega
    have HT : Hid (dropT rs p t = []) := if_pos (.inr (.inr h2))
    go_wp2
    go_ret
    first | exact ⟨_, w.heap.size, rfl, Nat.le_refl _, by rw [HT.out]; exact LCs.nil _ _, Below.refl _ _⟩ | exact ⟨_, rfl, w.heap.size, Nat.le_refl _, by rw [HT.out]; exact LCs.nil _ _, Below.refl _ _⟩
  have h2' : ¬ (20000 : Int) < (t.size : Int) := by omega
  have hno : ¬ (400 < rs.length ∨ 20000 < p.size ∨ 20000 < t.size) := by omega
  go_wp2_with fail
  refine (ways_any _ rs _ H0.out.1).mono ?_
  rintro e w1 ⟨b1, b2, rfl, l1, l2, hne, hb1, hm⟩
  obtain ⟨W1, hW1⟩ : ∃ W1, w1.alloc (.cells #[.map (some b1), .map (some b2)] 45) = W1 := ⟨_, rfl⟩
  have ha : Below w1.heap.size w1 W1 := by rw [← hW1]; exact (Below.refl _ _).alloc (Nat.le_refl _) _
  have hwb : W1.heap[w1.heap.size]? = some (.cells #[.map (some b1), .map (some b2)] 45) := by rw [← hW1]; exact World.alloc_heap_new _ _
  have HM : Hid (Below w.heap.size w W1 ∧ (rightB rs = true → MC W1 b1 thK rs) ∧ W1.heap[w1.heap.size]? = some (.cells #[.map (some b1), .map (some b2)] 45) ∧ w.heap.size ≤ b1) := ⟨hb1.trans (ha.mono hb1.size), fun e => (hm e).1.below ha, hwb, l1⟩
  have x0 : W1.cell? ⟨w1.heap.size, 0, none⟩ = some (.map (some b1)) := cell_blk hwb rfl
  clear l1 l2 hne hb1 hm ha hwb
  cases hr : rightB rs
  · have HT : Hid (dropT rs p t = rs) := by
      show dropT rs p t = rs
      unfold dropT
      rw [if_neg hno, if_neg (fun e => by rw [hr] at e; cases e)]
    go_wp2_with fail
    refine (copyCs_any _ rs _ (H0.out.1.below HM.out.1) (by omega) H0.out.2).mono ?_
    rintro e w2 ⟨u, b, rfl, hb, hL, hb2⟩
    have HF : Hid (w.heap.size ≤ b ∧ LCs b w2 u rs ∧ Below w.heap.size w w2) := ⟨by have := HM.out.1.size; omega, hL, HM.out.1.trans (hb2.mono HM.out.1.size)⟩
    clear hb hL hb2
    go_wp2
    go_ret
    exact ⟨u, b, rfl, HF.out.1, by rw [HT.out]; exact HF.out.2.1, HF.out.2.2⟩
  have HR : Hid (RightC rs) := rightB_iff.1 hr
  have HT : Hid (dropT rs p t = offK (p, t) rs) := by
    show dropT rs p t = offK (p, t) rs
    unfold dropT
    rw [if_neg hno, if_pos hr]
  have hks : KS (p, t) := ⟨by unfold maxLen; exact hp, by unfold maxLen; exact ht⟩
  obtain ⟨w2, hrun, m2, hg2⟩ := (HM.out.2.1 hr).del hks 0
  have hbw2 : Below w.heap.size w w2 := HM.out.1.trans ⟨hg2.os, hg2.tape, hg2.output, hg2.size, fun j hj => hg2.block j (by have := HM.out.1.size; omega) (by simp only [ne_eq, Option.some.injEq]; have := HM.out.2.2.2; omega)⟩
  have hwb2 : w2.heap[w1.heap.size]? = some (.cells #[.map (some b1), .map (some b2)] 45) := by
    have q1 := HM.out.2.1 hr
    refine (hg2.block _ (Array.getElem?_eq_some_iff.1 HM.out.2.2.1).1 ?_).trans HM.out.2.2.1
    simp only [ne_eq, Option.some.injEq]
    intro e
    obtain ⟨es, cl, he, _⟩ := q1.ex
    rw [← e, HM.out.2.2.1] at he
    cases he
  have y0 : w2.cell? ⟨w1.heap.size, 0, none⟩ = some (.map (some b1)) := cell_blk hwb2 rfl
  have y1 : w2.cell? ⟨w1.heap.size, 1, none⟩ = some (.map (some b2)) := cell_blk hwb2 rfl
  have H2 : Hid (Below w.heap.size w w2 ∧ MC w2 b1 thK (offK (p, t) rs)) := ⟨hbw2, m2⟩
  have hpl : (offK (p, t) rs).length ≤ 1000 := by
    have e2 := (offK_sub (p, t) rs).length_le
    omega
  unfold kv at hrun
  dsimp only at hrun
  clear m2 hg2 hbw2 hwb2
  go_wp2_with (first | (at_builtin; refine wpList_del rfl _ _ _ _ rfl rfl rfl hrun ?_))
  clear hrun x0
  refine (sorted_any b1 b2 _ _ H2.out.2 hpl (fun d hd => by
    have := H0.out.2 d ((offK_sub _ _).subset hd)
    unfold BdC at this
    omega)).mono ?_
  rintro e w3 ⟨u3, out, rfl, hp3, hs3, hr3, hb3⟩
  have eo : out = offK (p, t) rs := rise_eq hp3 hs3 (offK_rise HR.out)
  subst eo
  have H3 : Hid (Below w.heap.size w w3 ∧ RowCs w3 u3 (offK (p, t) rs)) := ⟨H2.out.1.trans (hb3.mono H2.out.1.size), hr3⟩
  clear hp3 hs3 hr3 hb3 y0 y1
  go_wp2_with fail
  refine (copyCs_any _ _ _ H3.out.2 (by omega) (fun d hd => H0.out.2 d ((offK_sub _ _).subset hd))).mono ?_
  rintro e w5 ⟨u, b, rfl, hb, hL, hb5⟩
  have HF : Hid (w.heap.size ≤ b ∧ LCs b w5 u (offK (p, t) rs) ∧ Below w.heap.size w w5) := ⟨by have := H3.out.1.size; omega, hL, H3.out.1.trans (hb5.mono H3.out.1.size)⟩
  clear hb hL hb5
  go_wp2
  go_ret
  exact ⟨u, b, rfl, HF.out.1, by rw [HT.out]; exact HF.out.2.1, HF.out.2.2⟩
end Go.Proofs.Ytfdfanleigcfpaa
