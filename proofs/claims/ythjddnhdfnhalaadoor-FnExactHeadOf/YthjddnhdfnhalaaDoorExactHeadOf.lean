/- HeadOf answers at every list of segments as the model does, writes into no argument, keeps nothing of one, and its answer owns its memory. Conditions: none but what the card ties. -/
import Derived.Test.YthjddnhdfnhalaaDoorMarkWg
import Derived.Test.YthjddnhdfnhalaaDoorEqGs
import Derived.Test.YthjddnhdfnhalaaDoorHdM
import Derived.Test.YthjddnhdfnhalaaDoorHdJ
import Derived.Test.YthjddnhdfnhalaaDoorHdS
import Derived.Test.YthjddnhdfnhalaaDoorLaidErrs
import Derived.Test.YthjddnhdfnhalaaDoorOpenSegs
import Derived.Test.YthjddnhdfnhalaaDoorCards
import Derived.Test.YthjddnhdfnhalaaDoorTie
import Derived.Lib.SmallJoins
import Derived.OpenVars
import Derived.Stop.Joined
import Derived.LaidMore
import Derived.SevenTiedAt
import Derived.Lay
import Derived.MakeChecks
namespace Go.Proofs.YthjddnhdfnhalaaDoor
open Go.ChangeShapes Go.WideShapes Go.ChangeAt Go.RowKit Go.Joins
open Go.ChangeMaps (open_string shut_string)
set_option linter.unusedVariables false
namespace fnExactHeadOf
theorem box7H {W : World} {b t : Nat} {x0 x1 x2 x3 x4 x5 x6 : Value} (h : W.heap[b]? = some (.cells #[x0, x1, x2, x3, x4, x5, x6] t)) : W.cell? ⟨b, 0, none⟩ = some x0 ∧ W.cell? ⟨b, 1, none⟩ = some x1 ∧ W.cell? ⟨b, 2, none⟩ = some x2 ∧ W.cell? ⟨b, 3, none⟩ = some x3 ∧ W.cell? ⟨b, 4, none⟩ = some x4 ∧ W.cell? ⟨b, 5, none⟩ = some x5 ∧ W.cell? ⟨b, 6, none⟩ = some x6 := by
  refine ⟨?_, ?_, ?_, ?_, ?_, ?_, ?_⟩ <;> simp [World.cell?, h]
theorem errs {W : World} (hL : laidMetH Tryd.prog Rows.fnExactHeadOfRow.laid W) : ErrsAt W := by
  rw [MakeChecks.laidMetH_plain _ _ _ (by kernel_rfl)] at hL
  have h3 := laidMet.tail (laidMet.tail (laidMet.tail hL))
  exact ⟨err_at (laidMet.tail h3) gSyn tSyn, err_at h3 gRng tRng⟩
theorem bdG_seg {gs : List Seg} (h : BdG 1048576 gs) : ∀ g ∈ gs, BdE 1048576 g.2 := fun g hg => by
  obtain ⟨i, hi⟩ := List.mem_iff_getElem?.1 hg
  exact (h.2 i g hi).2
theorem bdE_txt {es : List (List ByteArray)} (h : BdE 1048576 es) : ∀ e ∈ es, ∀ t ∈ e, t.size ≤ 1048576 := fun e he t ht => by
  obtain ⟨i, hi⟩ := List.mem_iff_getElem?.1 he
  obtain ⟨j, hj⟩ := List.mem_iff_getElem?.1 ht
  exact (h.2 i e hi).2 j t hj
theorem hdO_sizes {gs : List Seg} : (hdO gs).1.size ≤ 9223372036854775807 ∧ (hdO gs).2.1.size ≤ 9223372036854775807 := by
  cases gs with
  | nil => exact ⟨Nat.zero_le _, Nat.zero_le _⟩
  | cons g r =>
    obtain ⟨tag, es⟩ := g
    by_cases h4 : 400 < r.length + 1
    · have e : hdO ((tag, es) :: r) = (⟨#[]⟩, ⟨#[]⟩, 0, false, 2) := if_pos h4
      rw [e]
      exact ⟨Nat.zero_le _, Nat.zero_le _⟩
    · have e : hdO ((tag, es) :: r) = match hdT tag es with
          | some (a, b, n) => (a, b, n, true, 0)
          | none => (⟨#[]⟩, ⟨#[]⟩, 0, false, 3) := if_neg h4
      cases hh : hdT tag es with
      | none =>
        rw [e, hh]
        exact ⟨Nat.zero_le _, Nat.zero_le _⟩
      | some x =>
        obtain ⟨a, b, n⟩ := x
        obtain ⟨_, _, _, _, ha, hb, _⟩ := hdT_some hh
        have f : ∀ {t : ByteArray}, nameB t = true → t.size ≤ 12 := fun {t} h => by
          by_cases hz : 1 ≤ t.size ∧ t.size ≤ 12
          · exact hz.2
          · rw [nameB_size hz] at h; cases h
        have h1 := f ha
        have h2 := f hb
        rw [e, hh]
        exact ⟨by show a.size ≤ _; omega, by show b.size ≤ _; omega⟩
set_option maxHeartbeats 16000000 in
theorem walk (u : Value) (gs : List Seg) (w : World) (h : RowG w u gs) (hL : laidMetH Tryd.prog Rows.fnExactHeadOfRow.laid w) :
    Calls Tryd.prog 3 #[u] w fun e w' => e = .returned (.bool true) ∧ Below w.heap.size w w' := by
  have HEr : Hid (ErrsAt w) := errs hL
  clear hL
  obtain ⟨A, cap, rfl⟩ := h.val
  have hlen := h.len
  have H0 : Hid (RowG w (.slice A gs.length cap) gs) := h
  clear h
  obtain ⟨t, ht⟩ : ∃ t, t = hdO gs := ⟨_, rfl⟩
  have HZ : Hid (t.1.size ≤ 9223372036854775807 ∧ t.2.1.size ≤ 9223372036854775807) := by rw [ht]; exact hdO_sizes
  have QS0 := fun v W (h1 : RowG W v gs) (h2 : BdG 1048576 gs) => headOf_spec v gs W h1 (bdG_seg h2)
  have QI0 := fun v W (h1 : RowG W v gs) (h2 : BdG 1048576 gs) (h3 : ErrsAt W) => headOf_impl v gs W h1 (fun g hg => bdE_txt (bdG_seg h2 g hg)) h3
  rw [← ht] at QS0 QI0
  have QS : Hid (∀ v W, RowG W v gs → BdG 1048576 gs → Calls Tryd.prog 5 #[v] W fun e w' => e = .returned (hdV t) ∧ Below W.heap.size W w') := QS0
  have QI : Hid (∀ v W, RowG W v gs → BdG 1048576 gs → ErrsAt W → Calls Tryd.prog 7 #[v] W fun e w' => e = .returned (hdV t) ∧ Below W.heap.size W w') := QI0
  clear QS0 QI0 ht
  go_enter Tryd.func3, Tryd.ntmps3
  go_wp2_with fail
  refine (szGs_c _ gs 1048576 _ H0.out (by omega)).mono ?_
  rintro e w1 ⟨r, rfl, hr, hb1⟩
  have H1 : Hid (Below w.heap.size w w1) := hb1
  clear hb1
  rcases hr with rfl | ⟨g0, g1, hG⟩
  · go_wp2
    go_ret
    exact ⟨rfl, H1.out⟩
  have g0' : ¬ r < 0 := by omega
  have HG : Hid (BdG 1048576 gs) := hG
  have hcg : cG gs ≤ 1048576 := by omega
  clear hG g1
  go_wp2_with fail
  refine (toGs_any _ gs _ (H0.out.below H1.out) HG.out).mono ?_
  rintro e w2 ⟨v2, rfl, r2, hb2⟩
  have H2 : Hid (Below w.heap.size w w2 ∧ RowG w2 v2 gs) := ⟨H1.out.trans (hb2.mono H1.out.size), r2.row HG.out⟩
  clear hb2 r2 H1
  go_wp2_with fail
  refine (QS.out _ _ H2.out.2 HG.out).mono ?_
  rintro e w3 ⟨rfl, hb3⟩
  have H3 : Hid (Below w.heap.size w w3) := H2.out.1.trans (hb3.mono H2.out.1.size)
  clear hb3 H2
  unfold hdV
  go_upto_region 6 with fail
  obtain ⟨W4, hW4⟩ : ∃ W4, w3.alloc (.cells #[.string t.1, .string t.2.1, .int .i64 t.2.2.1, .slice none 0 0, .bool t.2.2.2.1, .int .i64 0, .int .i64 t.2.2.2.2] 28) = W4 := ⟨_, rfl⟩
  have hb4 : Below w3.heap.size w3 W4 := by rw [← hW4]; exact (Below.refl _ _).alloc (Nat.le_refl _) _
  have i4 : W4.heap[w3.heap.size]? = some (.cells #[.string t.1, .string t.2.1, .int .i64 t.2.2.1, .slice none 0 0, .bool t.2.2.2.1, .int .i64 0, .int .i64 t.2.2.2.2] 28) := by rw [← hW4]; exact World.alloc_heap_new _ _
  obtain ⟨B4, hB4⟩ : ∃ B4, B4 = w3.heap.size := ⟨_, rfl⟩
  rw [← hB4] at i4
  have H4 : Hid (Below w.heap.size w W4 ∧ W4.heap[B4]? = some (.cells #[.string t.1, .string t.2.1, .int .i64 t.2.2.1, .slice none 0 0, .bool t.2.2.2.1, .int .i64 0, .int .i64 t.2.2.2.2] 28) ∧ w.heap.size ≤ B4) := ⟨H3.out.trans (hb4.mono H3.out.size), i4, by rw [hB4]; exact H3.out.size⟩
  have lB4 : B4 < W4.heap.size := (Array.getElem?_eq_some_iff.1 i4).1
  try rw [hW4]
  try rw [← hB4]
  clear hW4 hB4 hb4 i4 H3
  go_wp2_with fail
  refine (toGs_any _ gs _ (H0.out.below H4.out.1) HG.out).mono ?_
  rintro e w5 ⟨v5, rfl, r5, hb5⟩
  have H5 : Hid (Below w.heap.size w w5 ∧ w5.heap[B4]? = some (.cells #[.string t.1, .string t.2.1, .int .i64 t.2.2.1, .slice none 0 0, .bool t.2.2.2.1, .int .i64 0, .int .i64 t.2.2.2.2] 28) ∧ RowG w5 v5 gs ∧ ShG W4.heap.size w5.heap.size w5 v5 gs) := ⟨H4.out.1.trans (hb5.mono H4.out.1.size), (hb5.block B4 lB4).trans H4.out.2.1, r5.row HG.out, r5.sh (Nat.le_refl _) (Nat.le_refl _)⟩
  have s45 := hb5.size
  clear hb5 r5
  go_wp2_with fail
  refine (QI.out _ _ H5.out.2.2.1 HG.out (HEr.out.below H5.out.1)).mono ?_
  rintro e w6 ⟨rfl, hb6⟩
  have H6 : Hid (Below w.heap.size w w6 ∧ w6.heap[B4]? = some (.cells #[.string t.1, .string t.2.1, .int .i64 t.2.2.1, .slice none 0 0, .bool t.2.2.2.1, .int .i64 0, .int .i64 t.2.2.2.2] 28) ∧ RowG w6 v5 gs ∧ ShG W4.heap.size w5.heap.size w6 v5 gs) := ⟨H5.out.1.trans (hb6.mono H5.out.1.size), (hb6.block B4 (by omega)).trans H5.out.2.1, H5.out.2.2.1.below hb6, H5.out.2.2.2.tame (Tame.of_below hb6)⟩
  have s56 := hb6.size
  clear hb6 H5
  unfold hdV
  go_upto_region 8 with fail
  obtain ⟨W7, hW7⟩ : ∃ W7, w6.alloc (.cells #[.string t.1, .string t.2.1, .int .i64 t.2.2.1, .slice none 0 0, .bool t.2.2.2.1, .int .i64 0, .int .i64 t.2.2.2.2] 28) = W7 := ⟨_, rfl⟩
  have hb7 : Below w6.heap.size w6 W7 := by rw [← hW7]; exact (Below.refl _ _).alloc (Nat.le_refl _) _
  have i7 : W7.heap[w6.heap.size]? = some (.cells #[.string t.1, .string t.2.1, .int .i64 t.2.2.1, .slice none 0 0, .bool t.2.2.2.1, .int .i64 0, .int .i64 t.2.2.2.2] 28) := by rw [← hW7]; exact World.alloc_heap_new _ _
  obtain ⟨B7, hB7⟩ : ∃ B7, B7 = w6.heap.size := ⟨_, rfl⟩
  rw [← hB7] at i7
  have H7 : Hid (Below w.heap.size w W7 ∧ W7.heap[B4]? = some (.cells #[.string t.1, .string t.2.1, .int .i64 t.2.2.1, .slice none 0 0, .bool t.2.2.2.1, .int .i64 0, .int .i64 t.2.2.2.2] 28) ∧ W7.heap[B7]? = some (.cells #[.string t.1, .string t.2.1, .int .i64 t.2.2.1, .slice none 0 0, .bool t.2.2.2.1, .int .i64 0, .int .i64 t.2.2.2.2] 28) ∧ RowG W7 v5 gs ∧ ShG W4.heap.size w5.heap.size W7 v5 gs) := ⟨H6.out.1.trans (hb7.mono H6.out.1.size), (hb7.block B4 (by omega)).trans H6.out.2.1, i7, H6.out.2.2.1.below hb7, H6.out.2.2.2.tame (Tame.of_below hb7)⟩
  have s67 := hb7.size
  have lB7 : B7 < W7.heap.size := (Array.getElem?_eq_some_iff.1 i7).1
  have gB7 : w5.heap.size ≤ B7 := by omega
  try rw [hW7]
  try rw [← hB7]
  clear hW7 hB7 hb7 i7 H6
  obtain ⟨c0, c1, c2, c3, c4, c5, c6⟩ := box7H H7.out.2.1
  obtain ⟨d0, d1, d2, d3, d4, d5, d6⟩ := box7H H7.out.2.2.1
  go_wp2_with fail
  refine (eqIO_any t _ HZ.out.1 HZ.out.2).mono ?_
  rintro e w8 ⟨rfl, hb8⟩
  have H8 : Hid (Below w.heap.size w w8 ∧ w8.heap[B4]? = some (.cells #[.string t.1, .string t.2.1, .int .i64 t.2.2.1, .slice none 0 0, .bool t.2.2.2.1, .int .i64 0, .int .i64 t.2.2.2.2] 28) ∧ w8.heap[B7]? = some (.cells #[.string t.1, .string t.2.1, .int .i64 t.2.2.1, .slice none 0 0, .bool t.2.2.2.1, .int .i64 0, .int .i64 t.2.2.2.2] 28) ∧ RowG w8 v5 gs ∧ ShG W4.heap.size w5.heap.size w8 v5 gs) := ⟨H7.out.1.trans (hb8.mono H7.out.1.size), (hb8.block B4 (by omega)).trans H7.out.2.1, (hb8.block B7 lB7).trans H7.out.2.2.1, H7.out.2.2.2.1.below hb8, H7.out.2.2.2.2.tame (Tame.of_below hb8)⟩
  have s78 := hb8.size
  clear hb8 H7 c0 c1 c2 c3 c4 c5 c6 d0 d1 d2 d3 d4 d5 d6
  go_wp2_with fail
  refine (toGs_any _ gs _ (H0.out.below H8.out.1) HG.out).mono ?_
  rintro e w9 ⟨v9, rfl, r9, hb9⟩
  have H9 : Hid (Below w.heap.size w w9 ∧ w9.heap[B4]? = some (.cells #[.string t.1, .string t.2.1, .int .i64 t.2.2.1, .slice none 0 0, .bool t.2.2.2.1, .int .i64 0, .int .i64 t.2.2.2.2] 28) ∧ w9.heap[B7]? = some (.cells #[.string t.1, .string t.2.1, .int .i64 t.2.2.1, .slice none 0 0, .bool t.2.2.2.1, .int .i64 0, .int .i64 t.2.2.2.2] 28) ∧ RowG w9 v5 gs ∧ ShG W4.heap.size w5.heap.size w9 v5 gs ∧ RowG w9 v9 gs) := ⟨H8.out.1.trans (hb9.mono H8.out.1.size), (hb9.block B4 (by omega)).trans H8.out.2.1, (hb9.block B7 (by omega)).trans H8.out.2.2.1, H8.out.2.2.2.1.below hb9, H8.out.2.2.2.2.tame (Tame.of_below hb9), r9.row HG.out⟩
  have s89 := hb9.size
  clear hb9 r9 H8
  go_wp2_with fail
  refine (eqGs_any _ _ gs _ H9.out.2.2.2.1 H9.out.2.2.2.2.2).mono ?_
  rintro e w10 ⟨rfl, hb10⟩
  have H10 : Hid (Below w.heap.size w w10 ∧ w10.heap[B4]? = some (.cells #[.string t.1, .string t.2.1, .int .i64 t.2.2.1, .slice none 0 0, .bool t.2.2.2.1, .int .i64 0, .int .i64 t.2.2.2.2] 28) ∧ w10.heap[B7]? = some (.cells #[.string t.1, .string t.2.1, .int .i64 t.2.2.1, .slice none 0 0, .bool t.2.2.2.1, .int .i64 0, .int .i64 t.2.2.2.2] 28) ∧ ShG W4.heap.size w5.heap.size w10 v5 gs) := ⟨H9.out.1.trans (hb10.mono H9.out.1.size), (hb10.block B4 (by omega)).trans H9.out.2.1, (hb10.block B7 (by omega)).trans H9.out.2.2.1, H9.out.2.2.2.2.1.tame (Tame.of_below hb10)⟩
  have s90 := hb10.size
  clear hb10 H9
  go_wp2_with fail
  refine (markG_w _ gs W4.heap.size w5.heap.size 1 _ H10.out.2.2.2 HG.out (by omega) (by omega)).mono ?_
  rintro e w11 ⟨rfl, hT⟩
  have hk : ¬ (((1 + cG gs : Nat) : Int) < 0) := by omega
  have s11 := hT.size
  have hw4 : w.heap.size ≤ W4.heap.size := H4.out.1.size
  have H11 : Hid (Below w.heap.size w w11 ∧ w11.heap[B4]? = some (.cells #[.string t.1, .string t.2.1, .int .i64 t.2.2.1, .slice none 0 0, .bool t.2.2.2.1, .int .i64 0, .int .i64 t.2.2.2.2] 28) ∧ w11.heap[B7]? = some (.cells #[.string t.1, .string t.2.1, .int .i64 t.2.2.1, .slice none 0 0, .bool t.2.2.2.1, .int .i64 0, .int .i64 t.2.2.2.2] 28)) := ⟨H10.out.1.trans ⟨hT.os, hT.tape, hT.output, hT.size, fun k hk => hT.block k (by have := H10.out.1.size; omega) (.inl (by omega))⟩, (hT.block B4 (by omega) (.inl lB4)).trans H10.out.2.1, (hT.block B7 (by omega) (.inr gB7)).trans H10.out.2.2.1⟩
  clear hT H10
  obtain ⟨c0, c1, c2, c3, c4, c5, c6⟩ := box7H H11.out.2.1
  obtain ⟨d0, d1, d2, d3, d4, d5, d6⟩ := box7H H11.out.2.2
  go_wp2_with fail
  refine (eqIO_any t _ HZ.out.1 HZ.out.2).mono ?_
  rintro e w12 ⟨rfl, hb12⟩
  have s12 := hb12.size
  have H12 : Hid (Below w.heap.size w w12 ∧ w12.heap[B4]? = some (.cells #[.string t.1, .string t.2.1, .int .i64 t.2.2.1, .slice none 0 0, .bool t.2.2.2.1, .int .i64 0, .int .i64 t.2.2.2.2] 28) ∧ w12.heap[B7]? = some (.cells #[.string t.1, .string t.2.1, .int .i64 t.2.2.1, .slice none 0 0, .bool t.2.2.2.1, .int .i64 0, .int .i64 t.2.2.2.2] 28)) := ⟨H11.out.1.trans (hb12.mono H11.out.1.size), (hb12.block B4 (by omega)).trans H11.out.2.1, (hb12.block B7 (by omega)).trans H11.out.2.2⟩
  clear hb12 H11 c0 c1 c2 c3 c4 c5 c6 d0 d1 d2 d3 d4 d5 d6
  obtain ⟨d0, d1, d2, d3, d4, d5, d6⟩ := box7H H12.out.2.2
  go_wp2_with fail
  refine (markIO_any t 1 _).mono ?_
  rintro e w13 ⟨rfl, hb13⟩
  have s13 := hb13.size
  have H13 : Hid (Below w.heap.size w w13 ∧ w13.heap[B4]? = some (.cells #[.string t.1, .string t.2.1, .int .i64 t.2.2.1, .slice none 0 0, .bool t.2.2.2.1, .int .i64 0, .int .i64 t.2.2.2.2] 28) ∧ w13.heap[B7]? = some (.cells #[.string t.1, .string t.2.1, .int .i64 t.2.2.1, .slice none 0 0, .bool t.2.2.2.1, .int .i64 0, .int .i64 t.2.2.2.2] 28)) := ⟨H12.out.1.trans (hb13.mono H12.out.1.size), (hb13.block B4 (by omega)).trans H12.out.2.1, (hb13.block B7 (by omega)).trans H12.out.2.2⟩
  clear hb13 H12 d0 d1 d2 d3 d4 d5 d6
  obtain ⟨d0, d1, d2, d3, d4, d5, d6⟩ := box7H H13.out.2.2
  go_wp2_with fail
  refine (heldIO_any t 1 _ (by omega)).mono ?_
  rintro e w14 ⟨rfl, hb14⟩
  have s14 := hb14.size
  have H14 : Hid (Below w.heap.size w w14 ∧ w14.heap[B4]? = some (.cells #[.string t.1, .string t.2.1, .int .i64 t.2.2.1, .slice none 0 0, .bool t.2.2.2.1, .int .i64 0, .int .i64 t.2.2.2.2] 28) ∧ w14.heap[B7]? = some (.cells #[.string t.1, .string t.2.1, .int .i64 t.2.2.1, .slice none 0 0, .bool t.2.2.2.1, .int .i64 0, .int .i64 t.2.2.2.2] 28)) := ⟨H13.out.1.trans (hb14.mono H13.out.1.size), (hb14.block B4 (by omega)).trans H13.out.2.1, (hb14.block B7 (by omega)).trans H13.out.2.2⟩
  clear hb14 H13 d0 d1 d2 d3 d4 d5 d6
  go_wp2_with fail
  refine (toGs_any _ gs _ (H0.out.below H14.out.1) HG.out).mono ?_
  rintro e w15 ⟨v15, rfl, r15, hb15⟩
  have s15 := hb15.size
  have H15 : Hid (Below w.heap.size w w15 ∧ w15.heap[B4]? = some (.cells #[.string t.1, .string t.2.1, .int .i64 t.2.2.1, .slice none 0 0, .bool t.2.2.2.1, .int .i64 0, .int .i64 t.2.2.2.2] 28) ∧ w15.heap[B7]? = some (.cells #[.string t.1, .string t.2.1, .int .i64 t.2.2.1, .slice none 0 0, .bool t.2.2.2.1, .int .i64 0, .int .i64 t.2.2.2.2] 28) ∧ RowG w15 v15 gs) := ⟨H14.out.1.trans (hb15.mono H14.out.1.size), (hb15.block B4 (by omega)).trans H14.out.2.1, (hb15.block B7 (by omega)).trans H14.out.2.2, r15.row HG.out⟩
  clear hb15 r15 H14
  go_wp2_with fail
  refine (QI.out _ _ H15.out.2.2.2 HG.out (HEr.out.below H15.out.1)).mono ?_
  rintro e w16 ⟨rfl, hb16⟩
  have s16 := hb16.size
  have H16 : Hid (Below w.heap.size w w16 ∧ w16.heap[B4]? = some (.cells #[.string t.1, .string t.2.1, .int .i64 t.2.2.1, .slice none 0 0, .bool t.2.2.2.1, .int .i64 0, .int .i64 t.2.2.2.2] 28) ∧ w16.heap[B7]? = some (.cells #[.string t.1, .string t.2.1, .int .i64 t.2.2.1, .slice none 0 0, .bool t.2.2.2.1, .int .i64 0, .int .i64 t.2.2.2.2] 28)) := ⟨H15.out.1.trans (hb16.mono H15.out.1.size), (hb16.block B4 (by omega)).trans H15.out.2.1, (hb16.block B7 (by omega)).trans H15.out.2.2.1⟩
  clear hb16 H15
  unfold hdV
  go_upto_region 25 with fail
  obtain ⟨W17, hW17⟩ : ∃ W17, w16.alloc (.cells #[.string t.1, .string t.2.1, .int .i64 t.2.2.1, .slice none 0 0, .bool t.2.2.2.1, .int .i64 0, .int .i64 t.2.2.2.2] 28) = W17 := ⟨_, rfl⟩
  have hb17 : Below w16.heap.size w16 W17 := by rw [← hW17]; exact (Below.refl _ _).alloc (Nat.le_refl _) _
  have i17 : W17.heap[w16.heap.size]? = some (.cells #[.string t.1, .string t.2.1, .int .i64 t.2.2.1, .slice none 0 0, .bool t.2.2.2.1, .int .i64 0, .int .i64 t.2.2.2.2] 28) := by rw [← hW17]; exact World.alloc_heap_new _ _
  obtain ⟨B17, hB17⟩ : ∃ B17, B17 = w16.heap.size := ⟨_, rfl⟩
  rw [← hB17] at i17
  have H17 : Hid (Below w.heap.size w W17 ∧ W17.heap[B4]? = some (.cells #[.string t.1, .string t.2.1, .int .i64 t.2.2.1, .slice none 0 0, .bool t.2.2.2.1, .int .i64 0, .int .i64 t.2.2.2.2] 28) ∧ W17.heap[B7]? = some (.cells #[.string t.1, .string t.2.1, .int .i64 t.2.2.1, .slice none 0 0, .bool t.2.2.2.1, .int .i64 0, .int .i64 t.2.2.2.2] 28) ∧ W17.heap[B17]? = some (.cells #[.string t.1, .string t.2.1, .int .i64 t.2.2.1, .slice none 0 0, .bool t.2.2.2.1, .int .i64 0, .int .i64 t.2.2.2.2] 28)) := ⟨H16.out.1.trans (hb17.mono H16.out.1.size), (hb17.block B4 (by omega)).trans H16.out.2.1, (hb17.block B7 (by omega)).trans H16.out.2.2, i17⟩
  have s17 := hb17.size
  try rw [hW17]
  try rw [← hB17]
  clear hW17 hB17 hb17 i17 H16
  obtain ⟨c0, c1, c2, c3, c4, c5, c6⟩ := box7H H17.out.2.1
  obtain ⟨d0, d1, d2, d3, d4, d5, d6⟩ := box7H H17.out.2.2.2
  go_wp2_with fail
  refine (eqIO_any t _ HZ.out.1 HZ.out.2).mono ?_
  rintro e w18 ⟨rfl, hb18⟩
  have H18 : Hid (Below w.heap.size w w18 ∧ w18.heap[B7]? = some (.cells #[.string t.1, .string t.2.1, .int .i64 t.2.2.1, .slice none 0 0, .bool t.2.2.2.1, .int .i64 0, .int .i64 t.2.2.2.2] 28)) := ⟨H17.out.1.trans (hb18.mono H17.out.1.size), (hb18.block B7 (by omega)).trans H17.out.2.2.1⟩
  clear hb18 H17 c0 c1 c2 c3 c4 c5 c6 d0 d1 d2 d3 d4 d5 d6
  obtain ⟨d0, d1, d2, d3, d4, d5, d6⟩ := box7H H18.out.2
  go_wp2_with fail
  refine (heldIO_any t 1 _ (by omega)).mono ?_
  rintro e w19 ⟨rfl, hb19⟩
  have H19 : Hid (Below w.heap.size w w19) := H18.out.1.trans (hb19.mono H18.out.1.size)
  clear hb19 H18 d0 d1 d2 d3 d4 d5 d6
  go_wp2
  go_ret
  exact ⟨rfl, H19.out⟩
theorem own : ownKnob Tryd.prog.godebug = none := by kernel_rfl
theorem laidOut : laidOutB Tryd.prog = true := by kernel_rfl
theorem door_met (os : Os) (args : Array Value) : laidMetH Tryd.prog Rows.fnExactHeadOfRow.laid ((World.doorLaid Tryd.prog 62 os).forCall (fun _ _ => 0) ⟨#[], args, []⟩).memory :=
  laidMetH_of_parts3 (fuel := 8) (laidMet_of_run' 8 (by kernel_rfl) (by kernel_rfl)) (by kernel_rfl) (by kernel_rfl)
set_option maxRecDepth 100000 in
theorem lifted (os : Os) (started : os.Started) (H : Type) (enc : TypeId × Value → H) :
    ReturnsInHanded {} Tryd.checked os 3 .any (fun w args => (Rows.fnExactHeadOfSpec.pre enc Tryd.prog Tryd.f3 [] false w args ∧ laidMetH Tryd.prog Rows.fnExactHeadOfRow.laid w) ∧ sizedMet enc Tryd.prog Tryd.f3 (OpenSpec.ofChange Rows.fnExactHeadOfSpec) false w args)
      (Rows.fnExactHeadOfSpec.post enc Tryd.prog Tryd.f3 false true false false) := by
  refine returnsInHanded_of_change_and (C := Tryd.checked) (X := fun w _ => laidMetH Tryd.prog Rows.fnExactHeadOfRow.laid w) (fun _ _ _ hh h => h.of_heap hh) own started (by kernel_rfl) Tryd.func3
    (ChangeSpec.witness_shaped (enc := enc) (C := Tryd.checked) (os := os) (X := fun w _ => laidMetH Tryd.prog Rows.fnExactHeadOfRow.laid w) false (World.doorLaid Tryd.prog 62 os) #[.slice none 0 0] 8 rfl (World.shaped_of_RefB (by kernel_rfl) (by kernel_rfl)) (by kernel_rfl) (by kernel_rfl) (by kernel_rfl) (door_met os _)) ?_
  intro W base args ds gs before hval0 hW hcnd _ hL _
  have hval : ∀ (j : Nat) t v, Tryd.f3.params[j]? = some t → args[j]? = some v → Value.okWide Tryd.prog W .any base t v := hval0
  have hW' := hW
  obtain ⟨p, q, hA0, hV, rfl, hfz, hnd⟩ := hW
  have hA : DataW.TrodAll enc Tryd.prog W 0 (fun _ => true) true Tryd.f3.params.toList args.toList ds p := hA0
  rw [Tryd.params3] at hA hval
  obtain ⟨v0, vs0, d0, ds0, p0, q0, hargs, rfl, rfl, h0, r0⟩ := trodAll_cons hA
  obtain ⟨rfl, rfl, rfl⟩ := trodAll_nil r0
  obtain rfl : args = #[v0] := by cases args; simp_all
  obtain ⟨rfl, rfl⟩ := trodVars_none hV
  have k0 := h0
  have lt0 : ∀ x ∈ p0, x.block < W.heap.size := by obtain ⟨m, hm⟩ := k0; exact DataW.trod_lt m _ _ _ hm
  obtain ⟨gs0, hr0⟩ := openGs (hval 0 22 v0 rfl rfl) h0
  clear hA0 hval0
  refine (walk v0 gs0 W hr0 hL).mono fun e W' ⟨he, bel⟩ => ?_
  subst he
  exact ⟨_, rfl, _, _, _, [], _, [], hW', trodAll_mk1 (shut_bool Tryd.underlying4 _), (trodAll_cons_mk (Below.trod laidOut (by kernel_rfl) (of_decide_eq_true (by kernel_rfl)) k0 bel lt0) trodAll_mk0), rfl, bel.frame _, fun h => by cases h⟩
theorem over : Rows.fnExactHeadOfRow.holds Tryd.pinned (OpenSpec.ofChange Rows.fnExactHeadOfSpec) :=
  OpenClaim.holds_of_wide 3 Tryd.f3 rfl rfl rfl rfl rfl rfl rfl ⟨rfl, rfl, rfl, rfl, rfl⟩ rfl rfl rfl rfl rfl (by kernel_rfl) Tryd.func3 (by kernel_rfl)
    (of_decide_eq_true (by kernel_rfl)) (by unfold Func.isWrapper; first | (rw [if_pos (by decide +kernel)]; kernel_rfl) | (rw [if_neg (by decide +kernel)]; exact ⟨rfl, rfl⟩))
    (fun os started H enc _ => lifted os started H enc)
theorem card : Rows.FnExactHeadOfCardSaid :=
  Claim7.holds_tied_plain_at .later [] [.data, .data, .data, .sentinel, .sentinel] true (true, "7035f33367639162cf1c03a7a03451b6c2e09e60e6fa99bcf158193fbdc69a8a") true
    over (fun _ h => by cases h) (by kernel_rfl) (fun _ h => by cases h) fnExactHeadOf_row_tie rfl ⟨rfl, rfl⟩ (by kernel_rfl) rfl
    (fun f fn hf hfn => by
      obtain rfl : f = 3 := Option.some.inj ((show Tryd.prog.funcNamed "loop.example/g00096/laws.FnExactHeadOf" = some 3 by kernel_rfl).symm.trans hf) |>.symm
      obtain rfl : fn = Tryd.f3 := (Option.some.inj (Tryd.func3.symm.trans hfn)).symm
      exact ⟨by kernel_rfl, fun j t ht => by
        rw [Tryd.params3] at ht
        have hj : Tryd.prog.wantsStandIn t = false := by
          rcases j with _ | j
          · have e : t = 22 := by simpa using ht.symm
            subst e
            exact (show Tryd.prog.wantsStandIn 22 = false by kernel_rfl)
          simp at ht
        exact hj⟩)
    (by kernel_rfl)
end fnExactHeadOf
theorem fnExactHeadOf_holds : Rows.FnExactHeadOfCardSaid := fnExactHeadOf.card
#print axioms fnExactHeadOf_holds
end Go.Proofs.YthjddnhdfnhalaaDoor
