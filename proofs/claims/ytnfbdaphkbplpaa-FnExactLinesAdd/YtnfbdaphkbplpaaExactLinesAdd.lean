/- FnExactLinesAdd returns true at every list of order lines and line and leaves them as they were: LinesAdd answers as its model, writes into no argument, keeps nothing of one, and its answer owns its memory; no condition. -/
import Derived.Test.YtnfbdaphkbplpaaSzOl
import Derived.Test.YtnfbdaphkbplpaaToOl
import Derived.Test.YtnfbdaphkbplpaaEqOl
import Derived.Test.YtnfbdaphkbplpaaOpenOl
import Derived.Test.YtnfbdaphkbplpaaInsE
import Derived.Test.YtnfbdaphkbplpaaInsF
import Derived.Test.YtnfbdaphkbplpaaMkOl
import Derived.Deep.RegionHeld3
import Derived.Lib.SmallJoins
namespace Go.Proofs.Ytnfbdaphkbplpaa
open Go.ChangeShapes Go.WideShapes Go.ChangeAt Go.RowKit Go.Joins
open Go.ChangeMaps (open_string shut_string)
set_option linter.unusedVariables false
namespace fnExactLinesAdd
theorem bdC {rs : List OLn} (h : BdOl 1048576 rs) : ∀ d ∈ rs, d.partner.size ≤ 1048576 ∧ d.ref.size ≤ 1048576 ∧ d.item.size ≤ 1048576 := fun d hd => by
  obtain ⟨i, hi⟩ := List.getElem?_of_mem hd
  exact h.2 i d hi
theorem lst2Ol {B : Nat} {W : World} {v : Value} {rs : List OLn} (h : OwnOl B W v rs) (hG : BdOl 1048576 rs) : ∃ b, B ≤ b ∧ b < W.heap.size ∧ v = .slice (some ⟨b, 0, none⟩) rs.length rs.length ∧ LOl b W v rs := by
  obtain ⟨b, f, h1, h2, h3, h4⟩ := h
  have hl := hG.len
  exact ⟨b, h1, h3.lt, h2, ⟨_, _, h2, fun _ => ⟨rfl, _, f, h3, Nat.le_refl _, h4⟩⟩, by omega, fun i g hi => by have := hG.2 i g hi; omega⟩
set_option maxHeartbeats 16000000 in
theorem walk (u : Value) (rs : List OLn) (c : OLn) (w : World) (h : RowOl w u rs) (hc : c.partner.size ≤ 9223372036854775807 ∧ c.ref.size ≤ 9223372036854775807 ∧ c.item.size ≤ 9223372036854775807) :
    Calls Try.prog 9 #[u, .agg #[.string c.partner, .string c.ref, .int .i64 c.no, .string c.item, .int .i64 c.ordered, .int .i64 c.sent, .int .i64 c.got, .int .i64 c.cut]] w fun e w' => e = .returned (.bool true) ∧ Below w.heap.size w w' := by
  obtain ⟨A, cap, rfl⟩ := h.val
  have hlen := h.len
  obtain ⟨W0, hW0⟩ : ∃ W0, w.alloc (.cells #[.string c.partner, .string c.ref, .int .i64 c.no, .string c.item, .int .i64 c.ordered, .int .i64 c.sent, .int .i64 c.got, .int .i64 c.cut] 23) = W0 := ⟨_, rfl⟩
  have hb0 : Below w.heap.size w W0 := by rw [← hW0]; exact (Below.refl _ _).alloc (Nat.le_refl _) _
  have hbx0 : W0.heap[w.heap.size]? = some (.cells #[.string c.partner, .string c.ref, .int .i64 c.no, .string c.item, .int .i64 c.ordered, .int .i64 c.sent, .int .i64 c.got, .int .i64 c.cut] 23) := by rw [← hW0]; exact World.alloc_heap_new _ _
  have H0 : Hid (RowOl W0 (.slice A rs.length cap) rs ∧ Below w.heap.size w W0 ∧ W0.heap[w.heap.size]? = some (.cells #[.string c.partner, .string c.ref, .int .i64 c.no, .string c.item, .int .i64 c.ordered, .int .i64 c.sent, .int .i64 c.got, .int .i64 c.cut] 23)) := ⟨h.below hb0, hb0, hbx0⟩
  have HC : Hid (∀ W, Below W0.heap.size W0 W → W.cell? ⟨w.heap.size, 0, none⟩ = some (.string c.partner) ∧ W.cell? ⟨w.heap.size, 1, none⟩ = some (.string c.ref) ∧ W.cell? ⟨w.heap.size, 2, none⟩ = some (.int .i64 c.no) ∧ W.cell? ⟨w.heap.size, 3, none⟩ = some (.string c.item) ∧ W.cell? ⟨w.heap.size, 4, none⟩ = some (.int .i64 c.ordered) ∧ W.cell? ⟨w.heap.size, 5, none⟩ = some (.int .i64 c.sent) ∧ W.cell? ⟨w.heap.size, 6, none⟩ = some (.int .i64 c.got) ∧ W.cell? ⟨w.heap.size, 7, none⟩ = some (.int .i64 c.cut)) := fun W hW => by
    have e := (hW.block _ (Array.getElem?_eq_some_iff.1 hbx0).1).trans hbx0
    exact box8 e
  have HZ : Hid (c.partner.size ≤ 9223372036854775807 ∧ c.ref.size ≤ 9223372036854775807 ∧ c.item.size ≤ 9223372036854775807) := hc
  clear h hb0 hbx0 hc
  go_enter Try.func9, Try.ntmps9
  go_upto_region 2 with fail
  try rw [hW0]
  clear hW0
  go_wp2_with fail
  refine (szOls_any _ rs 1048576 _ H0.out.1 (by omega)).mono ?_
  rintro e w1 ⟨r, rfl, hr, hb1⟩
  rcases hr with rfl | ⟨g0, g1, hG⟩
  · have H1 : Hid (Below W0.heap.size W0 w1) := hb1
    clear hb1
    go_wp2
    go_ret
    exact ⟨rfl, H0.out.2.1.trans ((H1.out).mono H0.out.2.1.size)⟩
  have g0' : ¬ r < 0 := by omega
  have HG : Hid (BdOl 1048576 rs) := BdOl.mono hG (by omega)
  have hrl : rs.length ≤ 1048576 := HG.out.len
  have H1 : Hid (Below W0.heap.size W0 w1) := hb1
  clear hG hb1
  obtain ⟨c0, c1, c2, c3, c4, c5, c6, c7⟩ := HC.out _ H1.out
  go_wp2_with fail
  refine (szOl_any c r _ HZ.out ⟨g0, by omega⟩).mono ?_
  rintro e w1b ⟨r2, rfl, hr2, hb1b⟩
  have H1b : Hid (Below W0.heap.size W0 w1b) := H1.out.trans (hb1b.mono H1.out.size)
  clear hb1b c0 c1 c2 c3 c4 c5 c6 c7
  rcases hr2 with rfl | ⟨g2, g3, hG2⟩
  · go_wp2
    go_ret
    exact ⟨rfl, H0.out.2.1.trans ((H1b.out).mono H0.out.2.1.size)⟩
  have g2' : ¬ r2 < 0 := by omega
  have HB : Hid (c.partner.size ≤ 1048576 ∧ c.ref.size ≤ 1048576 ∧ c.item.size ≤ 1048576) := by
    refine ⟨?_, ?_, ?_⟩ <;> omega
  clear hG2
  obtain ⟨c0, c1, c2, c3, c4, c5, c6, c7⟩ := HC.out _ H1b.out
  go_upto_region 8 with fail
  go_region_held3 (fun W => W.cell? ⟨w.heap.size, 0, none⟩ = some (.string c.partner) ∧ W.cell? ⟨w.heap.size, 1, none⟩ = some (.string c.ref) ∧ W.cell? ⟨w.heap.size, 2, none⟩ = some (.int .i64 c.no) ∧ W.cell? ⟨w.heap.size, 3, none⟩ = some (.string c.item) ∧ W.cell? ⟨w.heap.size, 4, none⟩ = some (.int .i64 c.ordered) ∧ W.cell? ⟨w.heap.size, 5, none⟩ = some (.int .i64 c.sent) ∧ W.cell? ⟨w.heap.size, 6, none⟩ = some (.int .i64 c.got) ∧ W.cell? ⟨w.heap.size, 7, none⟩ = some (.int .i64 c.cut)) (go_keep) (first | (go_at_call 16; refine (toOls_any _ rs _ (H0.out.1.below (H1b.out.trans ((Below.refl _ _).drew.mono H1b.out.size))) HG.out).mono ?_; rintro e w2 ⟨v2, rfl, r2', hb2⟩; have B2 : Below W0.heap.size W0 w2 := (H1b.out.drew).trans (hb2.mono H1b.out.size); obtain ⟨d0, d1, d2, d3, d4, d5, d6, d7⟩ := HC.out _ B2; obtain ⟨bq, fq, _, rfl, _, _⟩ := id r2'; have R2 := r2'.row HG.out; clear hb2 r2') | (go_at_call 12; refine (toOl_any c _).mono ?_; rintro e w3 ⟨rfl, hb3⟩; have B3 : Below W0.heap.size W0 w3 := B2.trans (hb3.mono B2.size); obtain ⟨f0, f1, f2, f3, f4, f5, f6, f7⟩ := HC.out _ B3; have R3 := R2.below hb3; clear hb3) | (go_at_call 28; refine (linesAdd_spec _ _ rs c _ R3 HZ.out).mono ?_; rintro e w4 ⟨ad4, C4, rfl, hr4, hb4⟩; have B4 : Below W0.heap.size W0 w4 := B3.trans (hb4.mono B3.size); obtain ⟨k0, k1, k2, k3, k4, k5, k6, k7⟩ := HC.out _ B4))
  rename_i hHeld
  clear hHeld
  have H4 : Hid (Below W0.heap.size W0 w4 ∧ RowOl w4 (.slice (some ad4) (addT rs c).length C4) (addT rs c)) := ⟨B4, hr4⟩
  clear hr4 hb4 B2 B3 B4 R2 R3 d0 d1 d2 d3 d4 d5 d6 d7 f0 f1 f2 f3 f4 f5 f6 f7 k0 k1 k2 k3 k4 k5 k6 k7 c0 c1 c2 c3 c4 c5 c6 c7 H1 H1b
  go_wp2_with fail
  refine (toOls_any _ rs _ (H0.out.1.below H4.out.1) HG.out).mono ?_
  rintro e w5 ⟨v5, rfl, r5, hb5⟩
  obtain ⟨bx, lx, hx5, rfl, L5⟩ := lst2Ol r5 HG.out
  have B5 : Below W0.heap.size W0 w5 := H4.out.1.trans (hb5.mono H4.out.1.size)
  have H5 : Hid (Below W0.heap.size W0 w5 ∧ Below w4.heap.size w4 w5 ∧ LOl bx w5 (.slice (some ⟨bx, 0, none⟩) rs.length rs.length) rs) := ⟨B5, hb5, L5⟩
  clear hb5 r5 B5 L5
  obtain ⟨c0, c1, c2, c3, c4, c5, c6, c7⟩ := HC.out _ H5.out.1
  go_wp2_with fail
  refine (toOl_any c _).mono ?_
  rintro e w5b ⟨rfl, hb5b⟩
  have H5b : Hid (Below W0.heap.size W0 w5b ∧ Below w4.heap.size w4 w5b ∧ LOl bx w5b (.slice (some ⟨bx, 0, none⟩) rs.length rs.length) rs) := ⟨H5.out.1.trans (hb5b.mono H5.out.1.size), H5.out.2.1.trans (hb5b.mono H5.out.2.1.size), H5.out.2.2.below hb5b⟩
  have hx5b : w5.heap.size ≤ w5b.heap.size := hb5b.size
  clear hb5b c0 c1 c2 c3 c4 c5 c6 c7
  go_wp2_with fail
  refine (linesAdd_impl _ _ rs c _ H5b.out.2.2.row (bdC HG.out) HB.out).mono ?_
  rintro e w6 ⟨u6, bg, rfl, lg, L6, hb6⟩
  have hne : bg ≠ bx := by have := hx5b; omega
  have hg4 : w4.heap.size ≤ bg := by have := H5b.out.2.1.size; omega
  have hg0 : W0.heap.size ≤ bg := by have := H5b.out.1.size; omega
  have hx4 : w4.heap.size ≤ bx := lx
  have hx0 : W0.heap.size ≤ bx := by have := H4.out.1.size; omega
  have H6 : Hid (Below W0.heap.size W0 w6 ∧ Below w4.heap.size w4 w6 ∧ LOl bx w6 (.slice (some ⟨bx, 0, none⟩) rs.length rs.length) rs ∧ LOl bg w6 u6 (addT rs c)) := ⟨H5b.out.1.trans (hb6.mono H5b.out.1.size), H5b.out.2.1.trans (hb6.mono H5b.out.2.1.size), H5b.out.2.2.below hb6, L6⟩
  clear hb6 L6 lg lx hx5
  go_wp2_with fail
  refine (eqOls_any _ _ _ _ H6.out.2.2.2.row (H4.out.2.below H6.out.2.1)).mono ?_
  rintro e w7 ⟨rfl, hb7⟩
  have H7 : Hid (Below W0.heap.size W0 w7 ∧ Below w4.heap.size w4 w7 ∧ LOl bx w7 (.slice (some ⟨bx, 0, none⟩) rs.length rs.length) rs ∧ LOl bg w7 u6 (addT rs c)) := ⟨H6.out.1.trans (hb7.mono H6.out.1.size), H6.out.2.1.trans (hb7.mono H6.out.2.1.size), H6.out.2.2.1.below hb7, H6.out.2.2.2.below hb7⟩
  clear hb7 H6
  go_wp2_with fail
  refine (toOls_any _ rs _ (H0.out.1.below H7.out.1) HG.out).mono ?_
  rintro e w8 ⟨v8, rfl, r8, hb8⟩
  have H8 : Hid (Below W0.heap.size W0 w8 ∧ Below w4.heap.size w4 w8 ∧ LOl bx w8 (.slice (some ⟨bx, 0, none⟩) rs.length rs.length) rs ∧ LOl bg w8 u6 (addT rs c) ∧ RowOl w8 v8 rs) := ⟨H7.out.1.trans (hb8.mono H7.out.1.size), H7.out.2.1.trans (hb8.mono H7.out.2.1.size), H7.out.2.2.1.below hb8, H7.out.2.2.2.below hb8, r8.row HG.out⟩
  clear hb8 r8 H7
  go_wp2_with fail
  refine (eqOls_any _ _ _ _ H8.out.2.2.1.row H8.out.2.2.2.2).mono ?_
  rintro e w9 ⟨rfl, hb9⟩
  have H9 : Hid (Below W0.heap.size W0 w9 ∧ Below w4.heap.size w4 w9 ∧ LOl bx w9 (.slice (some ⟨bx, 0, none⟩) rs.length rs.length) rs ∧ LOl bg w9 u6 (addT rs c)) := ⟨H8.out.1.trans (hb9.mono H8.out.1.size), H8.out.2.1.trans (hb9.mono H8.out.2.1.size), H8.out.2.2.1.below hb9, H8.out.2.2.2.1.below hb9⟩
  clear hb9 H8
  go_wp2_with fail
  refine (markOl_any bx _ rs 1 _ H9.out.2.2.1 ⟨by omega, by omega⟩).mono ?_
  rintro e w10 ⟨rfl, _, hk10⟩
  have hL10 : LOl bg w10 u6 (addT rs c) ∧ Below W0.heap.size W0 w10 ∧ Below w4.heap.size w4 w10 := by
    have s0 := H9.out.1.size
    have s4 := H9.out.2.1.size
    exact ⟨H9.out.2.2.2.keep hk10 hne, H9.out.1.trans (hk10.below hx0 s0), H9.out.2.1.trans (hk10.below hx4 s4)⟩
  have H10 : Hid (Below W0.heap.size W0 w10 ∧ Below w4.heap.size w4 w10 ∧ LOl bg w10 u6 (addT rs c)) := ⟨hL10.2.1, hL10.2.2, hL10.1⟩
  clear hL10 hk10 H9
  have hkp : ¬ ((1 + rs.length * 8 : Nat) : Int) < 0 := by omega
  go_wp2_with fail
  refine (eqOls_any _ _ _ _ H10.out.2.2.row (H4.out.2.below H10.out.2.1)).mono ?_
  rintro e w11 ⟨rfl, hb11⟩
  have H11 : Hid (Below W0.heap.size W0 w11 ∧ Below w4.heap.size w4 w11 ∧ LOl bg w11 u6 (addT rs c)) := ⟨H10.out.1.trans (hb11.mono H10.out.1.size), H10.out.2.1.trans (hb11.mono H10.out.2.1.size), H10.out.2.2.below hb11⟩
  clear hb11 H10
  obtain ⟨N, hN⟩ : ∃ N, N = (addT rs c).length := ⟨_, rfl⟩
  have hNl : N ≤ rs.length + 1 := by rw [hN]; exact addT_len rs c
  go_wp2_with fail
  refine (markOl_any bg _ _ 1 _ H11.out.2.2 ⟨by omega, by omega⟩).mono ?_
  rintro e w12 ⟨rfl, L12, hk12⟩
  rw [← hN] at L12 ⊢
  have H12 : Hid (Below W0.heap.size W0 w12 ∧ Below w4.heap.size w4 w12 ∧ LOl bg w12 u6 (mkOls 1 N)) := by
    have s0 := H11.out.1.size
    have s4 := H11.out.2.1.size
    exact ⟨H11.out.1.trans (hk12.below hg0 s0), H11.out.2.1.trans (hk12.below hg4 s4), L12⟩
  clear L12 hk12 H11
  go_wp2_with fail
  refine (heldOl_any _ 1 N _ H12.out.2.2.row ⟨by omega, by omega⟩).mono ?_
  rintro e w13 ⟨rfl, hb13⟩
  have H13 : Hid (Below W0.heap.size W0 w13 ∧ Below w4.heap.size w4 w13 ∧ LOl bg w13 u6 (mkOls 1 N)) := ⟨H12.out.1.trans (hb13.mono H12.out.1.size), H12.out.2.1.trans (hb13.mono H12.out.2.1.size), H12.out.2.2.below hb13⟩
  clear hb13 H12
  have hnp : ¬ ((1 + N * 8 : Nat) : Int) < 0 := by omega
  obtain ⟨c0, c1, c2, c3, c4, c5, c6, c7⟩ := HC.out _ H13.out.1
  go_upto_region 27 with fail
  go_region_held3 (fun W => W.cell? ⟨w.heap.size, 0, none⟩ = some (.string c.partner) ∧ W.cell? ⟨w.heap.size, 1, none⟩ = some (.string c.ref) ∧ W.cell? ⟨w.heap.size, 2, none⟩ = some (.int .i64 c.no) ∧ W.cell? ⟨w.heap.size, 3, none⟩ = some (.string c.item) ∧ W.cell? ⟨w.heap.size, 4, none⟩ = some (.int .i64 c.ordered) ∧ W.cell? ⟨w.heap.size, 5, none⟩ = some (.int .i64 c.sent) ∧ W.cell? ⟨w.heap.size, 6, none⟩ = some (.int .i64 c.got) ∧ W.cell? ⟨w.heap.size, 7, none⟩ = some (.int .i64 c.cut)) (go_keep) (first | (go_at_call 16; refine (toOls_any _ rs _ (H0.out.1.below (H13.out.1.trans ((Below.refl _ _).drew.mono H13.out.1.size))) HG.out).mono ?_; rintro e w14 ⟨v14, rfl, r14, hb14⟩; have B14 : Below w13.heap.size w13 w14 := (Below.refl _ _).drew.trans hb14; obtain ⟨d0, d1, d2, d3, d4, d5, d6, d7⟩ := HC.out _ (H13.out.1.trans (B14.mono H13.out.1.size)); obtain ⟨bq14, fq14, _, rfl, _, _⟩ := id r14; have R14 := r14.row HG.out; clear hb14 r14) | (go_at_call 12; refine (toOl_any c _).mono ?_; rintro e w15 ⟨rfl, hb15⟩; have B15 : Below w13.heap.size w13 w15 := B14.trans (hb15.mono B14.size); obtain ⟨f0, f1, f2, f3, f4, f5, f6, f7⟩ := HC.out _ (H13.out.1.trans (B15.mono H13.out.1.size)); have R15 := R14.below hb15; clear hb15) | (go_at_call 29; refine (linesAdd_impl _ _ rs c _ R15 (bdC HG.out) HB.out).mono ?_; rintro e w16 ⟨u16, b16, rfl, _, L16, hb16⟩; have B16 : Below w13.heap.size w13 w16 := B15.trans (hb16.mono B15.size); obtain ⟨k0, k1, k2, k3, k4, k5, k6, k7⟩ := HC.out _ (H13.out.1.trans (B16.mono H13.out.1.size))))
  rename_i hHeld
  clear hHeld
  have H16 : Hid (Below W0.heap.size W0 w16 ∧ Below w4.heap.size w4 w16 ∧ LOl bg w16 u6 (mkOls 1 N) ∧ RowOl w16 u16 (addT rs c)) := ⟨H13.out.1.trans (B16.mono H13.out.1.size), H13.out.2.1.trans (B16.mono H13.out.2.1.size), H13.out.2.2.below B16, L16.row⟩
  clear hb16 L16 B14 B15 B16 R14 R15 d0 d1 d2 d3 d4 d5 d6 d7 f0 f1 f2 f3 f4 f5 f6 f7 k0 k1 k2 k3 k4 k5 k6 k7 c0 c1 c2 c3 c4 c5 c6 c7 H13
  go_wp2_with fail
  refine (eqOls_any _ _ _ _ H16.out.2.2.2 (H4.out.2.below H16.out.2.1)).mono ?_
  rintro e w17 ⟨rfl, hb17⟩
  have H17 : Hid (Below W0.heap.size W0 w17 ∧ LOl bg w17 u6 (mkOls 1 N)) := ⟨H16.out.1.trans (hb17.mono H16.out.1.size), H16.out.2.2.1.below hb17⟩
  clear hb17 H16
  go_wp2_with fail
  refine (heldOl_any _ 1 N _ H17.out.2.row ⟨by omega, by omega⟩).mono ?_
  rintro e w18 ⟨rfl, hb18⟩
  have H18 : Hid (Below W0.heap.size W0 w18) := H17.out.1.trans (hb18.mono H17.out.1.size)
  clear hb18 H17
  go_wp2
  go_ret
  exact ⟨rfl, H0.out.2.1.trans ((H18.out).mono H0.out.2.1.size)⟩
theorem own : ownKnob Try.prog.godebug = none := by kernel_rfl
theorem laidOut : laidOutB Try.prog = true := by kernel_rfl
set_option maxRecDepth 100000 in
theorem lifted (os : Os) (started : os.Started) (H : Type) (enc : TypeId × Value → H) :
    ReturnsInHanded {} Try.checked os 9 .any (Rows.fnExactLinesAddSpec.pre6 enc Try.prog Try.f9 Rows.fnExactLinesAddRow.domain false) (Rows.fnExactLinesAddSpec.post enc Try.prog Try.f9 false true false false) := by
  refine returnsInHanded_of_change (C := Try.checked) own started (by kernel_rfl) Try.func9
    (ChangeSpec.witness6 (enc := enc) (C := Try.checked) false ⟨#[], #[.slice none 0 0, .agg #[.string ⟨#[]⟩, .string ⟨#[]⟩, .int .i64 0, .string ⟨#[]⟩, .int .i64 0, .int .i64 0, .int .i64 0, .int .i64 0]], []⟩ 8 (by kernel_rfl) (by kernel_rfl) (by kernel_rfl) (by kernel_rfl)) ?_
  intro W base args ds gs before hval0 hW hcnd _
  have hval : ∀ (j : Nat) t v, Try.f9.params[j]? = some t → args[j]? = some v → Value.okWide Try.prog W .any base t v := hval0
  have hW' := hW
  obtain ⟨p, q, hA0, hV, rfl, hfz, hnd⟩ := hW
  have hA : DataW.TrodAll enc Try.prog W 0 (fun _ => true) true Try.f9.params.toList args.toList ds p := hA0
  rw [Try.params9] at hA hval
  obtain ⟨v0, vs0, d0, ds0, p0, q0, hargs, rfl, rfl, h0, r0⟩ := trodAll_cons hA
  obtain ⟨v1, vs1, d1, ds1, p1, q1, rfl, rfl, rfl, h1, r1⟩ := trodAll_cons r0
  obtain ⟨rfl, rfl, rfl⟩ := trodAll_nil r1
  obtain rfl : args = #[v0, v1] := by cases args; simp_all
  obtain ⟨rfl, rfl⟩ := trodVars_none hV
  have k0 := h0
  have lt0 : ∀ x ∈ p0, x.block < W.heap.size := by obtain ⟨m, hm⟩ := k0; exact DataW.trod_lt m _ _ _ hm
  obtain ⟨rs0, hr0⟩ := openOlsa (hval 0 29 v0 rfl rfl) h0
  have k1 := h1
  have lt1 : ∀ x ∈ p1, x.block < W.heap.size := by obtain ⟨m, hm⟩ := k1; exact DataW.trod_lt m _ _ _ hm
  obtain ⟨c1, rfl, hc1⟩ := openOla (hval 1 23 v1 rfl rfl) h1
  clear hA0 hval0
  refine (walk v0 rs0 c1 W hr0 hc1).mono fun e W' ⟨he, bel⟩ => ?_
  subst he
  exact ⟨_, rfl, _, _, _, [], _, [], hW', trodAll_mk1 (shut_bool Try.underlying4 _), (trodAll_cons_mk (Below.trod laidOut (by kernel_rfl) (of_decide_eq_true (by kernel_rfl)) k0 bel lt0) (trodAll_cons_mk (Below.trod laidOut (by kernel_rfl) (of_decide_eq_true (by kernel_rfl)) k1 bel lt1) trodAll_mk0)), rfl, bel.frame _, fun h => by cases h⟩
theorem over : Rows.fnExactLinesAddRow.holds Try.pinned (OpenSpec.ofChange Rows.fnExactLinesAddSpec) :=
  OpenClaim.holds_of_wide 9 Try.f9 rfl rfl rfl rfl rfl rfl rfl ⟨rfl, rfl, rfl, rfl, rfl⟩ rfl rfl rfl rfl rfl (by kernel_rfl) Try.func9 (by kernel_rfl)
    (of_decide_eq_true (by kernel_rfl)) (by unfold Func.isWrapper; first | (rw [if_pos (by decide +kernel)]; kernel_rfl) | (rw [if_neg (by decide +kernel)]; exact ⟨rfl, rfl⟩))
    (fun os started H enc _ => lifted os started H enc)
end fnExactLinesAdd
theorem fnExactLinesAdd_holds : Rows.FnExactLinesAddSaid := fnExactLinesAdd.over
#print axioms fnExactLinesAdd_holds
end Go.Proofs.Ytnfbdaphkbplpaa
