/- Contracts of the program's LineRight, LineOpen, LineTransit. -/
import Derived.Test.YtppfobeencnbdaaLnP
namespace Go.Proofs.Ytppfobeencnbdaa
open Go.ChangeShapes Go.WideShapes Go.ChangeAt Go.RowKit
theorem box8 {W : World} {b t : Nat} {x0 x1 x2 x3 x4 x5 x6 x7 : Value} (h : W.heap[b]? = some (.cells #[x0, x1, x2, x3, x4, x5, x6, x7] t)) : W.cell? ⟨b, 0, none⟩ = some x0 ∧ W.cell? ⟨b, 1, none⟩ = some x1 ∧ W.cell? ⟨b, 2, none⟩ = some x2 ∧ W.cell? ⟨b, 3, none⟩ = some x3 ∧ W.cell? ⟨b, 4, none⟩ = some x4 ∧ W.cell? ⟨b, 5, none⟩ = some x5 ∧ W.cell? ⟨b, 6, none⟩ = some x6 ∧ W.cell? ⟨b, 7, none⟩ = some x7 := by
  refine ⟨?_, ?_, ?_, ?_, ?_, ?_, ?_, ?_⟩ <;> simp [World.cell?, h]
theorem ret_no {p : Prop} [Decidable p] (h : ¬ p) : Ending.returned (.bool (decide p)) = .returned (.bool false) := by rw [decide_eq_false h]
theorem ret_yes {p : Prop} [Decidable p] (h : p) : Ending.returned (.bool (decide p)) = .returned (.bool true) := by rw [decide_eq_true h]
theorem isQuantity_any (z : Int) (w : World) : Calls Try.prog 51 #[.int .i64 z] w fun e w' => e = .returned (.bool (qtyB z)) ∧ w' = w := by
  by_cases h1 : 1 ≤ z
  · by_cases h2 : z ≤ 1000000
    · rw [qtyB_yes ⟨h1, h2⟩]
      go_enter Try.func51, Try.ntmps51
      go_wp2
      go_ret
      exact ⟨by first | rfl | exact ret_yes (p := z ≤ 1000000) (by omega), rfl⟩
    · rw [qtyB_no (by omega)]
      go_enter Try.func51, Try.ntmps51
      go_wp2
      go_ret
      exact ⟨by first | rfl | exact ret_no (p := z ≤ 1000000) (by omega), rfl⟩
  · rw [qtyB_no (by omega)]
    go_enter Try.func51, Try.ntmps51
    go_wp2
    go_ret
    exact ⟨rfl, rfl⟩
set_option maxHeartbeats 2000000 in
theorem named_any (l : OLn) (w : World) : Calls Try.prog 38 #[.agg #[.string l.partner, .string l.ref, .int .i64 l.no, .string l.item, .int .i64 l.ordered, .int .i64 l.sent, .int .i64 l.got, .int .i64 l.cut]] w fun e w' => e = .returned (.bool (nmdB l)) ∧ Below w.heap.size w w' := by
  have HE : Hid (nmdB l = (nameB l.partner && (nameB l.ref && (nameB l.item && decide (1 ≤ l.no ∧ l.no ≤ 999))))) := rfl
  obtain ⟨r, hr⟩ : ∃ r, r = nmdB l := ⟨_, rfl⟩
  have HR : Hid (r = nmdB l) := hr
  rw [← hr]
  clear hr
  obtain ⟨partner, ref, no, item, ordered, sent, got, cut⟩ := l
  dsimp only at HE ⊢
  have HB : Hid (∀ o, Below w.heap.size w (w.alloc o)) := fun o => (Below.refl _ _).alloc (Nat.le_refl _) _
  have Q1 := isName_any partner
  have Q2 := isName_any ref
  have Q3 := isName_any item
  cases h1 : nameB partner
  · obtain rfl : r = false := by rw [HR.out, HE.out, h1]; rfl
    rw [h1] at Q1
    go_enter Try.func38, Try.ntmps38
    go_wp2_with (go_at_call 50; refine (Q1 _).mono ?_; rintro e w' ⟨rfl, rfl⟩)
    go_ret
    exact ⟨by first | rfl | exact ret_no (p := no ≤ 999) (by omega) | exact ret_yes (p := no ≤ 999) (by omega) | exact ret_no (p := cut ≤ ordered - sent) (by omega) | exact ret_yes (p := cut ≤ ordered - sent) (by omega), HB.out _⟩
  cases h2 : nameB ref
  · obtain rfl : r = false := by rw [HR.out, HE.out, h1, h2]; rfl
    rw [h1] at Q1
    rw [h2] at Q2
    go_enter Try.func38, Try.ntmps38
    go_wp2_with (first | (go_at_call_of 50 (Value.string partner); refine (Q1 _).mono ?_; rintro e w' ⟨rfl, rfl⟩) | (go_at_call_of 50 (Value.string ref); refine (Q2 _).mono ?_; rintro e w' ⟨rfl, rfl⟩))
    go_ret
    exact ⟨by first | rfl | exact ret_no (p := no ≤ 999) (by omega) | exact ret_yes (p := no ≤ 999) (by omega) | exact ret_no (p := cut ≤ ordered - sent) (by omega) | exact ret_yes (p := cut ≤ ordered - sent) (by omega), HB.out _⟩
  cases h3 : nameB item
  · obtain rfl : r = false := by rw [HR.out, HE.out, h1, h2, h3]; rfl
    rw [h1] at Q1
    rw [h2] at Q2
    rw [h3] at Q3
    go_enter Try.func38, Try.ntmps38
    go_wp2_with (first | (go_at_call_of 50 (Value.string partner); refine (Q1 _).mono ?_; rintro e w' ⟨rfl, rfl⟩) | (go_at_call_of 50 (Value.string ref); refine (Q2 _).mono ?_; rintro e w' ⟨rfl, rfl⟩) | (go_at_call_of 50 (Value.string item); refine (Q3 _).mono ?_; rintro e w' ⟨rfl, rfl⟩))
    go_ret
    exact ⟨by first | rfl | exact ret_no (p := no ≤ 999) (by omega) | exact ret_yes (p := no ≤ 999) (by omega) | exact ret_no (p := cut ≤ ordered - sent) (by omega) | exact ret_yes (p := cut ≤ ordered - sent) (by omega), HB.out _⟩
  rw [h1] at Q1
  rw [h2] at Q2
  rw [h3] at Q3
  by_cases h4 : 1 ≤ no
  · by_cases h5 : no ≤ 999
    · obtain rfl : r = true := by rw [HR.out, HE.out, h1, h2, h3]; simp [h4, h5]
      go_enter Try.func38, Try.ntmps38
      go_wp2_with (first | (go_at_call_of 50 (Value.string partner); refine (Q1 _).mono ?_; rintro e w' ⟨rfl, rfl⟩) | (go_at_call_of 50 (Value.string ref); refine (Q2 _).mono ?_; rintro e w' ⟨rfl, rfl⟩) | (go_at_call_of 50 (Value.string item); refine (Q3 _).mono ?_; rintro e w' ⟨rfl, rfl⟩))
      go_ret
      exact ⟨by first | rfl | exact ret_no (p := no ≤ 999) (by omega) | exact ret_yes (p := no ≤ 999) (by omega) | exact ret_no (p := cut ≤ ordered - sent) (by omega) | exact ret_yes (p := cut ≤ ordered - sent) (by omega), HB.out _⟩
    · obtain rfl : r = false := by rw [HR.out, HE.out, h1, h2, h3]; simp [h4, h5]
      go_enter Try.func38, Try.ntmps38
      go_wp2_with (first | (go_at_call_of 50 (Value.string partner); refine (Q1 _).mono ?_; rintro e w' ⟨rfl, rfl⟩) | (go_at_call_of 50 (Value.string ref); refine (Q2 _).mono ?_; rintro e w' ⟨rfl, rfl⟩) | (go_at_call_of 50 (Value.string item); refine (Q3 _).mono ?_; rintro e w' ⟨rfl, rfl⟩))
      go_ret
      exact ⟨by first | rfl | exact ret_no (p := no ≤ 999) (by omega) | exact ret_yes (p := no ≤ 999) (by omega) | exact ret_no (p := cut ≤ ordered - sent) (by omega) | exact ret_yes (p := cut ≤ ordered - sent) (by omega), HB.out _⟩
  · obtain rfl : r = false := by rw [HR.out, HE.out, h1, h2, h3]; simp [h4]
    go_enter Try.func38, Try.ntmps38
    go_wp2_with (first | (go_at_call_of 50 (Value.string partner); refine (Q1 _).mono ?_; rintro e w' ⟨rfl, rfl⟩) | (go_at_call_of 50 (Value.string ref); refine (Q2 _).mono ?_; rintro e w' ⟨rfl, rfl⟩) | (go_at_call_of 50 (Value.string item); refine (Q3 _).mono ?_; rintro e w' ⟨rfl, rfl⟩))
    go_ret
    exact ⟨by first | rfl | exact ret_no (p := no ≤ 999) (by omega) | exact ret_yes (p := no ≤ 999) (by omega) | exact ret_no (p := cut ≤ ordered - sent) (by omega) | exact ret_yes (p := cut ≤ ordered - sent) (by omega), HB.out _⟩
set_option maxHeartbeats 2000000 in
theorem counted_any (l : OLn) (w : World) : Calls Try.prog 39 #[.agg #[.string l.partner, .string l.ref, .int .i64 l.no, .string l.item, .int .i64 l.ordered, .int .i64 l.sent, .int .i64 l.got, .int .i64 l.cut]] w fun e w' => e = .returned (.bool (cntB l)) ∧ Below w.heap.size w w' := by
  have HE : Hid (cntB l = decide (1 ≤ l.ordered ∧ l.ordered ≤ 1000000 ∧ 0 ≤ l.got ∧ l.got ≤ l.sent ∧ l.sent ≤ l.ordered ∧ 0 ≤ l.cut ∧ l.cut ≤ l.ordered - l.sent)) := rfl
  obtain ⟨r, hr⟩ : ∃ r, r = cntB l := ⟨_, rfl⟩
  have HR : Hid (r = cntB l) := hr
  rw [← hr]
  clear hr
  obtain ⟨partner, ref, no, item, ordered, sent, got, cut⟩ := l
  dsimp only at HE ⊢
  have HB : Hid (∀ o, Below w.heap.size w (w.alloc o)) := fun o => (Below.refl _ _).alloc (Nat.le_refl _) _
  have Q1 := isQuantity_any ordered
  by_cases h1 : 1 ≤ ordered ∧ ordered ≤ 1000000
  case neg =>
    obtain rfl : r = false := by
      rw [HR.out, HE.out, decide_eq_false_iff_not]
      omega
    rw [qtyB_no h1] at Q1
    go_enter Try.func39, Try.ntmps39
    go_wp2_with (go_at_call 51; refine (Q1 _).mono ?_; rintro e w' ⟨rfl, rfl⟩)
    go_ret
    exact ⟨by first | rfl | exact ret_no (p := no ≤ 999) (by omega) | exact ret_yes (p := no ≤ 999) (by omega) | exact ret_no (p := cut ≤ ordered - sent) (by omega) | exact ret_yes (p := cut ≤ ordered - sent) (by omega), HB.out _⟩
  by_cases h2 : 0 ≤ got
  case neg =>
    obtain rfl : r = false := by
      rw [HR.out, HE.out, decide_eq_false_iff_not]
      omega
    rw [qtyB_yes h1] at Q1
    go_enter Try.func39, Try.ntmps39
    go_wp2_with (go_at_call 51; refine (Q1 _).mono ?_; rintro e w' ⟨rfl, rfl⟩)
    go_ret
    exact ⟨by first | rfl | exact ret_no (p := no ≤ 999) (by omega) | exact ret_yes (p := no ≤ 999) (by omega) | exact ret_no (p := cut ≤ ordered - sent) (by omega) | exact ret_yes (p := cut ≤ ordered - sent) (by omega), HB.out _⟩
  by_cases h3 : got ≤ sent
  case neg =>
    obtain rfl : r = false := by
      rw [HR.out, HE.out, decide_eq_false_iff_not]
      omega
    rw [qtyB_yes h1] at Q1
    go_enter Try.func39, Try.ntmps39
    go_wp2_with (go_at_call 51; refine (Q1 _).mono ?_; rintro e w' ⟨rfl, rfl⟩)
    go_ret
    exact ⟨by first | rfl | exact ret_no (p := no ≤ 999) (by omega) | exact ret_yes (p := no ≤ 999) (by omega) | exact ret_no (p := cut ≤ ordered - sent) (by omega) | exact ret_yes (p := cut ≤ ordered - sent) (by omega), HB.out _⟩
  by_cases h4 : sent ≤ ordered
  case neg =>
    obtain rfl : r = false := by
      rw [HR.out, HE.out, decide_eq_false_iff_not]
      omega
    rw [qtyB_yes h1] at Q1
    go_enter Try.func39, Try.ntmps39
    go_wp2_with (go_at_call 51; refine (Q1 _).mono ?_; rintro e w' ⟨rfl, rfl⟩)
    go_ret
    exact ⟨by first | rfl | exact ret_no (p := no ≤ 999) (by omega) | exact ret_yes (p := no ≤ 999) (by omega) | exact ret_no (p := cut ≤ ordered - sent) (by omega) | exact ret_yes (p := cut ≤ ordered - sent) (by omega), HB.out _⟩
  by_cases h5 : 0 ≤ cut
  case neg =>
    obtain rfl : r = false := by
      rw [HR.out, HE.out, decide_eq_false_iff_not]
      omega
    rw [qtyB_yes h1] at Q1
    go_enter Try.func39, Try.ntmps39
    go_wp2_with (go_at_call 51; refine (Q1 _).mono ?_; rintro e w' ⟨rfl, rfl⟩)
    go_ret
    exact ⟨by first | rfl | exact ret_no (p := no ≤ 999) (by omega) | exact ret_yes (p := no ≤ 999) (by omega) | exact ret_no (p := cut ≤ ordered - sent) (by omega) | exact ret_yes (p := cut ≤ ordered - sent) (by omega), HB.out _⟩
  by_cases h6 : cut ≤ ordered - sent
  case neg =>
    obtain rfl : r = false := by
      rw [HR.out, HE.out, decide_eq_false_iff_not]
      omega
    rw [qtyB_yes h1] at Q1
    go_enter Try.func39, Try.ntmps39
    go_wp2_with (go_at_call 51; refine (Q1 _).mono ?_; rintro e w' ⟨rfl, rfl⟩)
    go_ret
    exact ⟨by first | rfl | exact ret_no (p := no ≤ 999) (by omega) | exact ret_yes (p := no ≤ 999) (by omega) | exact ret_no (p := cut ≤ ordered - sent) (by omega) | exact ret_yes (p := cut ≤ ordered - sent) (by omega), HB.out _⟩
  obtain rfl : r = true := by
    rw [HR.out, HE.out, decide_eq_true_eq]
    omega
  rw [qtyB_yes h1] at Q1
  go_enter Try.func39, Try.ntmps39
  go_wp2_with (go_at_call 51; refine (Q1 _).mono ?_; rintro e w' ⟨rfl, rfl⟩)
  go_ret
  exact ⟨by first | rfl | exact ret_no (p := no ≤ 999) (by omega) | exact ret_yes (p := no ≤ 999) (by omega) | exact ret_no (p := cut ≤ ordered - sent) (by omega) | exact ret_yes (p := cut ≤ ordered - sent) (by omega), HB.out _⟩
set_option maxHeartbeats 2000000 in
theorem lineRight_impl (l : OLn) (w : World) : Calls Try.prog 26 #[.agg #[.string l.partner, .string l.ref, .int .i64 l.no, .string l.item, .int .i64 l.ordered, .int .i64 l.sent, .int .i64 l.got, .int .i64 l.cut]] w fun e w' => e = .returned (.bool (lnB l)) ∧ Below w.heap.size w w' := by
  have Q1 := named_any l
  have Q2 := counted_any l
  rw [lnB_split]
  obtain ⟨a, ha⟩ : ∃ a, a = nmdB l := ⟨_, rfl⟩
  obtain ⟨b, hb⟩ : ∃ b, b = cntB l := ⟨_, rfl⟩
  rw [← ha] at Q1
  rw [← hb] at Q2
  rw [← ha, ← hb]
  clear ha hb
  obtain ⟨partner, ref, no, item, ordered, sent, got, cut⟩ := l
  dsimp only at Q1 Q2 ⊢
  obtain ⟨W0, hW0⟩ : ∃ W0, w.alloc (.cells #[.string partner, .string ref, .int .i64 no, .string item, .int .i64 ordered, .int .i64 sent, .int .i64 got, .int .i64 cut] 31) = W0 := ⟨_, rfl⟩
  have hb0 : Below w.heap.size w W0 := by rw [← hW0]; exact (Below.refl _ _).alloc (Nat.le_refl _) _
  have hbx : W0.heap[w.heap.size]? = some (.cells #[.string partner, .string ref, .int .i64 no, .string item, .int .i64 ordered, .int .i64 sent, .int .i64 got, .int .i64 cut] 31) := by rw [← hW0]; exact World.alloc_heap_new _ _
  go_enter Try.func26, Try.ntmps26
  go_upto_region 1 with fail
  try rw [hW0]
  clear hW0
  have HC : Hid (∀ W, Below W0.heap.size W0 W → W.cell? ⟨w.heap.size, 0, none⟩ = some (.string partner) ∧ W.cell? ⟨w.heap.size, 1, none⟩ = some (.string ref) ∧ W.cell? ⟨w.heap.size, 2, none⟩ = some (.int .i64 no) ∧ W.cell? ⟨w.heap.size, 3, none⟩ = some (.string item) ∧ W.cell? ⟨w.heap.size, 4, none⟩ = some (.int .i64 ordered) ∧ W.cell? ⟨w.heap.size, 5, none⟩ = some (.int .i64 sent) ∧ W.cell? ⟨w.heap.size, 6, none⟩ = some (.int .i64 got) ∧ W.cell? ⟨w.heap.size, 7, none⟩ = some (.int .i64 cut)) := fun W hW => by
    have e := (hW.block _ (Array.getElem?_eq_some_iff.1 hbx).1).trans hbx
    refine ⟨?_, ?_, ?_, ?_, ?_, ?_, ?_, ?_⟩ <;> simp [World.cell?, e]
  have HB : Hid (Below w.heap.size w W0) := hb0
  clear hbx hb0
  obtain ⟨c0, c1, c2, c3, c4, c5, c6, c7⟩ := HC.out W0 (Below.refl _ _)
  go_wp2_with fail
  refine (Q1 _).mono ?_
  rintro e w1 ⟨rfl, hb1⟩
  obtain ⟨d0, d1, d2, d3, d4, d5, d6, d7⟩ := HC.out w1 hb1
  have H1 : Hid (Below w.heap.size w w1) := HB.out.trans (hb1.mono HB.out.size)
  clear hb1 c0 c1 c2 c3 c4 c5 c6 c7
  cases a
  · go_wp2
    go_ret
    exact ⟨rfl, H1.out⟩
  · go_wp2_with fail
    refine (Q2 _).mono ?_
    rintro e w2 ⟨rfl, hb2⟩
    have H2 : Hid (Below w.heap.size w w2) := H1.out.trans (hb2.mono H1.out.size)
    clear hb2
    go_wp2
    go_ret
    exact ⟨rfl, H2.out⟩
end Go.Proofs.Ytppfobeencnbdaa
