/- Texts of ours put together: LnI, LnC. -/
import Derived.Test.YtagajindaipaeaaGreatG28
import Derived.Shelf.RegionOpen
import Derived.Deep.QuietTactic
import Derived.BigQuiet
import Derived.BigRegion
import Derived.Deep.RegionHeld3
namespace Go.Proofs.YtagajindaipaeaaGreat
open Go.ChangeShapes Go.WideShapes Go.ChangeAt Go.RowKit
theorem box8 {W : World} {b t : Nat} {x0 x1 x2 x3 x4 x5 x6 x7 : Value} (h : W.heap[b]? = some (.cells #[x0, x1, x2, x3, x4, x5, x6, x7] t)) : W.cell? ⟨b, 0, none⟩ = some x0 ∧ W.cell? ⟨b, 1, none⟩ = some x1 ∧ W.cell? ⟨b, 2, none⟩ = some x2 ∧ W.cell? ⟨b, 3, none⟩ = some x3 ∧ W.cell? ⟨b, 4, none⟩ = some x4 ∧ W.cell? ⟨b, 5, none⟩ = some x5 ∧ W.cell? ⟨b, 6, none⟩ = some x6 ∧ W.cell? ⟨b, 7, none⟩ = some x7 := by
  refine ⟨?_, ?_, ?_, ?_, ?_, ?_, ?_, ?_⟩ <;> simp [World.cell?, h]
theorem ret_no {p : Prop} [Decidable p] (h : ¬ p) : Ending.returned (.bool (decide p)) = .returned (.bool false) := by rw [decide_eq_false h]
theorem ret_yes {p : Prop} [Decidable p] (h : p) : Ending.returned (.bool (decide p)) = .returned (.bool true) := by rw [decide_eq_true h]
theorem isQuantity_any (z : Int) (w : World) : Calls Tryz.prog 194 #[.int .i64 z] w fun e w' => e = .returned (.bool (qtyB z)) ∧ w' = w := by
  by_cases h1 : 1 ≤ z
  · by_cases h2 : z ≤ 1000000
    · rw [qtyB_yes ⟨h1, h2⟩]
      go_enter Tryz.func194, Tryz.ntmps194
      go_wp2
      go_ret
      exact ⟨by first | rfl | exact ret_yes (p := z ≤ 1000000) (by omega), rfl⟩
    · rw [qtyB_no (by omega)]
      go_enter Tryz.func194, Tryz.ntmps194
      go_wp2
      go_ret
      exact ⟨by first | rfl | exact ret_no (p := z ≤ 1000000) (by omega), rfl⟩
  · rw [qtyB_no (by omega)]
    go_enter Tryz.func194, Tryz.ntmps194
    go_wp2
    go_ret
    exact ⟨rfl, rfl⟩
set_option maxHeartbeats 2000000 in
theorem named_any (l : OLn) (w : World) : Calls Tryz.prog 180 #[.agg #[.string l.partner, .string l.ref, .int .i64 l.no, .string l.item, .int .i64 l.ordered, .int .i64 l.sent, .int .i64 l.got, .int .i64 l.cut]] w fun e w' => e = .returned (.bool (nmdB l)) ∧ Below w.heap.size w w' := by
  have HE : Hid (nmdB l = (nameB l.partner && (nameB l.ref && (nameB l.item && decide (1 ≤ l.no ∧ l.no ≤ 999))))) := rfl
  obtain ⟨r, hr⟩ : ∃ r, r = nmdB l := ⟨_, rfl⟩
  have HR : Hid (r = nmdB l) := hr
  rw [← hr]
  clear hr
  obtain ⟨partner, ref, no, item, ordered, sent, got, cut⟩ := l
  dsimp only at HE ⊢
  have HB : Hid (∀ o, Below w.heap.size w (w.alloc o)) := fun o => (Below.refl _ _).alloc (Nat.le_refl _) _
  have Q1 := isName_any partner
  have Q2 := isName_any ref
  have Q3 := isName_any item
  cases h1 : nameB partner
  · obtain rfl : r = false := by rw [HR.out, HE.out, h1]; rfl
    rw [h1] at Q1
    go_enter Tryz.func180, Tryz.ntmps180
    go_wp2_with (go_at_call 40; refine (Q1 _).mono ?_; rintro e w' ⟨rfl, rfl⟩)
    go_ret
    exact ⟨by first | rfl | exact ret_no (p := no ≤ 999) (by omega) | exact ret_yes (p := no ≤ 999) (by omega) | exact ret_no (p := cut ≤ ordered - sent) (by omega) | exact ret_yes (p := cut ≤ ordered - sent) (by omega), HB.out _⟩
  cases h2 : nameB ref
  · obtain rfl : r = false := by rw [HR.out, HE.out, h1, h2]; rfl
    rw [h1] at Q1
    rw [h2] at Q2
    go_enter Tryz.func180, Tryz.ntmps180
    go_wp2_with (first | (go_at_call_of 40 (Value.string partner); refine (Q1 _).mono ?_; rintro e w' ⟨rfl, rfl⟩) | (go_at_call_of 40 (Value.string ref); refine (Q2 _).mono ?_; rintro e w' ⟨rfl, rfl⟩))
    go_ret
    exact ⟨by first | rfl | exact ret_no (p := no ≤ 999) (by omega) | exact ret_yes (p := no ≤ 999) (by omega) | exact ret_no (p := cut ≤ ordered - sent) (by omega) | exact ret_yes (p := cut ≤ ordered - sent) (by omega), HB.out _⟩
  cases h3 : nameB item
  · obtain rfl : r = false := by rw [HR.out, HE.out, h1, h2, h3]; rfl
    rw [h1] at Q1
    rw [h2] at Q2
    rw [h3] at Q3
    go_enter Tryz.func180, Tryz.ntmps180
    go_wp2_with (first | (go_at_call_of 40 (Value.string partner); refine (Q1 _).mono ?_; rintro e w' ⟨rfl, rfl⟩) | (go_at_call_of 40 (Value.string ref); refine (Q2 _).mono ?_; rintro e w' ⟨rfl, rfl⟩) | (go_at_call_of 40 (Value.string item); refine (Q3 _).mono ?_; rintro e w' ⟨rfl, rfl⟩))
    go_ret
    exact ⟨by first | rfl | exact ret_no (p := no ≤ 999) (by omega) | exact ret_yes (p := no ≤ 999) (by omega) | exact ret_no (p := cut ≤ ordered - sent) (by omega) | exact ret_yes (p := cut ≤ ordered - sent) (by omega), HB.out _⟩
  rw [h1] at Q1
  rw [h2] at Q2
  rw [h3] at Q3
  by_cases h4 : 1 ≤ no
  · by_cases h5 : no ≤ 999
    · obtain rfl : r = true := by rw [HR.out, HE.out, h1, h2, h3]; simp [h4, h5]
      go_enter Tryz.func180, Tryz.ntmps180
      go_wp2_with (first | (go_at_call_of 40 (Value.string partner); refine (Q1 _).mono ?_; rintro e w' ⟨rfl, rfl⟩) | (go_at_call_of 40 (Value.string ref); refine (Q2 _).mono ?_; rintro e w' ⟨rfl, rfl⟩) | (go_at_call_of 40 (Value.string item); refine (Q3 _).mono ?_; rintro e w' ⟨rfl, rfl⟩))
      go_ret
      exact ⟨by first | rfl | exact ret_no (p := no ≤ 999) (by omega) | exact ret_yes (p := no ≤ 999) (by omega) | exact ret_no (p := cut ≤ ordered - sent) (by omega) | exact ret_yes (p := cut ≤ ordered - sent) (by omega), HB.out _⟩
    · obtain rfl : r = false := by rw [HR.out, HE.out, h1, h2, h3]; simp [h4, h5]
      go_enter Tryz.func180, Tryz.ntmps180
      go_wp2_with (first | (go_at_call_of 40 (Value.string partner); refine (Q1 _).mono ?_; rintro e w' ⟨rfl, rfl⟩) | (go_at_call_of 40 (Value.string ref); refine (Q2 _).mono ?_; rintro e w' ⟨rfl, rfl⟩) | (go_at_call_of 40 (Value.string item); refine (Q3 _).mono ?_; rintro e w' ⟨rfl, rfl⟩))
      go_ret
      exact ⟨by first | rfl | exact ret_no (p := no ≤ 999) (by omega) | exact ret_yes (p := no ≤ 999) (by omega) | exact ret_no (p := cut ≤ ordered - sent) (by omega) | exact ret_yes (p := cut ≤ ordered - sent) (by omega), HB.out _⟩
  · obtain rfl : r = false := by rw [HR.out, HE.out, h1, h2, h3]; simp [h4]
    go_enter Tryz.func180, Tryz.ntmps180
    go_wp2_with (first | (go_at_call_of 40 (Value.string partner); refine (Q1 _).mono ?_; rintro e w' ⟨rfl, rfl⟩) | (go_at_call_of 40 (Value.string ref); refine (Q2 _).mono ?_; rintro e w' ⟨rfl, rfl⟩) | (go_at_call_of 40 (Value.string item); refine (Q3 _).mono ?_; rintro e w' ⟨rfl, rfl⟩))
    go_ret
    exact ⟨by first | rfl | exact ret_no (p := no ≤ 999) (by omega) | exact ret_yes (p := no ≤ 999) (by omega) | exact ret_no (p := cut ≤ ordered - sent) (by omega) | exact ret_yes (p := cut ≤ ordered - sent) (by omega), HB.out _⟩
set_option maxHeartbeats 2000000 in
theorem counted_any (l : OLn) (w : World) : Calls Tryz.prog 181 #[.agg #[.string l.partner, .string l.ref, .int .i64 l.no, .string l.item, .int .i64 l.ordered, .int .i64 l.sent, .int .i64 l.got, .int .i64 l.cut]] w fun e w' => e = .returned (.bool (cntB l)) ∧ Below w.heap.size w w' := by
  have HE : Hid (cntB l = decide (1 ≤ l.ordered ∧ l.ordered ≤ 1000000 ∧ 0 ≤ l.got ∧ l.got ≤ l.sent ∧ l.sent ≤ l.ordered ∧ 0 ≤ l.cut ∧ l.cut ≤ l.ordered - l.sent)) := rfl
  obtain ⟨r, hr⟩ : ∃ r, r = cntB l := ⟨_, rfl⟩
  have HR : Hid (r = cntB l) := hr
  rw [← hr]
  clear hr
  obtain ⟨partner, ref, no, item, ordered, sent, got, cut⟩ := l
  dsimp only at HE ⊢
  have HB : Hid (∀ o, Below w.heap.size w (w.alloc o)) := fun o => (Below.refl _ _).alloc (Nat.le_refl _) _
  have Q1 := isQuantity_any ordered
  by_cases h1 : 1 ≤ ordered ∧ ordered ≤ 1000000
  case neg =>
    obtain rfl : r = false := by
      rw [HR.out, HE.out, decide_eq_false_iff_not]
      omega
    rw [qtyB_no h1] at Q1
    go_enter Tryz.func181, Tryz.ntmps181
    go_wp2_with (go_at_call 194; refine (Q1 _).mono ?_; rintro e w' ⟨rfl, rfl⟩)
    go_ret
    exact ⟨by first | rfl | exact ret_no (p := no ≤ 999) (by omega) | exact ret_yes (p := no ≤ 999) (by omega) | exact ret_no (p := cut ≤ ordered - sent) (by omega) | exact ret_yes (p := cut ≤ ordered - sent) (by omega), HB.out _⟩
  by_cases h2 : 0 ≤ got
  case neg =>
    obtain rfl : r = false := by
      rw [HR.out, HE.out, decide_eq_false_iff_not]
      omega
    rw [qtyB_yes h1] at Q1
    go_enter Tryz.func181, Tryz.ntmps181
    go_wp2_with (go_at_call 194; refine (Q1 _).mono ?_; rintro e w' ⟨rfl, rfl⟩)
    go_ret
    exact ⟨by first | rfl | exact ret_no (p := no ≤ 999) (by omega) | exact ret_yes (p := no ≤ 999) (by omega) | exact ret_no (p := cut ≤ ordered - sent) (by omega) | exact ret_yes (p := cut ≤ ordered - sent) (by omega), HB.out _⟩
  by_cases h3 : got ≤ sent
  case neg =>
    obtain rfl : r = false := by
      rw [HR.out, HE.out, decide_eq_false_iff_not]
      omega
    rw [qtyB_yes h1] at Q1
    go_enter Tryz.func181, Tryz.ntmps181
    go_wp2_with (go_at_call 194; refine (Q1 _).mono ?_; rintro e w' ⟨rfl, rfl⟩)
    go_ret
    exact ⟨by first | rfl | exact ret_no (p := no ≤ 999) (by omega) | exact ret_yes (p := no ≤ 999) (by omega) | exact ret_no (p := cut ≤ ordered - sent) (by omega) | exact ret_yes (p := cut ≤ ordered - sent) (by omega), HB.out _⟩
  by_cases h4 : sent ≤ ordered
  case neg =>
    obtain rfl : r = false := by
      rw [HR.out, HE.out, decide_eq_false_iff_not]
      omega
    rw [qtyB_yes h1] at Q1
    go_enter Tryz.func181, Tryz.ntmps181
    go_wp2_with (go_at_call 194; refine (Q1 _).mono ?_; rintro e w' ⟨rfl, rfl⟩)
    go_ret
    exact ⟨by first | rfl | exact ret_no (p := no ≤ 999) (by omega) | exact ret_yes (p := no ≤ 999) (by omega) | exact ret_no (p := cut ≤ ordered - sent) (by omega) | exact ret_yes (p := cut ≤ ordered - sent) (by omega), HB.out _⟩
  by_cases h5 : 0 ≤ cut
  case neg =>
    obtain rfl : r = false := by
      rw [HR.out, HE.out, decide_eq_false_iff_not]
      omega
    rw [qtyB_yes h1] at Q1
    go_enter Tryz.func181, Tryz.ntmps181
    go_wp2_with (go_at_call 194; refine (Q1 _).mono ?_; rintro e w' ⟨rfl, rfl⟩)
    go_ret
    exact ⟨by first | rfl | exact ret_no (p := no ≤ 999) (by omega) | exact ret_yes (p := no ≤ 999) (by omega) | exact ret_no (p := cut ≤ ordered - sent) (by omega) | exact ret_yes (p := cut ≤ ordered - sent) (by omega), HB.out _⟩
  by_cases h6 : cut ≤ ordered - sent
  case neg =>
    obtain rfl : r = false := by
      rw [HR.out, HE.out, decide_eq_false_iff_not]
      omega
    rw [qtyB_yes h1] at Q1
    go_enter Tryz.func181, Tryz.ntmps181
    go_wp2_with (go_at_call 194; refine (Q1 _).mono ?_; rintro e w' ⟨rfl, rfl⟩)
    go_ret
    exact ⟨by first | rfl | exact ret_no (p := no ≤ 999) (by omega) | exact ret_yes (p := no ≤ 999) (by omega) | exact ret_no (p := cut ≤ ordered - sent) (by omega) | exact ret_yes (p := cut ≤ ordered - sent) (by omega), HB.out _⟩
  obtain rfl : r = true := by
    rw [HR.out, HE.out, decide_eq_true_eq]
    omega
  rw [qtyB_yes h1] at Q1
  go_enter Tryz.func181, Tryz.ntmps181
  go_wp2_with (go_at_call 194; refine (Q1 _).mono ?_; rintro e w' ⟨rfl, rfl⟩)
  go_ret
  exact ⟨by first | rfl | exact ret_no (p := no ≤ 999) (by omega) | exact ret_yes (p := no ≤ 999) (by omega) | exact ret_no (p := cut ≤ ordered - sent) (by omega) | exact ret_yes (p := cut ≤ ordered - sent) (by omega), HB.out _⟩
set_option maxHeartbeats 2000000 in
theorem lineRight_impl (l : OLn) (w : World) : Calls Tryz.prog 159 #[.agg #[.string l.partner, .string l.ref, .int .i64 l.no, .string l.item, .int .i64 l.ordered, .int .i64 l.sent, .int .i64 l.got, .int .i64 l.cut]] w fun e w' => e = .returned (.bool (lnB l)) ∧ Below w.heap.size w w' := by
  have Q1 := named_any l
  have Q2 := counted_any l
  rw [lnB_split]
  obtain ⟨a, ha⟩ : ∃ a, a = nmdB l := ⟨_, rfl⟩
  obtain ⟨b, hb⟩ : ∃ b, b = cntB l := ⟨_, rfl⟩
  rw [← ha] at Q1
  rw [← hb] at Q2
  rw [← ha, ← hb]
  clear ha hb
  obtain ⟨partner, ref, no, item, ordered, sent, got, cut⟩ := l
  dsimp only at Q1 Q2 ⊢
  obtain ⟨W0, hW0⟩ : ∃ W0, w.alloc (.cells #[.string partner, .string ref, .int .i64 no, .string item, .int .i64 ordered, .int .i64 sent, .int .i64 got, .int .i64 cut] 173) = W0 := ⟨_, rfl⟩
  have hb0 : Below w.heap.size w W0 := by rw [← hW0]; exact (Below.refl _ _).alloc (Nat.le_refl _) _
  have hbx : W0.heap[w.heap.size]? = some (.cells #[.string partner, .string ref, .int .i64 no, .string item, .int .i64 ordered, .int .i64 sent, .int .i64 got, .int .i64 cut] 173) := by rw [← hW0]; exact World.alloc_heap_new _ _
  go_enter Tryz.func159, Tryz.ntmps159
  go_upto_region 1 with fail
  try rw [hW0]
  clear hW0
  have HC : Hid (∀ W, Below W0.heap.size W0 W → W.cell? ⟨w.heap.size, 0, none⟩ = some (.string partner) ∧ W.cell? ⟨w.heap.size, 1, none⟩ = some (.string ref) ∧ W.cell? ⟨w.heap.size, 2, none⟩ = some (.int .i64 no) ∧ W.cell? ⟨w.heap.size, 3, none⟩ = some (.string item) ∧ W.cell? ⟨w.heap.size, 4, none⟩ = some (.int .i64 ordered) ∧ W.cell? ⟨w.heap.size, 5, none⟩ = some (.int .i64 sent) ∧ W.cell? ⟨w.heap.size, 6, none⟩ = some (.int .i64 got) ∧ W.cell? ⟨w.heap.size, 7, none⟩ = some (.int .i64 cut)) := fun W hW => by
    have e := (hW.block _ (Array.getElem?_eq_some_iff.1 hbx).1).trans hbx
    refine ⟨?_, ?_, ?_, ?_, ?_, ?_, ?_, ?_⟩ <;> simp [World.cell?, e]
  have HB : Hid (Below w.heap.size w W0) := hb0
  clear hbx hb0
  obtain ⟨c0, c1, c2, c3, c4, c5, c6, c7⟩ := HC.out W0 (Below.refl _ _)
  go_wp2_with fail
  refine (Q1 _).mono ?_
  rintro e w1 ⟨rfl, hb1⟩
  obtain ⟨d0, d1, d2, d3, d4, d5, d6, d7⟩ := HC.out w1 hb1
  have H1 : Hid (Below w.heap.size w w1) := HB.out.trans (hb1.mono HB.out.size)
  clear hb1 c0 c1 c2 c3 c4 c5 c6 c7
  cases a
  · go_wp2
    go_ret
    exact ⟨rfl, H1.out⟩
  · go_wp2_with fail
    refine (Q2 _).mono ?_
    rintro e w2 ⟨rfl, hb2⟩
    have H2 : Hid (Below w.heap.size w w2) := H1.out.trans (hb2.mono H1.out.size)
    clear hb2
    go_wp2
    go_ret
    exact ⟨rfl, H2.out⟩
end Go.Proofs.YtagajindaipaeaaGreat
namespace Go.Proofs.YtagajindaipaeaaGreat
open Go.ChangeShapes Go.WideShapes Go.ChangeAt Go.RowKit
open Go.Lib (compareBytes)
theorem fl_two (w : World) (a b : Obj) : ((w.alloc a).alloc b).heap[w.heap.size]? = some a ∧ ((w.alloc a).alloc b).heap[w.heap.size + 1]? = some b := by
  have e : ((w.alloc a).alloc b).heap = (w.heap.push a).push b := rfl
  rw [e]
  simp only [Array.getElem?_push, Array.size_push]
  refine ⟨?_, ?_⟩
  · rw [if_neg (by omega), if_pos trivial]
  · rw [if_pos trivial]
theorem cell_new (W : World) (c : Array Value) (t i : Nat) (x : Value) (h : c[i]? = some x) : (W.alloc (.cells c t)).cell? ⟨W.heap.size, i, none⟩ = some x := by
  have e := World.alloc_heap_new W (.cells c t)
  unfold World.cell?
  rw [e]
  exact h
set_option maxRecDepth 100000 in
theorem compareString_any (a b : ByteArray) (w : World) : Calls Tryz.prog 171 #[.string a, .string b] w fun e w' => e = .returned (.int .i64 (compareBytes a.data.toList b.data.toList)) ∧ w' = w := by
  go_enter Tryz.func171, Tryz.ntmps171
  go_wp2
  rw [run_callFunc_extern Tryz.func190 (by kernel_rfl) (by kernel_rfl) (by kernel_rfl) (e := Extern.BytealgCompare.compare) (by kernel_rfl), Lib.run_compareString]
  simp only [Result.andThen]
  rw [Oper.upon_value]
  go_wp2
  go_ret
  exact ⟨rfl, rfl⟩
theorem compare_any (a b : ByteArray) (w : World) : Calls Tryz.prog 137 #[.string a, .string b] w fun e w' => e = .returned (.int .i64 (compareBytes a.data.toList b.data.toList)) ∧ w' = w := by
  go_enter Tryz.func137, Tryz.ntmps137
  go_wp2_with (go_at_call 171; refine (compareString_any _ _ _).mono ?_; rintro e w' ⟨rfl, rfl⟩)
  go_ret
  exact ⟨rfl, rfl⟩
theorem isNaN_any (x : Int) (w : World) : Calls Tryz.prog 182 #[.int .i64 x] w fun e w' => e = .returned (.bool false) ∧ w' = w := by
  go_enter Tryz.func182, Tryz.ntmps182
  go_wp2
  go_ret
  exact ⟨by first | rfl | simp, rfl⟩
theorem cmpI_any (x y : Int) (w : World) : Calls Tryz.prog 162 #[.int .i64 x, .int .i64 y] w fun e w' => e = .returned (.int .i64 (cmpZ x y)) ∧ w' = w := by
  rcases Int.lt_trichotomy x y with h | h | h
  · have HE : Hid (cmpZ x y = -1) := by show cmpZ x y = -1; unfold cmpZ; rw [if_pos h]
    go_enter Tryz.func162, Tryz.ntmps162
    go_wp2_with (go_at_call 182; refine (isNaN_any _ _).mono ?_; rintro e w' ⟨rfl, rfl⟩)
    go_ret
    exact ⟨by rw [HE.out]; rfl, rfl⟩
  · subst h
    have HE : Hid (cmpZ x x = 0) := by show cmpZ x x = 0; unfold cmpZ; rw [if_neg (by omega), if_neg (by omega)]
    go_enter Tryz.func162, Tryz.ntmps162
    go_wp2_with (go_at_call 182; refine (isNaN_any _ _).mono ?_; rintro e w' ⟨rfl, rfl⟩)
    go_ret
    exact ⟨by rw [HE.out]; rfl, rfl⟩
  · have HE : Hid (cmpZ x y = 1) := by show cmpZ x y = 1; unfold cmpZ; rw [if_neg (by omega), if_pos h]
    go_enter Tryz.func162, Tryz.ntmps162
    go_wp2_with (go_at_call 182; refine (isNaN_any _ _).mono ?_; rintro e w' ⟨rfl, rfl⟩)
    go_ret
    exact ⟨by rw [HE.out]; rfl, rfl⟩
set_option maxHeartbeats 1000000 in
/-- cmp.Or of three numbers. -/
theorem or3_any (x y z : Int) (B : Nat) (w : World) (h0 : w.cell? ⟨B, 0, none⟩ = some (.int .i64 x)) (h1 : w.cell? ⟨B, 1, none⟩ = some (.int .i64 y)) (h2 : w.cell? ⟨B, 2, none⟩ = some (.int .i64 z)) :
    Calls Tryz.prog 161 #[.slice (some ⟨B, 0, none⟩) 3 3] w fun e w' => e = .returned (.int .i64 (orZ x (orZ y z))) ∧ w' = w := by
  unfold orZ
  go_enter Tryz.func161, Tryz.ntmps161
  go_wp2
  by_cases hx : x = 0
  · subst hx
    by_cases hy : y = 0
    · subst hy
      by_cases hz : z = 0
      · subst hz
        go_loopw [8] (fun i wr => ∃ k : Nat, i = .int .i64 (k : Int) ∧ k ≤ 3 ∧ wr = w) (fun i _ => 3 - (intOf i).toNat)
        case atStart => exact ⟨0, rfl, by omega, rfl⟩
        case round =>
          obtain ⟨k, rfl, hk, rfl⟩ := hrel
          obtain rfl | rfl | rfl | rfl : k = 0 ∨ k = 1 ∨ k = 2 ∨ k = 3 := by omega
          · go_wp2
            go_roundw
            case rel => exact ⟨1, by go_num, by omega, trivial⟩
            case measure => simp [intOf]
          · go_wp2
            go_roundw
            case rel => exact ⟨2, by go_num, by omega, trivial⟩
            case measure => simp [intOf]
          · go_wp2
            go_roundw
            case rel => exact ⟨3, by go_num, by omega, trivial⟩
            case measure => simp [intOf]
          · go_wp2
            go_ret
            exact ⟨by first | rfl | simp, rfl⟩
      · go_loopw [8] (fun i wr => ∃ k : Nat, i = .int .i64 (k : Int) ∧ k ≤ 2 ∧ wr = w) (fun i _ => 3 - (intOf i).toNat)
        case atStart => exact ⟨0, rfl, by omega, rfl⟩
        case round =>
          obtain ⟨k, rfl, hk, rfl⟩ := hrel
          obtain rfl | rfl | rfl : k = 0 ∨ k = 1 ∨ k = 2 := by omega
          · go_wp2
            go_roundw
            case rel => exact ⟨1, by go_num, by omega, trivial⟩
            case measure => simp [intOf]
          · go_wp2
            go_roundw
            case rel => exact ⟨2, by go_num, by omega, trivial⟩
            case measure => simp [intOf]
          · go_wp2
            go_ret
            exact ⟨by first | rfl | simp, rfl⟩
    · go_loopw [8] (fun i wr => ∃ k : Nat, i = .int .i64 (k : Int) ∧ k ≤ 1 ∧ wr = w) (fun i _ => 3 - (intOf i).toNat)
      case atStart => exact ⟨0, rfl, by omega, rfl⟩
      case round =>
        obtain ⟨k, rfl, hk, rfl⟩ := hrel
        obtain rfl | rfl : k = 0 ∨ k = 1 := by omega
        · go_wp2
          go_roundw
          case rel => exact ⟨1, by go_num, by omega, trivial⟩
          case measure => simp [intOf]
        · go_wp2
          go_ret
          exact ⟨by first | rfl | simp, rfl⟩
  · go_loopw [8] (fun i wr => i = .int .i64 0 ∧ wr = w) (fun i _ => 3 - (intOf i).toNat)
    case atStart => exact ⟨rfl, rfl⟩
    case round =>
      obtain ⟨rfl, rfl⟩ := hrel
      go_wp2
      go_ret
      exact ⟨rfl, rfl⟩
set_option maxHeartbeats 4000000 in
/-- compare. -/
theorem lcmp_grows (a b : OLn) (w : World) : Calls Tryz.prog 160 #[.agg #[.string a.partner, .string a.ref, .int .i64 a.no, .string a.item, .int .i64 a.ordered, .int .i64 a.sent, .int .i64 a.got, .int .i64 a.cut], .agg #[.string b.partner, .string b.ref, .int .i64 b.no, .string b.item, .int .i64 b.ordered, .int .i64 b.sent, .int .i64 b.got, .int .i64 b.cut]] w fun e w' => e = .returned (.int .i64 (lcmp a b)) ∧ ∃ o1 o2 o3, w' = (((w.alloc o1).alloc o2).alloc o3).drew := by
  unfold lcmp
  obtain ⟨a_partner, a_ref, a_no, a_item, a_ordered, a_sent, a_got, a_cut⟩ := a
  obtain ⟨b_partner, b_ref, b_no, b_item, b_ordered, b_sent, b_got, b_cut⟩ := b
  dsimp only
  obtain ⟨W0, hW0⟩ : ∃ W0, ((w.alloc (.cells #[.string a_partner, .string a_ref, .int .i64 a_no, .string a_item, .int .i64 a_ordered, .int .i64 a_sent, .int .i64 a_got, .int .i64 a_cut] 173)).alloc (.cells #[.string b_partner, .string b_ref, .int .i64 b_no, .string b_item, .int .i64 b_ordered, .int .i64 b_sent, .int .i64 b_got, .int .i64 b_cut] 173)) = W0 := ⟨_, rfl⟩
  have HW : Hid (∃ o1 o2, W0 = (w.alloc o1).alloc o2) := ⟨_, _, hW0.symm⟩
  have hB : W0.heap.size = w.heap.size + 2 := by rw [← hW0]; simp
  go_enter Tryz.func160, Tryz.ntmps160
  go_upto_region 1 with fail
  try rw [hW0]
  obtain ⟨k0, k1⟩ := fl_two w (.cells #[.string a_partner, .string a_ref, .int .i64 a_no, .string a_item, .int .i64 a_ordered, .int .i64 a_sent, .int .i64 a_got, .int .i64 a_cut] 173) (.cells #[.string b_partner, .string b_ref, .int .i64 b_no, .string b_item, .int .i64 b_ordered, .int .i64 b_sent, .int .i64 b_got, .int .i64 b_cut] 173)
  rw [hW0] at k0 k1
  obtain ⟨z0, z1, z2, _⟩ := box8 k0
  obtain ⟨y0, y1, y2, _⟩ := box8 k1
  clear k0 k1 hW0
  have HN : Hid (∀ x y z : Int, (W0.alloc (.cells #[.int .i64 x, .int .i64 y, .int .i64 z] 3)).drew.cell? ⟨w.heap.size + 2, 0, none⟩ = some (.int .i64 x) ∧ (W0.alloc (.cells #[.int .i64 x, .int .i64 y, .int .i64 z] 3)).drew.cell? ⟨w.heap.size + 2, 1, none⟩ = some (.int .i64 y) ∧ (W0.alloc (.cells #[.int .i64 x, .int .i64 y, .int .i64 z] 3)).drew.cell? ⟨w.heap.size + 2, 2, none⟩ = some (.int .i64 z)) := fun x y z => by
    rw [← hB]
    exact ⟨cell_new W0 _ _ 0 _ rfl, cell_new W0 _ _ 1 _ rfl, cell_new W0 _ _ 2 _ rfl⟩
  go_region_held3 (fun W => W.cell? ⟨w.heap.size, 0, none⟩ = some (.string a_partner) ∧ W.cell? ⟨w.heap.size, 1, none⟩ = some (.string a_ref) ∧ W.cell? ⟨w.heap.size, 2, none⟩ = some (.int .i64 a_no) ∧ W.cell? ⟨w.heap.size + 1, 0, none⟩ = some (.string b_partner) ∧ W.cell? ⟨w.heap.size + 1, 1, none⟩ = some (.string b_ref) ∧ W.cell? ⟨w.heap.size + 1, 2, none⟩ = some (.int .i64 b_no)) (go_keep) (first | (go_at_call 137; refine (compare_any _ _ _).mono ?_; rintro e w2 ⟨rfl, rfl⟩) | (go_at_call 162; refine (cmpI_any _ _ _).mono ?_; rintro e w2 ⟨rfl, rfl⟩) | (go_at_call 161; refine (or3_any _ _ _ _ _ (HN.out _ _ _).1 (HN.out _ _ _).2.1 (HN.out _ _ _).2.2).mono ?_; rintro e w3 ⟨rfl, rfl⟩))
  rename_i hHeld
  clear hHeld
  go_wp2
  go_ret
  obtain ⟨o1, o2, e⟩ := HW.out
  exact ⟨rfl, o1, o2, _, by rw [e]⟩
theorem lcmp_any (a b : OLn) (w : World) : Calls Tryz.prog 160 #[.agg #[.string a.partner, .string a.ref, .int .i64 a.no, .string a.item, .int .i64 a.ordered, .int .i64 a.sent, .int .i64 a.got, .int .i64 a.cut], .agg #[.string b.partner, .string b.ref, .int .i64 b.no, .string b.item, .int .i64 b.ordered, .int .i64 b.sent, .int .i64 b.got, .int .i64 b.cut]] w fun e w' => e = .returned (.int .i64 (lcmp a b)) ∧ Below w.heap.size w w' :=
  (lcmp_grows a b w).mono fun _ _ ⟨he, o1, o2, o3, hw⟩ => ⟨he, by rw [hw]; exact ((((Below.refl _ _).alloc (Nat.le_refl _) _).alloc (by simp) _).alloc (by simp; omega) _).drew⟩
end Go.Proofs.YtagajindaipaeaaGreat
