/- FnLineSums returns true at every text and leaves it as it was: of a drawn order line all that was ordered is got, in transit, open or cut, ahead of a posting and behind it, and what fits and what is over are what was posted; no condition. -/
import Derived.Test.YtnfidhfhmfggcaaLnE
import Derived.Test.YtnfidhfhmfggcaaLnU
import Derived.Test.YtnfidhfhmfggcaaLnV
import Derived.Test.YtnfidhfhmfggcaaLnO
import Derived.Deep.RegionHeld3
import Derived.Deep.Cut
import Derived.Deep.CutRange
import Derived.Deep.QuietTactic
import Derived.BigQuiet
import Derived.BigRegion
import Derived.Shelf.SlSortCmp.QuietGrown
namespace Go.Proofs.Ytnfidhfhmfggcaa
open Go.ChangeShapes Go.WideShapes Go.ChangeAt Go.RowKit
open Go.Sort (grow)
set_option linter.unusedVariables false
namespace fnLineSums
def IsRow (k : IntKind) (w : World) (a : Option Addr) (len cap : Nat) (zs : List Int) : Prop :=
  (a = none ∧ len = 0 ∧ cap = 0 ∧ zs = []) ∨
  ∃ x, a = some x ∧ len ≤ cap ∧ cap ≤ maxLen ∧ zs.length = cap ∧ (∀ i, i < zs.length → w.cell? (x.add i) = some (.int k (zs.getD i 0))) ∧ ∀ n ∈ zs, (Lit.int k n).wf = true
theorem IsRow.bytesAt {w : World} {a : Option Addr} {len cap : Nat} {zs : List Int} (h : IsRow .u8 w a len cap zs) : BytesAt w a len zs := by
  intro g
  rcases h with ⟨_, rfl, _, _⟩ | ⟨x, rfl, hl, _, hz, hc, _⟩
  · omega
  · obtain ⟨b, off, spot⟩ := x
    have h0 := hc 0 (by omega)
    have hspot : spot = none := by simpa [Addr.add] using World.cell?_spot h0
    subst hspot
    refine ⟨b, off, rfl, fun i hi => ?_⟩
    have hplain : (⟨b, off, none⟩ : Addr).add i = ⟨b, off + i, none⟩ := by unfold Addr.add; split <;> simp_all
    have := hc i (by omega)
    rw [hplain] at this
    simpa [List.getD] using this
theorem IsRow.len_le {w : World} {a : Option Addr} {len cap : Nat} {zs : List Int} (h : IsRow .u8 w a len cap zs) : len ≤ 9223372036854775807 := by
  rcases h with ⟨_, rfl, _, _⟩ | ⟨x, rfl, hl, hm, hz, hc, _⟩
  · omega
  · unfold maxLen at hm
    omega
theorem wrapI {z : Int} (h1 : -9223372036854775808 ≤ z) (h2 : z ≤ 9223372036854775807) : IntKind.i64.wrap z = z := by
  simp [IntKind.wrap, IntKind.bits, IntKind.signed]
  omega
theorem lwMost_grw1 (l : OLn) (h : 1 ≤ l.ordered ∧ l.ordered ≤ 1000000 ∧ 0 ≤ l.sent ∧ 0 ≤ l.got ∧ 0 ≤ l.cut ∧ l.got ≤ l.sent ∧ l.sent ≤ l.ordered ∧ l.cut ≤ l.ordered - l.sent) (w : World) : Calls Try.prog 11 #[.agg #[.string l.partner, .string l.ref, .int .i64 l.no, .string l.item, .int .i64 l.ordered, .int .i64 l.sent, .int .i64 l.got, .int .i64 l.cut], .int .i64 3] w fun e w' => e = .returned (.int .i64 (l.sent - l.got)) ∧ ∃ q os', w' = Go.Sort.grow (w.drewN q) os' := by
  obtain ⟨k0, k1, k2, k3, k4, k5, k6, k7⟩ := h
  have HB : Hid (∀ o, Grw w (w.alloc o)) := fun o => .one w o
  go_enter Try.func11, Try.ntmps11
  go_wp2
  go_ret
  exact ⟨rfl, HB.out _⟩
theorem lwMost_grw0 (l : OLn) (kind : Int) (hk : kind ≠ 3) (h : 1 ≤ l.ordered ∧ l.ordered ≤ 1000000 ∧ 0 ≤ l.sent ∧ 0 ≤ l.got ∧ 0 ≤ l.cut ∧ l.got ≤ l.sent ∧ l.sent ≤ l.ordered ∧ l.cut ≤ l.ordered - l.sent) (w : World) : Calls Try.prog 11 #[.agg #[.string l.partner, .string l.ref, .int .i64 l.no, .string l.item, .int .i64 l.ordered, .int .i64 l.sent, .int .i64 l.got, .int .i64 l.cut], .int .i64 kind] w fun e w' => e = .returned (.int .i64 (l.ordered - l.sent - l.cut)) ∧ ∃ q os', w' = Go.Sort.grow (w.drewN q) os' := by
  obtain ⟨k0, k1, k2, k3, k4, k5, k6, k7⟩ := h
  have HB : Hid (∀ o, Grw w (w.alloc o)) := fun o => .one w o
  go_enter Try.func11, Try.ntmps11
  go_wp2
  go_ret
  exact ⟨rfl, HB.out _⟩
set_option maxRecDepth 100000 in
set_option maxHeartbeats 8000000 in
theorem walk (a0 : Option Addr) (len0 cap0 : Nat) (z0 : List Int) (w : World) (w0 : IsRow .u8 w a0 len0 cap0 z0) :
    Calls Try.prog 3 #[.slice a0 len0 cap0] w fun e w' => e = .returned (.bool true) ∧ Below w.heap.size w w' := by
  have hl0 := w0.len_le
  have HR : Hid (BytesAt w a0 len0 z0) := w0.bytesAt
  clear w0
  by_cases hg : 1048576 < len0
  · have hg' : (1048576 : Int) < (len0 : Int) := by omega
    clear HR
    go_enter Try.func3, Try.ntmps3
    go_wp2
    go_ret
    exact ⟨rfl, Below.refl _ _⟩
  have hg' : (len0 : Int) ≤ 1048576 := by omega
  go_enter Try.func3, Try.ntmps3
  go_wp2_with fail
  refine (drawLinePost_any a0 len0 cap0 z0 _ (by omega) HR.out).mono ?_
  rintro e w1 ⟨l, kind, qty, rfl, hsm, hb1⟩
  obtain ⟨W1, hW1⟩ : ∃ W1, w1.alloc (.cells #[.string l.partner, .string l.ref, .int .i64 l.no, .string l.item, .int .i64 l.ordered, .int .i64 l.sent, .int .i64 l.got, .int .i64 l.cut] 24) = W1 := ⟨_, rfl⟩
  have ha1 : Below w1.heap.size w1 W1 := by rw [← hW1]; exact (Below.refl _ _).alloc (Nat.le_refl _) _
  have hx1 : W1.heap[w1.heap.size]? = some (.cells #[.string l.partner, .string l.ref, .int .i64 l.no, .string l.item, .int .i64 l.ordered, .int .i64 l.sent, .int .i64 l.got, .int .i64 l.cut] 24) := by rw [← hW1]; exact World.alloc_heap_new _ _
  obtain ⟨P, hP⟩ : ∃ P, P = w1.heap.size := ⟨_, rfl⟩
  rw [← hP] at hx1
  have H1 : Hid (Below w.heap.size w W1 ∧ W1.heap[P]? = some (.cells #[.string l.partner, .string l.ref, .int .i64 l.no, .string l.item, .int .i64 l.ordered, .int .i64 l.sent, .int .i64 l.got, .int .i64 l.cut] 24)) := ⟨hb1.trans (ha1.mono hb1.size), hx1⟩
  have HW : Hid (w1.alloc (.cells #[.string l.partner, .string l.ref, .int .i64 l.no, .string l.item, .int .i64 l.ordered, .int .i64 l.sent, .int .i64 l.got, .int .i64 l.cut] 24) = W1 ∧ P = w1.heap.size) := ⟨hW1, hP⟩
  clear hb1 HR hW1 hP ha1 hx1 hsm
  go_upto_region 4 with fail
  try rw [HW.out.1]
  try rw [← HW.out.2]
  clear HW
  by_cases hpo : PostOk l kind qty
  case neg =>
    have QS : Hid (∀ W, Calls Try.prog 6 #[.agg #[.string l.partner, .string l.ref, .int .i64 l.no, .string l.item, .int .i64 l.ordered, .int .i64 l.sent, .int .i64 l.got, .int .i64 l.cut], .int .i64 kind, .int .i64 qty] W fun e w' => e = .returned (.agg #[.string ⟨#[]⟩, .string ⟨#[]⟩, .int .i64 0, .string ⟨#[]⟩, .int .i64 0, .int .i64 0, .int .i64 0, .int .i64 0, .int .i64 0, .int .i64 0, .int .i64 1]) ∧ Below W.heap.size W w') := fun W => by
      have := linePost_spec l kind qty W
      rw [postT_no hpo] at this
      exact this
    have QI : Hid (∀ W, Calls Try.prog 7 #[.agg #[.string l.partner, .string l.ref, .int .i64 l.no, .string l.item, .int .i64 l.ordered, .int .i64 l.sent, .int .i64 l.got, .int .i64 l.cut], .int .i64 kind, .int .i64 qty] W fun e w' => e = .returned (.agg #[.string ⟨#[]⟩, .string ⟨#[]⟩, .int .i64 0, .string ⟨#[]⟩, .int .i64 0, .int .i64 0, .int .i64 0, .int .i64 0, .int .i64 0, .int .i64 0, .int .i64 1]) ∧ Below W.heap.size W w') := fun W => by
      have := linePost_impl l kind qty W
      rw [postT_no hpo] at this
      exact this
    clear hpo
    have HX1 : Hid (∀ W, Below W1.heap.size W1 W → W.heap[P]? = some (.cells #[.string l.partner, .string l.ref, .int .i64 l.no, .string l.item, .int .i64 l.ordered, .int .i64 l.sent, .int .i64 l.got, .int .i64 l.cut] 24)) := fun W hW => (hW.block _ (Array.getElem?_eq_some_iff.1 H1.out.2).1).trans H1.out.2
    obtain ⟨c0, c1, c2, c3, c4, c5, c6, c7⟩ := box8 H1.out.2
    go_wp2_with fail
    refine (QS.out _).mono ?_
    rintro e w3 ⟨rfl, hb3⟩
    have H3 : Hid (Below w.heap.size w w3 ∧ Below W1.heap.size W1 w3) := ⟨H1.out.1.trans (hb3.mono H1.out.1.size), hb3⟩
    clear hb3 c0 c1 c2 c3 c4 c5 c6 c7 QS
    obtain ⟨W3, hW3⟩ : ∃ W3, w3.alloc (.cells #[.string ⟨#[]⟩, .string ⟨#[]⟩, .int .i64 0, .string ⟨#[]⟩, .int .i64 0, .int .i64 0, .int .i64 0, .int .i64 0, .int .i64 0, .int .i64 0, .int .i64 1] 28) = W3 := ⟨_, rfl⟩
    have hb4 : Below w3.heap.size w3 W3 := by rw [← hW3]; exact (Below.refl _ _).alloc (Nat.le_refl _) _
    have ho3 : W3.heap[w3.heap.size]? = some (.cells #[.string ⟨#[]⟩, .string ⟨#[]⟩, .int .i64 0, .string ⟨#[]⟩, .int .i64 0, .int .i64 0, .int .i64 0, .int .i64 0, .int .i64 0, .int .i64 0, .int .i64 1] 28) := by rw [← hW3]; exact World.alloc_heap_new _ _
    obtain ⟨O6, hO6⟩ : ∃ O6, O6 = w3.heap.size := ⟨_, rfl⟩
    rw [← hO6] at ho3
    have H4 : Hid (Below w.heap.size w W3 ∧ Below W1.heap.size W1 W3 ∧ W3.heap[O6]? = some (.cells #[.string ⟨#[]⟩, .string ⟨#[]⟩, .int .i64 0, .string ⟨#[]⟩, .int .i64 0, .int .i64 0, .int .i64 0, .int .i64 0, .int .i64 0, .int .i64 0, .int .i64 1] 28)) := ⟨H3.out.1.trans (hb4.mono H3.out.1.size), H3.out.2.trans (hb4.mono H3.out.2.size), ho3⟩
    have HW3 : Hid (w3.alloc (.cells #[.string ⟨#[]⟩, .string ⟨#[]⟩, .int .i64 0, .string ⟨#[]⟩, .int .i64 0, .int .i64 0, .int .i64 0, .int .i64 0, .int .i64 0, .int .i64 0, .int .i64 1] 28) = W3 ∧ O6 = w3.heap.size) := ⟨hW3, hO6⟩
    clear hW3 hO6 hb4 ho3 H3
    go_upto_region 5 with fail
    try rw [HW3.out.1]
    try rw [← HW3.out.2]
    clear HW3
    obtain ⟨c0, c1, c2, c3, c4, c5, c6, c7⟩ := box8 (HX1.out W3 H4.out.2.1)
    go_wp2_with fail
    refine (QI.out _).mono ?_
    rintro e w5 ⟨rfl, hb5⟩
    have H5 : Hid (Below w.heap.size w w5 ∧ Below W1.heap.size W1 w5 ∧ w5.heap[O6]? = some (.cells #[.string ⟨#[]⟩, .string ⟨#[]⟩, .int .i64 0, .string ⟨#[]⟩, .int .i64 0, .int .i64 0, .int .i64 0, .int .i64 0, .int .i64 0, .int .i64 0, .int .i64 1] 28)) := ⟨H4.out.1.trans (hb5.mono H4.out.1.size), H4.out.2.1.trans (hb5.mono H4.out.2.1.size), (hb5.block _ (Array.getElem?_eq_some_iff.1 H4.out.2.2).1).trans H4.out.2.2⟩
    clear hb5 c0 c1 c2 c3 c4 c5 c6 c7 QI H4
    obtain ⟨W5, hW5⟩ : ∃ W5, w5.alloc (.cells #[.string ⟨#[]⟩, .string ⟨#[]⟩, .int .i64 0, .string ⟨#[]⟩, .int .i64 0, .int .i64 0, .int .i64 0, .int .i64 0, .int .i64 0, .int .i64 0, .int .i64 1] 28) = W5 := ⟨_, rfl⟩
    have hb6 : Below w5.heap.size w5 W5 := by rw [← hW5]; exact (Below.refl _ _).alloc (Nat.le_refl _) _
    have ho5 : W5.heap[w5.heap.size]? = some (.cells #[.string ⟨#[]⟩, .string ⟨#[]⟩, .int .i64 0, .string ⟨#[]⟩, .int .i64 0, .int .i64 0, .int .i64 0, .int .i64 0, .int .i64 0, .int .i64 0, .int .i64 1] 28) := by rw [← hW5]; exact World.alloc_heap_new _ _
    obtain ⟨O7, hO7⟩ : ∃ O7, O7 = w5.heap.size := ⟨_, rfl⟩
    rw [← hO7] at ho5
    have H6 : Hid (Below w.heap.size w W5 ∧ W5.heap[P]? = some (.cells #[.string l.partner, .string l.ref, .int .i64 l.no, .string l.item, .int .i64 l.ordered, .int .i64 l.sent, .int .i64 l.got, .int .i64 l.cut] 24) ∧ W5.heap[O6]? = some (.cells #[.string ⟨#[]⟩, .string ⟨#[]⟩, .int .i64 0, .string ⟨#[]⟩, .int .i64 0, .int .i64 0, .int .i64 0, .int .i64 0, .int .i64 0, .int .i64 0, .int .i64 1] 28) ∧ W5.heap[O7]? = some (.cells #[.string ⟨#[]⟩, .string ⟨#[]⟩, .int .i64 0, .string ⟨#[]⟩, .int .i64 0, .int .i64 0, .int .i64 0, .int .i64 0, .int .i64 0, .int .i64 0, .int .i64 1] 28)) := ⟨H5.out.1.trans (hb6.mono H5.out.1.size), HX1.out _ (H5.out.2.1.trans (hb6.mono H5.out.2.1.size)), (hb6.block _ (Array.getElem?_eq_some_iff.1 H5.out.2.2).1).trans H5.out.2.2, ho5⟩
    have HW5 : Hid (w5.alloc (.cells #[.string ⟨#[]⟩, .string ⟨#[]⟩, .int .i64 0, .string ⟨#[]⟩, .int .i64 0, .int .i64 0, .int .i64 0, .int .i64 0, .int .i64 0, .int .i64 0, .int .i64 1] 28) = W5 ∧ O7 = w5.heap.size) := ⟨hW5, hO7⟩
    clear hW5 hO7 hb6 ho5 H5 HX1 H1
    go_upto_region 6 with fail
    try rw [HW5.out.1]
    try rw [← HW5.out.2]
    clear HW5
    obtain ⟨a0, a1, a2, a3, a4, a5, a6, a7, a8, a9, a10⟩ := box11 H6.out.2.2.1
    obtain ⟨b0, b1, b2, b3, b4, b5, b6, b7, b8, b9, b10⟩ := box11 H6.out.2.2.2
    go_wp2
    go_ret
    exact ⟨rfl, H6.out.1⟩
  have hok := hpo.ok
  have hk0 := hok.o1
  have hk1 := hok.o2
  have hk2 := hok.s0
  have hk3 := hok.g0
  have hk4 := hok.c0
  have hk5 := hok.gs
  have hk6 := hok.so
  have hk7 := hok.co
  have hq1 := hpo.q.1
  have hq2 := hpo.q.2
  have hk1' := hpo.k1
  have hk3' := hpo.k3
  have HY : Hid (PostOk l kind qty) := hpo
  clear hpo
  obtain rfl | rfl | rfl : kind = 1 ∨ kind = 2 ∨ kind = 3 := by omega
  · obtain ⟨f, hf⟩ : ∃ f, f = fitZ qty (l.ordered - l.sent - l.cut) := ⟨_, rfl⟩
    have hf0 : 0 ≤ f := by rw [hf]; unfold fitZ; omega
    have hf1 : f ≤ qty := by rw [hf]; unfold fitZ; omega
    have hf2 : f ≤ l.ordered - l.sent - l.cut := by rw [hf]; unfold fitZ; omega
    have hf3 : f = qty ∨ f = l.ordered - l.sent - l.cut := by rw [hf]; unfold fitZ; omega
    have QS : Hid (∀ W, Calls Try.prog 6 #[.agg #[.string l.partner, .string l.ref, .int .i64 l.no, .string l.item, .int .i64 l.ordered, .int .i64 l.sent, .int .i64 l.got, .int .i64 l.cut], .int .i64 1, .int .i64 qty] W fun e w' => e = .returned (.agg #[.string l.partner, .string l.ref, .int .i64 l.no, .string l.item, .int .i64 l.ordered, .int .i64 l.sent, .int .i64 l.got, .int .i64 (l.cut + f), .int .i64 f, .int .i64 (qty - f), .int .i64 0]) ∧ Below W.heap.size W w') := fun W => by
      have := linePost_spec l 1 qty W
      rw [postT_yes HY.out] at this
      rw [hf]
      exact this
    have QI : Hid (∀ W, Calls Try.prog 7 #[.agg #[.string l.partner, .string l.ref, .int .i64 l.no, .string l.item, .int .i64 l.ordered, .int .i64 l.sent, .int .i64 l.got, .int .i64 l.cut], .int .i64 1, .int .i64 qty] W fun e w' => e = .returned (.agg #[.string l.partner, .string l.ref, .int .i64 l.no, .string l.item, .int .i64 l.ordered, .int .i64 l.sent, .int .i64 l.got, .int .i64 (l.cut + f), .int .i64 f, .int .i64 (qty - f), .int .i64 0]) ∧ Below W.heap.size W w') := fun W => by
      have := linePost_impl l 1 qty W
      rw [postT_yes HY.out] at this
      rw [hf]
      exact this
    clear hf HY hk1' hk3'
    have HX1 : Hid (∀ W, Below W1.heap.size W1 W → W.heap[P]? = some (.cells #[.string l.partner, .string l.ref, .int .i64 l.no, .string l.item, .int .i64 l.ordered, .int .i64 l.sent, .int .i64 l.got, .int .i64 l.cut] 24)) := fun W hW => (hW.block _ (Array.getElem?_eq_some_iff.1 H1.out.2).1).trans H1.out.2
    obtain ⟨c0, c1, c2, c3, c4, c5, c6, c7⟩ := box8 H1.out.2
    go_wp2_with fail
    refine (QS.out _).mono ?_
    rintro e w3 ⟨rfl, hb3⟩
    have H3 : Hid (Below w.heap.size w w3 ∧ Below W1.heap.size W1 w3) := ⟨H1.out.1.trans (hb3.mono H1.out.1.size), hb3⟩
    clear hb3 c0 c1 c2 c3 c4 c5 c6 c7 QS
    obtain ⟨W3, hW3⟩ : ∃ W3, w3.alloc (.cells #[.string l.partner, .string l.ref, .int .i64 l.no, .string l.item, .int .i64 l.ordered, .int .i64 l.sent, .int .i64 l.got, .int .i64 (l.cut + f), .int .i64 f, .int .i64 (qty - f), .int .i64 0] 28) = W3 := ⟨_, rfl⟩
    have hb4 : Below w3.heap.size w3 W3 := by rw [← hW3]; exact (Below.refl _ _).alloc (Nat.le_refl _) _
    have ho3 : W3.heap[w3.heap.size]? = some (.cells #[.string l.partner, .string l.ref, .int .i64 l.no, .string l.item, .int .i64 l.ordered, .int .i64 l.sent, .int .i64 l.got, .int .i64 (l.cut + f), .int .i64 f, .int .i64 (qty - f), .int .i64 0] 28) := by rw [← hW3]; exact World.alloc_heap_new _ _
    obtain ⟨O6, hO6⟩ : ∃ O6, O6 = w3.heap.size := ⟨_, rfl⟩
    rw [← hO6] at ho3
    have H4 : Hid (Below w.heap.size w W3 ∧ Below W1.heap.size W1 W3 ∧ W3.heap[O6]? = some (.cells #[.string l.partner, .string l.ref, .int .i64 l.no, .string l.item, .int .i64 l.ordered, .int .i64 l.sent, .int .i64 l.got, .int .i64 (l.cut + f), .int .i64 f, .int .i64 (qty - f), .int .i64 0] 28)) := ⟨H3.out.1.trans (hb4.mono H3.out.1.size), H3.out.2.trans (hb4.mono H3.out.2.size), ho3⟩
    have HW3 : Hid (w3.alloc (.cells #[.string l.partner, .string l.ref, .int .i64 l.no, .string l.item, .int .i64 l.ordered, .int .i64 l.sent, .int .i64 l.got, .int .i64 (l.cut + f), .int .i64 f, .int .i64 (qty - f), .int .i64 0] 28) = W3 ∧ O6 = w3.heap.size) := ⟨hW3, hO6⟩
    clear hW3 hO6 hb4 ho3 H3
    go_upto_region 5 with fail
    try rw [HW3.out.1]
    try rw [← HW3.out.2]
    clear HW3
    obtain ⟨c0, c1, c2, c3, c4, c5, c6, c7⟩ := box8 (HX1.out W3 H4.out.2.1)
    go_wp2_with fail
    refine (QI.out _).mono ?_
    rintro e w5 ⟨rfl, hb5⟩
    have H5 : Hid (Below w.heap.size w w5 ∧ Below W1.heap.size W1 w5 ∧ w5.heap[O6]? = some (.cells #[.string l.partner, .string l.ref, .int .i64 l.no, .string l.item, .int .i64 l.ordered, .int .i64 l.sent, .int .i64 l.got, .int .i64 (l.cut + f), .int .i64 f, .int .i64 (qty - f), .int .i64 0] 28)) := ⟨H4.out.1.trans (hb5.mono H4.out.1.size), H4.out.2.1.trans (hb5.mono H4.out.2.1.size), (hb5.block _ (Array.getElem?_eq_some_iff.1 H4.out.2.2).1).trans H4.out.2.2⟩
    clear hb5 c0 c1 c2 c3 c4 c5 c6 c7 QI H4
    obtain ⟨W5, hW5⟩ : ∃ W5, w5.alloc (.cells #[.string l.partner, .string l.ref, .int .i64 l.no, .string l.item, .int .i64 l.ordered, .int .i64 l.sent, .int .i64 l.got, .int .i64 (l.cut + f), .int .i64 f, .int .i64 (qty - f), .int .i64 0] 28) = W5 := ⟨_, rfl⟩
    have hb6 : Below w5.heap.size w5 W5 := by rw [← hW5]; exact (Below.refl _ _).alloc (Nat.le_refl _) _
    have ho5 : W5.heap[w5.heap.size]? = some (.cells #[.string l.partner, .string l.ref, .int .i64 l.no, .string l.item, .int .i64 l.ordered, .int .i64 l.sent, .int .i64 l.got, .int .i64 (l.cut + f), .int .i64 f, .int .i64 (qty - f), .int .i64 0] 28) := by rw [← hW5]; exact World.alloc_heap_new _ _
    obtain ⟨O7, hO7⟩ : ∃ O7, O7 = w5.heap.size := ⟨_, rfl⟩
    rw [← hO7] at ho5
    have H6 : Hid (Below w.heap.size w W5 ∧ W5.heap[P]? = some (.cells #[.string l.partner, .string l.ref, .int .i64 l.no, .string l.item, .int .i64 l.ordered, .int .i64 l.sent, .int .i64 l.got, .int .i64 l.cut] 24) ∧ W5.heap[O6]? = some (.cells #[.string l.partner, .string l.ref, .int .i64 l.no, .string l.item, .int .i64 l.ordered, .int .i64 l.sent, .int .i64 l.got, .int .i64 (l.cut + f), .int .i64 f, .int .i64 (qty - f), .int .i64 0] 28) ∧ W5.heap[O7]? = some (.cells #[.string l.partner, .string l.ref, .int .i64 l.no, .string l.item, .int .i64 l.ordered, .int .i64 l.sent, .int .i64 l.got, .int .i64 (l.cut + f), .int .i64 f, .int .i64 (qty - f), .int .i64 0] 28)) := ⟨H5.out.1.trans (hb6.mono H5.out.1.size), HX1.out _ (H5.out.2.1.trans (hb6.mono H5.out.2.1.size)), (hb6.block _ (Array.getElem?_eq_some_iff.1 H5.out.2.2).1).trans H5.out.2.2, ho5⟩
    have HW5 : Hid (w5.alloc (.cells #[.string l.partner, .string l.ref, .int .i64 l.no, .string l.item, .int .i64 l.ordered, .int .i64 l.sent, .int .i64 l.got, .int .i64 (l.cut + f), .int .i64 f, .int .i64 (qty - f), .int .i64 0] 28) = W5 ∧ O7 = w5.heap.size) := ⟨hW5, hO7⟩
    clear hW5 hO7 hb6 ho5 H5 HX1 H1
    go_upto_region 6 with fail
    try rw [HW5.out.1]
    try rw [← HW5.out.2]
    clear HW5
    obtain ⟨a0, a1, a2, a3, a4, a5, a6, a7, a8, a9, a10⟩ := box11 H6.out.2.2.1
    obtain ⟨b0, b1, b2, b3, b4, b5, b6, b7, b8, b9, b10⟩ := box11 H6.out.2.2.2
    have Q1 := lineRight_impl (⟨l.partner, l.ref, l.no, l.item, l.ordered, l.sent, l.got, l.cut + f⟩ : OLn)
    have hxok : LnOk (⟨l.partner, l.ref, l.no, l.item, l.ordered, l.sent, l.got, l.cut + f⟩ : OLn) := ⟨hok.p, hok.r, hok.i, hok.n1, hok.n2, hok.o1, hok.o2, by show 0 ≤ l.sent; omega, by show 0 ≤ l.got; omega, by show 0 ≤ (l.cut + f); omega, by show l.got ≤ l.sent; omega, by show l.sent ≤ l.ordered; omega, by show (l.cut + f) ≤ l.ordered - l.sent; omega⟩
    rw [lnB_yes hxok] at Q1
    have Q2 := lineTransit_impl (⟨l.partner, l.ref, l.no, l.item, l.ordered, l.sent, l.got, l.cut + f⟩ : OLn)
    rw [trnT_yes hxok] at Q2
    have Q3 := lineOpen_impl (⟨l.partner, l.ref, l.no, l.item, l.ordered, l.sent, l.got, l.cut + f⟩ : OLn)
    rw [opnT_yes hxok] at Q3
    dsimp only at Q1 Q2 Q3
    clear hxok hok
    go_wp2_with fail
    refine (Q1 _).mono ?_
    rintro e w7 ⟨rfl, hb7⟩
    have H7 : Hid (Below w.heap.size w w7 ∧ w7.heap[P]? = some (.cells #[.string l.partner, .string l.ref, .int .i64 l.no, .string l.item, .int .i64 l.ordered, .int .i64 l.sent, .int .i64 l.got, .int .i64 l.cut] 24) ∧ w7.heap[O7]? = some (.cells #[.string l.partner, .string l.ref, .int .i64 l.no, .string l.item, .int .i64 l.ordered, .int .i64 l.sent, .int .i64 l.got, .int .i64 (l.cut + f), .int .i64 f, .int .i64 (qty - f), .int .i64 0] 28)) := ⟨H6.out.1.trans (hb7.mono H6.out.1.size), (hb7.block _ (Array.getElem?_eq_some_iff.1 H6.out.2.1).1).trans H6.out.2.1, (hb7.block _ (Array.getElem?_eq_some_iff.1 H6.out.2.2.2).1).trans H6.out.2.2.2⟩
    have HC7 : Hid (∀ W, Below w7.heap.size w7 W → W.cell? ⟨O7, 0, none⟩ = some (.string l.partner) ∧ W.cell? ⟨O7, 1, none⟩ = some (.string l.ref) ∧ W.cell? ⟨O7, 2, none⟩ = some (.int .i64 l.no) ∧ W.cell? ⟨O7, 3, none⟩ = some (.string l.item) ∧ W.cell? ⟨O7, 4, none⟩ = some (.int .i64 l.ordered) ∧ W.cell? ⟨O7, 5, none⟩ = some (.int .i64 l.sent) ∧ W.cell? ⟨O7, 6, none⟩ = some (.int .i64 l.got) ∧ W.cell? ⟨O7, 7, none⟩ = some (.int .i64 (l.cut + f)) ∧ W.cell? ⟨O7, 8, none⟩ = some (.int .i64 f) ∧ W.cell? ⟨O7, 9, none⟩ = some (.int .i64 (qty - f)) ∧ W.cell? ⟨O7, 10, none⟩ = some (.int .i64 0)) := fun W hW => box11 ((hW.block _ (Array.getElem?_eq_some_iff.1 H7.out.2.2).1).trans H7.out.2.2)
    clear hb7 a0 a1 a2 a3 a4 a5 a6 a7 a8 a9 a10 b0 b1 b2 b3 b4 b5 b6 b7 b8 b9 b10 H6 Q1
    obtain ⟨b0, b1, b2, b3, b4, b5, b6, b7, b8, b9, b10⟩ := HC7.out w7 (Below.refl _ _)
    go_upto_region 12 with fail
    go_cut [8] from 58 to 72 (fun s8 wx => s8 = .int .i64 l.ordered ∧ Below w7.heap.size w7 wx)
    case first =>
      go_region_held3 (fun W => W.cell? ⟨O7, 0, none⟩ = some (.string l.partner) ∧ W.cell? ⟨O7, 1, none⟩ = some (.string l.ref) ∧ W.cell? ⟨O7, 2, none⟩ = some (.int .i64 l.no) ∧ W.cell? ⟨O7, 3, none⟩ = some (.string l.item) ∧ W.cell? ⟨O7, 4, none⟩ = some (.int .i64 l.ordered) ∧ W.cell? ⟨O7, 5, none⟩ = some (.int .i64 l.sent) ∧ W.cell? ⟨O7, 6, none⟩ = some (.int .i64 l.got) ∧ W.cell? ⟨O7, 7, none⟩ = some (.int .i64 (l.cut + f)) ∧ W.cell? ⟨O7, 8, none⟩ = some (.int .i64 f) ∧ W.cell? ⟨O7, 9, none⟩ = some (.int .i64 (qty - f)) ∧ W.cell? ⟨O7, 10, none⟩ = some (.int .i64 0)) (go_keep) (first | (go_at_call 9; refine (Q2 _).mono ?_; rintro e wa ⟨rfl, hba⟩; have ba : Below w7.heap.size w7 wa := (by with_reducible first | exact hba | exact undrewL hba); obtain ⟨d0, d1, d2, d3, d4, d5, d6, d7, d8, d9, d10⟩ := HC7.out wa ba; clear hba; try dsimp only) | (go_at_call 10; refine (Q3 _).mono ?_; rintro e wb ⟨rfl, hbb⟩; have bb : Below w7.heap.size w7 wb := ba.trans ((by with_reducible first | exact hbb | exact undrewL hbb : Below wa.heap.size wa wb).mono ba.size); obtain ⟨g0, g1, g2, g3, g4, g5, g6, g7, g8, g9, g10⟩ := HC7.out wb bb; clear hbb; try dsimp only) | fail)
      all_goals rename_i hHeld
      all_goals clear hHeld
      all_goals go_wp2_with fail
      all_goals go_meet
      all_goals refine ⟨?_, bb⟩
      all_goals rw [wrapI (z := l.got + (l.sent - l.got)) (by omega) (by omega), wrapI (z := l.got + (l.sent - l.got) + (l.ordered - l.sent - (l.cut + f))) (by omega) (by omega), wrapI (z := l.got + (l.sent - l.got) + (l.ordered - l.sent - (l.cut + f)) + (l.cut + f)) (by omega) (by omega)]
      all_goals congr 1
      all_goals omega
    case rest =>
      obtain ⟨rfl, hb8⟩ := hcut
      rename World => w8
      have H8 : Hid (Below w.heap.size w w8 ∧ w8.heap[P]? = some (.cells #[.string l.partner, .string l.ref, .int .i64 l.no, .string l.item, .int .i64 l.ordered, .int .i64 l.sent, .int .i64 l.got, .int .i64 l.cut] 24) ∧ w8.heap[O7]? = some (.cells #[.string l.partner, .string l.ref, .int .i64 l.no, .string l.item, .int .i64 l.ordered, .int .i64 l.sent, .int .i64 l.got, .int .i64 (l.cut + f), .int .i64 f, .int .i64 (qty - f), .int .i64 0] 28)) := ⟨H7.out.1.trans (hb8.mono H7.out.1.size), (hb8.block _ (Array.getElem?_eq_some_iff.1 H7.out.2.1).1).trans H7.out.2.1, (hb8.block _ (Array.getElem?_eq_some_iff.1 H7.out.2.2).1).trans H7.out.2.2⟩
      clear hb8 b0 b1 b2 b3 b4 b5 b6 b7 b8 b9 b10 HC7 H7 Q2 Q3
      obtain ⟨b0, b1, b2, b3, b4, b5, b6, b7, b8, b9, b10⟩ := box11 H8.out.2.2
      obtain ⟨c0, c1, c2, c3, c4, c5, c6, c7⟩ := box8 H8.out.2.1
      have lb := cell_lt b0
      have lc := cell_lt c0
      go_upto_region 13 with fail
      go_cut [9] from 73 to 92 (fun s9 wx => s9 = .int .i64 f ∧ wx = w8)
      case first =>
        go_wp2_with fail
        go_meet
        exact ⟨by first | rfl | (congr 1; omega), rfl⟩
      case rest =>
        obtain ⟨rfl, rfl⟩ := hcut
        have mixed : Try.prog.follows .mixedOrders = true := by kernel_rfl
        have f0 := cell_grown lb b0
        have f1 := cell_grown lb b1
        have f2 := cell_grown lb b2
        have f3 := cell_grown lb b3
        have f4 := cell_grown lb b4
        have f5 := cell_grown lb b5
        have f6 := cell_grown lb b6
        have f7 := cell_grown lb b7
        have f8 := cell_grown lb b8
        have f9 := cell_grown lb b9
        have f10 := cell_grown lb b10
        have g0 := cell_grown lc c0
        have g1 := cell_grown lc c1
        have g2 := cell_grown lc c2
        have g3 := cell_grown lc c3
        have g4 := cell_grown lc c4
        have g5 := cell_grown lc c5
        have g6 := cell_grown lc c6
        have g7 := cell_grown lc c7
        clear b0 b1 b2 b3 b4 b5 b6 b7 b8 b9 b10 c0 c1 c2 c3 c4 c5 c6 c7
        go_upto_region 14 with fail
        by_cases hov : qty - f = 0
        · have hov1 : ((qty - f) == 0) = true := by simpa using hov
          refine wp_region_quiet_grown mixed (by kernel_rfl) ?_
          repeat (go_big_quiet_step (fail))
          refine wpQuiet_nil ?_
          intro _ hw'
          obtain ⟨⟨nq, osq⟩, hw''⟩ := hw'
          subst hw''
          go_wp2
          go_ret
          exact ⟨by first | rfl | simp, H8.out.1.trans ((Grw.below ⟨nq, osq, rfl⟩).mono H8.out.1.size)⟩
        · have hov1 : ((qty - f) == 0) = false := by simpa using hov
          have Q4 := lwMost_grw0 l 1 (by omega) ⟨hk0, hk1, hk2, hk3, hk4, hk5, hk6, hk7⟩
          rw [show l.ordered - l.sent - l.cut = f by omega] at Q4
          refine wp_region_quiet_grown mixed (by kernel_rfl) ?_
          repeat (go_big_quiet_step (first | (go_at_call 11; refine Calls.grown_of (Q4 _))))
          refine wpQuiet_nil ?_
          intro _ hw'
          obtain ⟨⟨nq, osq⟩, hw''⟩ := hw'
          subst hw''
          go_wp2
          go_ret
          exact ⟨by first | rfl | simp, H8.out.1.trans ((Grw.below ⟨nq, osq, rfl⟩).mono H8.out.1.size)⟩
  · obtain ⟨f, hf⟩ : ∃ f, f = fitZ qty (l.ordered - l.sent - l.cut) := ⟨_, rfl⟩
    have hf0 : 0 ≤ f := by rw [hf]; unfold fitZ; omega
    have hf1 : f ≤ qty := by rw [hf]; unfold fitZ; omega
    have hf2 : f ≤ l.ordered - l.sent - l.cut := by rw [hf]; unfold fitZ; omega
    have hf3 : f = qty ∨ f = l.ordered - l.sent - l.cut := by rw [hf]; unfold fitZ; omega
    have QS : Hid (∀ W, Calls Try.prog 6 #[.agg #[.string l.partner, .string l.ref, .int .i64 l.no, .string l.item, .int .i64 l.ordered, .int .i64 l.sent, .int .i64 l.got, .int .i64 l.cut], .int .i64 2, .int .i64 qty] W fun e w' => e = .returned (.agg #[.string l.partner, .string l.ref, .int .i64 l.no, .string l.item, .int .i64 l.ordered, .int .i64 (l.sent + f), .int .i64 l.got, .int .i64 l.cut, .int .i64 f, .int .i64 (qty - f), .int .i64 0]) ∧ Below W.heap.size W w') := fun W => by
      have := linePost_spec l 2 qty W
      rw [postT_yes HY.out] at this
      rw [hf]
      exact this
    have QI : Hid (∀ W, Calls Try.prog 7 #[.agg #[.string l.partner, .string l.ref, .int .i64 l.no, .string l.item, .int .i64 l.ordered, .int .i64 l.sent, .int .i64 l.got, .int .i64 l.cut], .int .i64 2, .int .i64 qty] W fun e w' => e = .returned (.agg #[.string l.partner, .string l.ref, .int .i64 l.no, .string l.item, .int .i64 l.ordered, .int .i64 (l.sent + f), .int .i64 l.got, .int .i64 l.cut, .int .i64 f, .int .i64 (qty - f), .int .i64 0]) ∧ Below W.heap.size W w') := fun W => by
      have := linePost_impl l 2 qty W
      rw [postT_yes HY.out] at this
      rw [hf]
      exact this
    clear hf HY hk1' hk3'
    have HX1 : Hid (∀ W, Below W1.heap.size W1 W → W.heap[P]? = some (.cells #[.string l.partner, .string l.ref, .int .i64 l.no, .string l.item, .int .i64 l.ordered, .int .i64 l.sent, .int .i64 l.got, .int .i64 l.cut] 24)) := fun W hW => (hW.block _ (Array.getElem?_eq_some_iff.1 H1.out.2).1).trans H1.out.2
    obtain ⟨c0, c1, c2, c3, c4, c5, c6, c7⟩ := box8 H1.out.2
    go_wp2_with fail
    refine (QS.out _).mono ?_
    rintro e w3 ⟨rfl, hb3⟩
    have H3 : Hid (Below w.heap.size w w3 ∧ Below W1.heap.size W1 w3) := ⟨H1.out.1.trans (hb3.mono H1.out.1.size), hb3⟩
    clear hb3 c0 c1 c2 c3 c4 c5 c6 c7 QS
    obtain ⟨W3, hW3⟩ : ∃ W3, w3.alloc (.cells #[.string l.partner, .string l.ref, .int .i64 l.no, .string l.item, .int .i64 l.ordered, .int .i64 (l.sent + f), .int .i64 l.got, .int .i64 l.cut, .int .i64 f, .int .i64 (qty - f), .int .i64 0] 28) = W3 := ⟨_, rfl⟩
    have hb4 : Below w3.heap.size w3 W3 := by rw [← hW3]; exact (Below.refl _ _).alloc (Nat.le_refl _) _
    have ho3 : W3.heap[w3.heap.size]? = some (.cells #[.string l.partner, .string l.ref, .int .i64 l.no, .string l.item, .int .i64 l.ordered, .int .i64 (l.sent + f), .int .i64 l.got, .int .i64 l.cut, .int .i64 f, .int .i64 (qty - f), .int .i64 0] 28) := by rw [← hW3]; exact World.alloc_heap_new _ _
    obtain ⟨O6, hO6⟩ : ∃ O6, O6 = w3.heap.size := ⟨_, rfl⟩
    rw [← hO6] at ho3
    have H4 : Hid (Below w.heap.size w W3 ∧ Below W1.heap.size W1 W3 ∧ W3.heap[O6]? = some (.cells #[.string l.partner, .string l.ref, .int .i64 l.no, .string l.item, .int .i64 l.ordered, .int .i64 (l.sent + f), .int .i64 l.got, .int .i64 l.cut, .int .i64 f, .int .i64 (qty - f), .int .i64 0] 28)) := ⟨H3.out.1.trans (hb4.mono H3.out.1.size), H3.out.2.trans (hb4.mono H3.out.2.size), ho3⟩
    have HW3 : Hid (w3.alloc (.cells #[.string l.partner, .string l.ref, .int .i64 l.no, .string l.item, .int .i64 l.ordered, .int .i64 (l.sent + f), .int .i64 l.got, .int .i64 l.cut, .int .i64 f, .int .i64 (qty - f), .int .i64 0] 28) = W3 ∧ O6 = w3.heap.size) := ⟨hW3, hO6⟩
    clear hW3 hO6 hb4 ho3 H3
    go_upto_region 5 with fail
    try rw [HW3.out.1]
    try rw [← HW3.out.2]
    clear HW3
    obtain ⟨c0, c1, c2, c3, c4, c5, c6, c7⟩ := box8 (HX1.out W3 H4.out.2.1)
    go_wp2_with fail
    refine (QI.out _).mono ?_
    rintro e w5 ⟨rfl, hb5⟩
    have H5 : Hid (Below w.heap.size w w5 ∧ Below W1.heap.size W1 w5 ∧ w5.heap[O6]? = some (.cells #[.string l.partner, .string l.ref, .int .i64 l.no, .string l.item, .int .i64 l.ordered, .int .i64 (l.sent + f), .int .i64 l.got, .int .i64 l.cut, .int .i64 f, .int .i64 (qty - f), .int .i64 0] 28)) := ⟨H4.out.1.trans (hb5.mono H4.out.1.size), H4.out.2.1.trans (hb5.mono H4.out.2.1.size), (hb5.block _ (Array.getElem?_eq_some_iff.1 H4.out.2.2).1).trans H4.out.2.2⟩
    clear hb5 c0 c1 c2 c3 c4 c5 c6 c7 QI H4
    obtain ⟨W5, hW5⟩ : ∃ W5, w5.alloc (.cells #[.string l.partner, .string l.ref, .int .i64 l.no, .string l.item, .int .i64 l.ordered, .int .i64 (l.sent + f), .int .i64 l.got, .int .i64 l.cut, .int .i64 f, .int .i64 (qty - f), .int .i64 0] 28) = W5 := ⟨_, rfl⟩
    have hb6 : Below w5.heap.size w5 W5 := by rw [← hW5]; exact (Below.refl _ _).alloc (Nat.le_refl _) _
    have ho5 : W5.heap[w5.heap.size]? = some (.cells #[.string l.partner, .string l.ref, .int .i64 l.no, .string l.item, .int .i64 l.ordered, .int .i64 (l.sent + f), .int .i64 l.got, .int .i64 l.cut, .int .i64 f, .int .i64 (qty - f), .int .i64 0] 28) := by rw [← hW5]; exact World.alloc_heap_new _ _
    obtain ⟨O7, hO7⟩ : ∃ O7, O7 = w5.heap.size := ⟨_, rfl⟩
    rw [← hO7] at ho5
    have H6 : Hid (Below w.heap.size w W5 ∧ W5.heap[P]? = some (.cells #[.string l.partner, .string l.ref, .int .i64 l.no, .string l.item, .int .i64 l.ordered, .int .i64 l.sent, .int .i64 l.got, .int .i64 l.cut] 24) ∧ W5.heap[O6]? = some (.cells #[.string l.partner, .string l.ref, .int .i64 l.no, .string l.item, .int .i64 l.ordered, .int .i64 (l.sent + f), .int .i64 l.got, .int .i64 l.cut, .int .i64 f, .int .i64 (qty - f), .int .i64 0] 28) ∧ W5.heap[O7]? = some (.cells #[.string l.partner, .string l.ref, .int .i64 l.no, .string l.item, .int .i64 l.ordered, .int .i64 (l.sent + f), .int .i64 l.got, .int .i64 l.cut, .int .i64 f, .int .i64 (qty - f), .int .i64 0] 28)) := ⟨H5.out.1.trans (hb6.mono H5.out.1.size), HX1.out _ (H5.out.2.1.trans (hb6.mono H5.out.2.1.size)), (hb6.block _ (Array.getElem?_eq_some_iff.1 H5.out.2.2).1).trans H5.out.2.2, ho5⟩
    have HW5 : Hid (w5.alloc (.cells #[.string l.partner, .string l.ref, .int .i64 l.no, .string l.item, .int .i64 l.ordered, .int .i64 (l.sent + f), .int .i64 l.got, .int .i64 l.cut, .int .i64 f, .int .i64 (qty - f), .int .i64 0] 28) = W5 ∧ O7 = w5.heap.size) := ⟨hW5, hO7⟩
    clear hW5 hO7 hb6 ho5 H5 HX1 H1
    go_upto_region 6 with fail
    try rw [HW5.out.1]
    try rw [← HW5.out.2]
    clear HW5
    obtain ⟨a0, a1, a2, a3, a4, a5, a6, a7, a8, a9, a10⟩ := box11 H6.out.2.2.1
    obtain ⟨b0, b1, b2, b3, b4, b5, b6, b7, b8, b9, b10⟩ := box11 H6.out.2.2.2
    have Q1 := lineRight_impl (⟨l.partner, l.ref, l.no, l.item, l.ordered, l.sent + f, l.got, l.cut⟩ : OLn)
    have hxok : LnOk (⟨l.partner, l.ref, l.no, l.item, l.ordered, l.sent + f, l.got, l.cut⟩ : OLn) := ⟨hok.p, hok.r, hok.i, hok.n1, hok.n2, hok.o1, hok.o2, by show 0 ≤ (l.sent + f); omega, by show 0 ≤ l.got; omega, by show 0 ≤ l.cut; omega, by show l.got ≤ (l.sent + f); omega, by show (l.sent + f) ≤ l.ordered; omega, by show l.cut ≤ l.ordered - (l.sent + f); omega⟩
    rw [lnB_yes hxok] at Q1
    have Q2 := lineTransit_impl (⟨l.partner, l.ref, l.no, l.item, l.ordered, l.sent + f, l.got, l.cut⟩ : OLn)
    rw [trnT_yes hxok] at Q2
    have Q3 := lineOpen_impl (⟨l.partner, l.ref, l.no, l.item, l.ordered, l.sent + f, l.got, l.cut⟩ : OLn)
    rw [opnT_yes hxok] at Q3
    dsimp only at Q1 Q2 Q3
    clear hxok hok
    go_wp2_with fail
    refine (Q1 _).mono ?_
    rintro e w7 ⟨rfl, hb7⟩
    have H7 : Hid (Below w.heap.size w w7 ∧ w7.heap[P]? = some (.cells #[.string l.partner, .string l.ref, .int .i64 l.no, .string l.item, .int .i64 l.ordered, .int .i64 l.sent, .int .i64 l.got, .int .i64 l.cut] 24) ∧ w7.heap[O7]? = some (.cells #[.string l.partner, .string l.ref, .int .i64 l.no, .string l.item, .int .i64 l.ordered, .int .i64 (l.sent + f), .int .i64 l.got, .int .i64 l.cut, .int .i64 f, .int .i64 (qty - f), .int .i64 0] 28)) := ⟨H6.out.1.trans (hb7.mono H6.out.1.size), (hb7.block _ (Array.getElem?_eq_some_iff.1 H6.out.2.1).1).trans H6.out.2.1, (hb7.block _ (Array.getElem?_eq_some_iff.1 H6.out.2.2.2).1).trans H6.out.2.2.2⟩
    have HC7 : Hid (∀ W, Below w7.heap.size w7 W → W.cell? ⟨O7, 0, none⟩ = some (.string l.partner) ∧ W.cell? ⟨O7, 1, none⟩ = some (.string l.ref) ∧ W.cell? ⟨O7, 2, none⟩ = some (.int .i64 l.no) ∧ W.cell? ⟨O7, 3, none⟩ = some (.string l.item) ∧ W.cell? ⟨O7, 4, none⟩ = some (.int .i64 l.ordered) ∧ W.cell? ⟨O7, 5, none⟩ = some (.int .i64 (l.sent + f)) ∧ W.cell? ⟨O7, 6, none⟩ = some (.int .i64 l.got) ∧ W.cell? ⟨O7, 7, none⟩ = some (.int .i64 l.cut) ∧ W.cell? ⟨O7, 8, none⟩ = some (.int .i64 f) ∧ W.cell? ⟨O7, 9, none⟩ = some (.int .i64 (qty - f)) ∧ W.cell? ⟨O7, 10, none⟩ = some (.int .i64 0)) := fun W hW => box11 ((hW.block _ (Array.getElem?_eq_some_iff.1 H7.out.2.2).1).trans H7.out.2.2)
    clear hb7 a0 a1 a2 a3 a4 a5 a6 a7 a8 a9 a10 b0 b1 b2 b3 b4 b5 b6 b7 b8 b9 b10 H6 Q1
    obtain ⟨b0, b1, b2, b3, b4, b5, b6, b7, b8, b9, b10⟩ := HC7.out w7 (Below.refl _ _)
    go_upto_region 12 with fail
    go_cut [8] from 58 to 72 (fun s8 wx => s8 = .int .i64 l.ordered ∧ Below w7.heap.size w7 wx)
    case first =>
      go_region_held3 (fun W => W.cell? ⟨O7, 0, none⟩ = some (.string l.partner) ∧ W.cell? ⟨O7, 1, none⟩ = some (.string l.ref) ∧ W.cell? ⟨O7, 2, none⟩ = some (.int .i64 l.no) ∧ W.cell? ⟨O7, 3, none⟩ = some (.string l.item) ∧ W.cell? ⟨O7, 4, none⟩ = some (.int .i64 l.ordered) ∧ W.cell? ⟨O7, 5, none⟩ = some (.int .i64 (l.sent + f)) ∧ W.cell? ⟨O7, 6, none⟩ = some (.int .i64 l.got) ∧ W.cell? ⟨O7, 7, none⟩ = some (.int .i64 l.cut) ∧ W.cell? ⟨O7, 8, none⟩ = some (.int .i64 f) ∧ W.cell? ⟨O7, 9, none⟩ = some (.int .i64 (qty - f)) ∧ W.cell? ⟨O7, 10, none⟩ = some (.int .i64 0)) (go_keep) (first | (go_at_call 9; refine (Q2 _).mono ?_; rintro e wa ⟨rfl, hba⟩; have ba : Below w7.heap.size w7 wa := (by with_reducible first | exact hba | exact undrewL hba); obtain ⟨d0, d1, d2, d3, d4, d5, d6, d7, d8, d9, d10⟩ := HC7.out wa ba; clear hba; try dsimp only) | (go_at_call 10; refine (Q3 _).mono ?_; rintro e wb ⟨rfl, hbb⟩; have bb : Below w7.heap.size w7 wb := ba.trans ((by with_reducible first | exact hbb | exact undrewL hbb : Below wa.heap.size wa wb).mono ba.size); obtain ⟨g0, g1, g2, g3, g4, g5, g6, g7, g8, g9, g10⟩ := HC7.out wb bb; clear hbb; try dsimp only) | fail)
      all_goals rename_i hHeld
      all_goals clear hHeld
      all_goals go_wp2_with fail
      all_goals go_meet
      all_goals refine ⟨?_, bb⟩
      all_goals rw [wrapI (z := l.got + ((l.sent + f) - l.got)) (by omega) (by omega), wrapI (z := l.got + ((l.sent + f) - l.got) + (l.ordered - (l.sent + f) - l.cut)) (by omega) (by omega), wrapI (z := l.got + ((l.sent + f) - l.got) + (l.ordered - (l.sent + f) - l.cut) + l.cut) (by omega) (by omega)]
      all_goals congr 1
      all_goals omega
    case rest =>
      obtain ⟨rfl, hb8⟩ := hcut
      rename World => w8
      have H8 : Hid (Below w.heap.size w w8 ∧ w8.heap[P]? = some (.cells #[.string l.partner, .string l.ref, .int .i64 l.no, .string l.item, .int .i64 l.ordered, .int .i64 l.sent, .int .i64 l.got, .int .i64 l.cut] 24) ∧ w8.heap[O7]? = some (.cells #[.string l.partner, .string l.ref, .int .i64 l.no, .string l.item, .int .i64 l.ordered, .int .i64 (l.sent + f), .int .i64 l.got, .int .i64 l.cut, .int .i64 f, .int .i64 (qty - f), .int .i64 0] 28)) := ⟨H7.out.1.trans (hb8.mono H7.out.1.size), (hb8.block _ (Array.getElem?_eq_some_iff.1 H7.out.2.1).1).trans H7.out.2.1, (hb8.block _ (Array.getElem?_eq_some_iff.1 H7.out.2.2).1).trans H7.out.2.2⟩
      clear hb8 b0 b1 b2 b3 b4 b5 b6 b7 b8 b9 b10 HC7 H7 Q2 Q3
      obtain ⟨b0, b1, b2, b3, b4, b5, b6, b7, b8, b9, b10⟩ := box11 H8.out.2.2
      obtain ⟨c0, c1, c2, c3, c4, c5, c6, c7⟩ := box8 H8.out.2.1
      have lb := cell_lt b0
      have lc := cell_lt c0
      go_upto_region 13 with fail
      go_cut [9] from 73 to 92 (fun s9 wx => s9 = .int .i64 f ∧ wx = w8)
      case first =>
        go_wp2_with fail
        go_meet
        exact ⟨by first | rfl | (congr 1; omega), rfl⟩
      case rest =>
        obtain ⟨rfl, rfl⟩ := hcut
        have mixed : Try.prog.follows .mixedOrders = true := by kernel_rfl
        have f0 := cell_grown lb b0
        have f1 := cell_grown lb b1
        have f2 := cell_grown lb b2
        have f3 := cell_grown lb b3
        have f4 := cell_grown lb b4
        have f5 := cell_grown lb b5
        have f6 := cell_grown lb b6
        have f7 := cell_grown lb b7
        have f8 := cell_grown lb b8
        have f9 := cell_grown lb b9
        have f10 := cell_grown lb b10
        have g0 := cell_grown lc c0
        have g1 := cell_grown lc c1
        have g2 := cell_grown lc c2
        have g3 := cell_grown lc c3
        have g4 := cell_grown lc c4
        have g5 := cell_grown lc c5
        have g6 := cell_grown lc c6
        have g7 := cell_grown lc c7
        clear b0 b1 b2 b3 b4 b5 b6 b7 b8 b9 b10 c0 c1 c2 c3 c4 c5 c6 c7
        go_upto_region 14 with fail
        by_cases hov : qty - f = 0
        · have hov1 : ((qty - f) == 0) = true := by simpa using hov
          refine wp_region_quiet_grown mixed (by kernel_rfl) ?_
          repeat (go_big_quiet_step (fail))
          refine wpQuiet_nil ?_
          intro _ hw'
          obtain ⟨⟨nq, osq⟩, hw''⟩ := hw'
          subst hw''
          go_wp2
          go_ret
          exact ⟨by first | rfl | simp, H8.out.1.trans ((Grw.below ⟨nq, osq, rfl⟩).mono H8.out.1.size)⟩
        · have hov1 : ((qty - f) == 0) = false := by simpa using hov
          have Q4 := lwMost_grw0 l 2 (by omega) ⟨hk0, hk1, hk2, hk3, hk4, hk5, hk6, hk7⟩
          rw [show l.ordered - l.sent - l.cut = f by omega] at Q4
          refine wp_region_quiet_grown mixed (by kernel_rfl) ?_
          repeat (go_big_quiet_step (first | (go_at_call 11; refine Calls.grown_of (Q4 _))))
          refine wpQuiet_nil ?_
          intro _ hw'
          obtain ⟨⟨nq, osq⟩, hw''⟩ := hw'
          subst hw''
          go_wp2
          go_ret
          exact ⟨by first | rfl | simp, H8.out.1.trans ((Grw.below ⟨nq, osq, rfl⟩).mono H8.out.1.size)⟩
  · obtain ⟨f, hf⟩ : ∃ f, f = fitZ qty (l.sent - l.got) := ⟨_, rfl⟩
    have hf0 : 0 ≤ f := by rw [hf]; unfold fitZ; omega
    have hf1 : f ≤ qty := by rw [hf]; unfold fitZ; omega
    have hf2 : f ≤ l.sent - l.got := by rw [hf]; unfold fitZ; omega
    have hf3 : f = qty ∨ f = l.sent - l.got := by rw [hf]; unfold fitZ; omega
    have QS : Hid (∀ W, Calls Try.prog 6 #[.agg #[.string l.partner, .string l.ref, .int .i64 l.no, .string l.item, .int .i64 l.ordered, .int .i64 l.sent, .int .i64 l.got, .int .i64 l.cut], .int .i64 3, .int .i64 qty] W fun e w' => e = .returned (.agg #[.string l.partner, .string l.ref, .int .i64 l.no, .string l.item, .int .i64 l.ordered, .int .i64 l.sent, .int .i64 (l.got + f), .int .i64 l.cut, .int .i64 f, .int .i64 (qty - f), .int .i64 0]) ∧ Below W.heap.size W w') := fun W => by
      have := linePost_spec l 3 qty W
      rw [postT_yes HY.out] at this
      rw [hf]
      exact this
    have QI : Hid (∀ W, Calls Try.prog 7 #[.agg #[.string l.partner, .string l.ref, .int .i64 l.no, .string l.item, .int .i64 l.ordered, .int .i64 l.sent, .int .i64 l.got, .int .i64 l.cut], .int .i64 3, .int .i64 qty] W fun e w' => e = .returned (.agg #[.string l.partner, .string l.ref, .int .i64 l.no, .string l.item, .int .i64 l.ordered, .int .i64 l.sent, .int .i64 (l.got + f), .int .i64 l.cut, .int .i64 f, .int .i64 (qty - f), .int .i64 0]) ∧ Below W.heap.size W w') := fun W => by
      have := linePost_impl l 3 qty W
      rw [postT_yes HY.out] at this
      rw [hf]
      exact this
    clear hf HY hk1' hk3'
    have HX1 : Hid (∀ W, Below W1.heap.size W1 W → W.heap[P]? = some (.cells #[.string l.partner, .string l.ref, .int .i64 l.no, .string l.item, .int .i64 l.ordered, .int .i64 l.sent, .int .i64 l.got, .int .i64 l.cut] 24)) := fun W hW => (hW.block _ (Array.getElem?_eq_some_iff.1 H1.out.2).1).trans H1.out.2
    obtain ⟨c0, c1, c2, c3, c4, c5, c6, c7⟩ := box8 H1.out.2
    go_wp2_with fail
    refine (QS.out _).mono ?_
    rintro e w3 ⟨rfl, hb3⟩
    have H3 : Hid (Below w.heap.size w w3 ∧ Below W1.heap.size W1 w3) := ⟨H1.out.1.trans (hb3.mono H1.out.1.size), hb3⟩
    clear hb3 c0 c1 c2 c3 c4 c5 c6 c7 QS
    obtain ⟨W3, hW3⟩ : ∃ W3, w3.alloc (.cells #[.string l.partner, .string l.ref, .int .i64 l.no, .string l.item, .int .i64 l.ordered, .int .i64 l.sent, .int .i64 (l.got + f), .int .i64 l.cut, .int .i64 f, .int .i64 (qty - f), .int .i64 0] 28) = W3 := ⟨_, rfl⟩
    have hb4 : Below w3.heap.size w3 W3 := by rw [← hW3]; exact (Below.refl _ _).alloc (Nat.le_refl _) _
    have ho3 : W3.heap[w3.heap.size]? = some (.cells #[.string l.partner, .string l.ref, .int .i64 l.no, .string l.item, .int .i64 l.ordered, .int .i64 l.sent, .int .i64 (l.got + f), .int .i64 l.cut, .int .i64 f, .int .i64 (qty - f), .int .i64 0] 28) := by rw [← hW3]; exact World.alloc_heap_new _ _
    obtain ⟨O6, hO6⟩ : ∃ O6, O6 = w3.heap.size := ⟨_, rfl⟩
    rw [← hO6] at ho3
    have H4 : Hid (Below w.heap.size w W3 ∧ Below W1.heap.size W1 W3 ∧ W3.heap[O6]? = some (.cells #[.string l.partner, .string l.ref, .int .i64 l.no, .string l.item, .int .i64 l.ordered, .int .i64 l.sent, .int .i64 (l.got + f), .int .i64 l.cut, .int .i64 f, .int .i64 (qty - f), .int .i64 0] 28)) := ⟨H3.out.1.trans (hb4.mono H3.out.1.size), H3.out.2.trans (hb4.mono H3.out.2.size), ho3⟩
    have HW3 : Hid (w3.alloc (.cells #[.string l.partner, .string l.ref, .int .i64 l.no, .string l.item, .int .i64 l.ordered, .int .i64 l.sent, .int .i64 (l.got + f), .int .i64 l.cut, .int .i64 f, .int .i64 (qty - f), .int .i64 0] 28) = W3 ∧ O6 = w3.heap.size) := ⟨hW3, hO6⟩
    clear hW3 hO6 hb4 ho3 H3
    go_upto_region 5 with fail
    try rw [HW3.out.1]
    try rw [← HW3.out.2]
    clear HW3
    obtain ⟨c0, c1, c2, c3, c4, c5, c6, c7⟩ := box8 (HX1.out W3 H4.out.2.1)
    go_wp2_with fail
    refine (QI.out _).mono ?_
    rintro e w5 ⟨rfl, hb5⟩
    have H5 : Hid (Below w.heap.size w w5 ∧ Below W1.heap.size W1 w5 ∧ w5.heap[O6]? = some (.cells #[.string l.partner, .string l.ref, .int .i64 l.no, .string l.item, .int .i64 l.ordered, .int .i64 l.sent, .int .i64 (l.got + f), .int .i64 l.cut, .int .i64 f, .int .i64 (qty - f), .int .i64 0] 28)) := ⟨H4.out.1.trans (hb5.mono H4.out.1.size), H4.out.2.1.trans (hb5.mono H4.out.2.1.size), (hb5.block _ (Array.getElem?_eq_some_iff.1 H4.out.2.2).1).trans H4.out.2.2⟩
    clear hb5 c0 c1 c2 c3 c4 c5 c6 c7 QI H4
    obtain ⟨W5, hW5⟩ : ∃ W5, w5.alloc (.cells #[.string l.partner, .string l.ref, .int .i64 l.no, .string l.item, .int .i64 l.ordered, .int .i64 l.sent, .int .i64 (l.got + f), .int .i64 l.cut, .int .i64 f, .int .i64 (qty - f), .int .i64 0] 28) = W5 := ⟨_, rfl⟩
    have hb6 : Below w5.heap.size w5 W5 := by rw [← hW5]; exact (Below.refl _ _).alloc (Nat.le_refl _) _
    have ho5 : W5.heap[w5.heap.size]? = some (.cells #[.string l.partner, .string l.ref, .int .i64 l.no, .string l.item, .int .i64 l.ordered, .int .i64 l.sent, .int .i64 (l.got + f), .int .i64 l.cut, .int .i64 f, .int .i64 (qty - f), .int .i64 0] 28) := by rw [← hW5]; exact World.alloc_heap_new _ _
    obtain ⟨O7, hO7⟩ : ∃ O7, O7 = w5.heap.size := ⟨_, rfl⟩
    rw [← hO7] at ho5
    have H6 : Hid (Below w.heap.size w W5 ∧ W5.heap[P]? = some (.cells #[.string l.partner, .string l.ref, .int .i64 l.no, .string l.item, .int .i64 l.ordered, .int .i64 l.sent, .int .i64 l.got, .int .i64 l.cut] 24) ∧ W5.heap[O6]? = some (.cells #[.string l.partner, .string l.ref, .int .i64 l.no, .string l.item, .int .i64 l.ordered, .int .i64 l.sent, .int .i64 (l.got + f), .int .i64 l.cut, .int .i64 f, .int .i64 (qty - f), .int .i64 0] 28) ∧ W5.heap[O7]? = some (.cells #[.string l.partner, .string l.ref, .int .i64 l.no, .string l.item, .int .i64 l.ordered, .int .i64 l.sent, .int .i64 (l.got + f), .int .i64 l.cut, .int .i64 f, .int .i64 (qty - f), .int .i64 0] 28)) := ⟨H5.out.1.trans (hb6.mono H5.out.1.size), HX1.out _ (H5.out.2.1.trans (hb6.mono H5.out.2.1.size)), (hb6.block _ (Array.getElem?_eq_some_iff.1 H5.out.2.2).1).trans H5.out.2.2, ho5⟩
    have HW5 : Hid (w5.alloc (.cells #[.string l.partner, .string l.ref, .int .i64 l.no, .string l.item, .int .i64 l.ordered, .int .i64 l.sent, .int .i64 (l.got + f), .int .i64 l.cut, .int .i64 f, .int .i64 (qty - f), .int .i64 0] 28) = W5 ∧ O7 = w5.heap.size) := ⟨hW5, hO7⟩
    clear hW5 hO7 hb6 ho5 H5 HX1 H1
    go_upto_region 6 with fail
    try rw [HW5.out.1]
    try rw [← HW5.out.2]
    clear HW5
    obtain ⟨a0, a1, a2, a3, a4, a5, a6, a7, a8, a9, a10⟩ := box11 H6.out.2.2.1
    obtain ⟨b0, b1, b2, b3, b4, b5, b6, b7, b8, b9, b10⟩ := box11 H6.out.2.2.2
    have Q1 := lineRight_impl (⟨l.partner, l.ref, l.no, l.item, l.ordered, l.sent, l.got + f, l.cut⟩ : OLn)
    have hxok : LnOk (⟨l.partner, l.ref, l.no, l.item, l.ordered, l.sent, l.got + f, l.cut⟩ : OLn) := ⟨hok.p, hok.r, hok.i, hok.n1, hok.n2, hok.o1, hok.o2, by show 0 ≤ l.sent; omega, by show 0 ≤ (l.got + f); omega, by show 0 ≤ l.cut; omega, by show (l.got + f) ≤ l.sent; omega, by show l.sent ≤ l.ordered; omega, by show l.cut ≤ l.ordered - l.sent; omega⟩
    rw [lnB_yes hxok] at Q1
    have Q2 := lineTransit_impl (⟨l.partner, l.ref, l.no, l.item, l.ordered, l.sent, l.got + f, l.cut⟩ : OLn)
    rw [trnT_yes hxok] at Q2
    have Q3 := lineOpen_impl (⟨l.partner, l.ref, l.no, l.item, l.ordered, l.sent, l.got + f, l.cut⟩ : OLn)
    rw [opnT_yes hxok] at Q3
    dsimp only at Q1 Q2 Q3
    clear hxok hok
    go_wp2_with fail
    refine (Q1 _).mono ?_
    rintro e w7 ⟨rfl, hb7⟩
    have H7 : Hid (Below w.heap.size w w7 ∧ w7.heap[P]? = some (.cells #[.string l.partner, .string l.ref, .int .i64 l.no, .string l.item, .int .i64 l.ordered, .int .i64 l.sent, .int .i64 l.got, .int .i64 l.cut] 24) ∧ w7.heap[O7]? = some (.cells #[.string l.partner, .string l.ref, .int .i64 l.no, .string l.item, .int .i64 l.ordered, .int .i64 l.sent, .int .i64 (l.got + f), .int .i64 l.cut, .int .i64 f, .int .i64 (qty - f), .int .i64 0] 28)) := ⟨H6.out.1.trans (hb7.mono H6.out.1.size), (hb7.block _ (Array.getElem?_eq_some_iff.1 H6.out.2.1).1).trans H6.out.2.1, (hb7.block _ (Array.getElem?_eq_some_iff.1 H6.out.2.2.2).1).trans H6.out.2.2.2⟩
    have HC7 : Hid (∀ W, Below w7.heap.size w7 W → W.cell? ⟨O7, 0, none⟩ = some (.string l.partner) ∧ W.cell? ⟨O7, 1, none⟩ = some (.string l.ref) ∧ W.cell? ⟨O7, 2, none⟩ = some (.int .i64 l.no) ∧ W.cell? ⟨O7, 3, none⟩ = some (.string l.item) ∧ W.cell? ⟨O7, 4, none⟩ = some (.int .i64 l.ordered) ∧ W.cell? ⟨O7, 5, none⟩ = some (.int .i64 l.sent) ∧ W.cell? ⟨O7, 6, none⟩ = some (.int .i64 (l.got + f)) ∧ W.cell? ⟨O7, 7, none⟩ = some (.int .i64 l.cut) ∧ W.cell? ⟨O7, 8, none⟩ = some (.int .i64 f) ∧ W.cell? ⟨O7, 9, none⟩ = some (.int .i64 (qty - f)) ∧ W.cell? ⟨O7, 10, none⟩ = some (.int .i64 0)) := fun W hW => box11 ((hW.block _ (Array.getElem?_eq_some_iff.1 H7.out.2.2).1).trans H7.out.2.2)
    clear hb7 a0 a1 a2 a3 a4 a5 a6 a7 a8 a9 a10 b0 b1 b2 b3 b4 b5 b6 b7 b8 b9 b10 H6 Q1
    obtain ⟨b0, b1, b2, b3, b4, b5, b6, b7, b8, b9, b10⟩ := HC7.out w7 (Below.refl _ _)
    go_upto_region 12 with fail
    go_cut [8] from 58 to 72 (fun s8 wx => s8 = .int .i64 l.ordered ∧ Below w7.heap.size w7 wx)
    case first =>
      go_region_held3 (fun W => W.cell? ⟨O7, 0, none⟩ = some (.string l.partner) ∧ W.cell? ⟨O7, 1, none⟩ = some (.string l.ref) ∧ W.cell? ⟨O7, 2, none⟩ = some (.int .i64 l.no) ∧ W.cell? ⟨O7, 3, none⟩ = some (.string l.item) ∧ W.cell? ⟨O7, 4, none⟩ = some (.int .i64 l.ordered) ∧ W.cell? ⟨O7, 5, none⟩ = some (.int .i64 l.sent) ∧ W.cell? ⟨O7, 6, none⟩ = some (.int .i64 (l.got + f)) ∧ W.cell? ⟨O7, 7, none⟩ = some (.int .i64 l.cut) ∧ W.cell? ⟨O7, 8, none⟩ = some (.int .i64 f) ∧ W.cell? ⟨O7, 9, none⟩ = some (.int .i64 (qty - f)) ∧ W.cell? ⟨O7, 10, none⟩ = some (.int .i64 0)) (go_keep) (first | (go_at_call 9; refine (Q2 _).mono ?_; rintro e wa ⟨rfl, hba⟩; have ba : Below w7.heap.size w7 wa := (by with_reducible first | exact hba | exact undrewL hba); obtain ⟨d0, d1, d2, d3, d4, d5, d6, d7, d8, d9, d10⟩ := HC7.out wa ba; clear hba; try dsimp only) | (go_at_call 10; refine (Q3 _).mono ?_; rintro e wb ⟨rfl, hbb⟩; have bb : Below w7.heap.size w7 wb := ba.trans ((by with_reducible first | exact hbb | exact undrewL hbb : Below wa.heap.size wa wb).mono ba.size); obtain ⟨g0, g1, g2, g3, g4, g5, g6, g7, g8, g9, g10⟩ := HC7.out wb bb; clear hbb; try dsimp only) | fail)
      all_goals rename_i hHeld
      all_goals clear hHeld
      all_goals go_wp2_with fail
      all_goals go_meet
      all_goals refine ⟨?_, bb⟩
      all_goals rw [wrapI (z := (l.got + f) + (l.sent - (l.got + f))) (by omega) (by omega), wrapI (z := (l.got + f) + (l.sent - (l.got + f)) + (l.ordered - l.sent - l.cut)) (by omega) (by omega), wrapI (z := (l.got + f) + (l.sent - (l.got + f)) + (l.ordered - l.sent - l.cut) + l.cut) (by omega) (by omega)]
      all_goals congr 1
      all_goals omega
    case rest =>
      obtain ⟨rfl, hb8⟩ := hcut
      rename World => w8
      have H8 : Hid (Below w.heap.size w w8 ∧ w8.heap[P]? = some (.cells #[.string l.partner, .string l.ref, .int .i64 l.no, .string l.item, .int .i64 l.ordered, .int .i64 l.sent, .int .i64 l.got, .int .i64 l.cut] 24) ∧ w8.heap[O7]? = some (.cells #[.string l.partner, .string l.ref, .int .i64 l.no, .string l.item, .int .i64 l.ordered, .int .i64 l.sent, .int .i64 (l.got + f), .int .i64 l.cut, .int .i64 f, .int .i64 (qty - f), .int .i64 0] 28)) := ⟨H7.out.1.trans (hb8.mono H7.out.1.size), (hb8.block _ (Array.getElem?_eq_some_iff.1 H7.out.2.1).1).trans H7.out.2.1, (hb8.block _ (Array.getElem?_eq_some_iff.1 H7.out.2.2).1).trans H7.out.2.2⟩
      clear hb8 b0 b1 b2 b3 b4 b5 b6 b7 b8 b9 b10 HC7 H7 Q2 Q3
      obtain ⟨b0, b1, b2, b3, b4, b5, b6, b7, b8, b9, b10⟩ := box11 H8.out.2.2
      obtain ⟨c0, c1, c2, c3, c4, c5, c6, c7⟩ := box8 H8.out.2.1
      have lb := cell_lt b0
      have lc := cell_lt c0
      go_upto_region 13 with fail
      go_cut [9] from 73 to 92 (fun s9 wx => s9 = .int .i64 f ∧ wx = w8)
      case first =>
        go_wp2_with fail
        go_meet
        exact ⟨by first | rfl | (congr 1; omega), rfl⟩
      case rest =>
        obtain ⟨rfl, rfl⟩ := hcut
        have mixed : Try.prog.follows .mixedOrders = true := by kernel_rfl
        have f0 := cell_grown lb b0
        have f1 := cell_grown lb b1
        have f2 := cell_grown lb b2
        have f3 := cell_grown lb b3
        have f4 := cell_grown lb b4
        have f5 := cell_grown lb b5
        have f6 := cell_grown lb b6
        have f7 := cell_grown lb b7
        have f8 := cell_grown lb b8
        have f9 := cell_grown lb b9
        have f10 := cell_grown lb b10
        have g0 := cell_grown lc c0
        have g1 := cell_grown lc c1
        have g2 := cell_grown lc c2
        have g3 := cell_grown lc c3
        have g4 := cell_grown lc c4
        have g5 := cell_grown lc c5
        have g6 := cell_grown lc c6
        have g7 := cell_grown lc c7
        clear b0 b1 b2 b3 b4 b5 b6 b7 b8 b9 b10 c0 c1 c2 c3 c4 c5 c6 c7
        go_upto_region 14 with fail
        by_cases hov : qty - f = 0
        · have hov1 : ((qty - f) == 0) = true := by simpa using hov
          refine wp_region_quiet_grown mixed (by kernel_rfl) ?_
          repeat (go_big_quiet_step (fail))
          refine wpQuiet_nil ?_
          intro _ hw'
          obtain ⟨⟨nq, osq⟩, hw''⟩ := hw'
          subst hw''
          go_wp2
          go_ret
          exact ⟨by first | rfl | simp, H8.out.1.trans ((Grw.below ⟨nq, osq, rfl⟩).mono H8.out.1.size)⟩
        · have hov1 : ((qty - f) == 0) = false := by simpa using hov
          have Q4 := lwMost_grw1 l  ⟨hk0, hk1, hk2, hk3, hk4, hk5, hk6, hk7⟩
          rw [show l.sent - l.got = f by omega] at Q4
          refine wp_region_quiet_grown mixed (by kernel_rfl) ?_
          repeat (go_big_quiet_step (first | (go_at_call 11; refine Calls.grown_of (Q4 _))))
          refine wpQuiet_nil ?_
          intro _ hw'
          obtain ⟨⟨nq, osq⟩, hw''⟩ := hw'
          subst hw''
          go_wp2
          go_ret
          exact ⟨by first | rfl | simp, H8.out.1.trans ((Grw.below ⟨nq, osq, rfl⟩).mono H8.out.1.size)⟩
theorem own : ownKnob Try.prog.godebug = none := by kernel_rfl
theorem laidOut : laidOutB Try.prog = true := by kernel_rfl
set_option maxRecDepth 100000 in
theorem lifted (os : Os) (started : os.Started) (H : Type) (enc : TypeId × Value → H) :
    ReturnsInHanded {} Try.checked os 3 .any (Rows.fnLineSumsSpec.pre6 enc Try.prog Try.f3 Rows.fnLineSumsRow.domain false) (Rows.fnLineSumsSpec.post enc Try.prog Try.f3 false true false false) := by
  refine returnsInHanded_of_change (C := Try.checked) own started (by kernel_rfl) Try.func3
    (ChangeSpec.witness6 (enc := enc) (C := Try.checked) false ⟨#[], #[.slice none 0 0], []⟩ 8 (by kernel_rfl) (by kernel_rfl) (by kernel_rfl) (by kernel_rfl)) ?_
  intro W base args ds gs before hval0 hW hcnd _
  have hval : ∀ (j : Nat) t v, Try.f3.params[j]? = some t → args[j]? = some v → Value.okWide Try.prog W .any base t v := hval0
  have hW' := hW
  obtain ⟨p, q, hA0, hV, rfl, hfz, hnd⟩ := hW
  have hA : DataW.TrodAll enc Try.prog W 0 (fun _ => true) true Try.f3.params.toList args.toList ds p := hA0
  rw [Try.params3] at hA hval
  obtain ⟨v0, vs0, d0, ds0, p0, q0, hargs, rfl, rfl, h0, r0⟩ := trodAll_cons hA
  obtain ⟨rfl, rfl, rfl⟩ := trodAll_nil r0
  obtain rfl : args = #[v0] := by cases args; simp_all
  obtain ⟨rfl, rfl⟩ := trodVars_none hV
  obtain ⟨a0, len0, cap0, rfl⟩ := okWide_slice Try.underlying22 (hval 0 22 v0 rfl rfl)
  have k0 := h0
  have lt0 : ∀ x ∈ p0, x.block < W.heap.size := by obtain ⟨m, hm⟩ := k0; exact DataW.trod_lt m _ _ _ hm
  obtain ⟨z0, w0⟩ : ∃ zs, IsRow .u8 W a0 len0 cap0 zs := by
    obtain ⟨fuel, hf⟩ := h0
    rcases open_ints Try.underlying22 Try.underlying5 (by kernel_rfl) hf with ⟨hcs, _⟩ | ⟨x, l, c, zs, hcs, _, hl, hm, hz, _, hcell, hwz⟩
    · simp [Value.cells] at hcs
      obtain ⟨rfl, rfl, rfl⟩ := hcs
      exact ⟨[], .inl ⟨rfl, rfl, rfl, rfl⟩⟩
    · simp [Value.cells] at hcs
      obtain ⟨rfl, rfl, rfl⟩ := hcs
      exact ⟨zs, .inr ⟨_, rfl, hl, hm, by simpa using hz, hcell, hwz⟩⟩
  clear hA0 hval0
  refine (walk a0 len0 cap0 z0 W w0).mono fun e W' ⟨he, bel⟩ => ?_
  subst he
  exact ⟨_, rfl, _, _, _, [], _, [], hW', trodAll_mk1 (shut_bool Try.underlying4 _), (trodAll_cons_mk (Below.trod laidOut (by kernel_rfl) (of_decide_eq_true (by kernel_rfl)) k0 bel lt0) trodAll_mk0), rfl, bel.frame _, fun h => by cases h⟩
theorem over : Rows.fnLineSumsRow.holds Try.pinned (OpenSpec.ofChange Rows.fnLineSumsSpec) :=
  OpenClaim.holds_of_wide 3 Try.f3 rfl rfl rfl rfl rfl rfl rfl ⟨rfl, rfl, rfl, rfl, rfl⟩ rfl rfl rfl rfl rfl (by kernel_rfl) Try.func3 (by kernel_rfl)
    (of_decide_eq_true (by kernel_rfl)) (by unfold Func.isWrapper; first | (rw [if_pos (by decide +kernel)]; kernel_rfl) | (rw [if_neg (by decide +kernel)]; exact ⟨rfl, rfl⟩))
    (fun os started H enc _ => lifted os started H enc)
end fnLineSums
theorem fnLineSums_holds : Rows.FnLineSumsSaid := fnLineSums.over
#print axioms fnLineSums_holds
end Go.Proofs.Ytnfidhfhmfggcaa
