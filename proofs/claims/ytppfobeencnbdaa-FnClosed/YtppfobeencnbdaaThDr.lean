/- Contracts of the model's DrawCloseLines and DrawThreeCount. -/
import Derived.Test.YtppfobeencnbdaaLnL
import Derived.Test.YtppfobeencnbdaaPick
namespace Go.Proofs.Ytppfobeencnbdaa
open Go.ChangeShapes Go.WideShapes Go.ChangeAt Go.RowKit
theorem QLn.belowT {B : Nat} {w W W' : World} {v : Value} {rs : List OLn} (h : QLn B w W v rs) (hb : Below W.heap.size W W') : QLn B w W' v rs :=
  ⟨h.src.below (hb.mono h.src.lt), h.kp.trans (Keep.of_below hb), h.hB, h.row.below hb, h.sh, h.sm⟩
set_option maxRecDepth 100000 in
set_option maxHeartbeats 4000000 in
theorem drawCloseLines_any (a : Option Addr) (len cap : Nat) (zs : List Int) (w : World) (hl : len ≤ 1048576) (hr : BytesAt w a len zs) :
    Calls Try.prog 10 #[.slice a len cap] w fun e w' => ∃ (ad : Addr) (C : Nat) (rs : List OLn), e = .returned (.slice (some ad) rs.length C) ∧ RowOl w' (.slice (some ad) rs.length C) rs ∧ (∀ g ∈ rs, SmL g) ∧ rs.length ≤ 250 ∧ Below w.heap.size w w' := by
  have HR : Hid (BytesAt w a len zs) := hr
  clear hr
  go_enter Try.func10, Try.ntmps10
  go_wp2_with fail
  refine (source_any a len cap zs _ hl HR.out).mono ?_
  rintro e w1 ⟨rfl, hs1, hb1⟩
  obtain ⟨B, hB⟩ : ∃ B, B = w.heap.size := ⟨_, rfl⟩
  rw [← hB] at hs1
  have H1 : Hid (IsSrc B w1 ∧ Below w.heap.size w w1) := ⟨hs1, hb1⟩
  have HB : Hid (B = w.heap.size) := hB
  clear hs1 hb1 HR hB
  try rw [← HB.out]
  go_wp2_with fail
  try rw [← HB.out]
  refine (l09Lines_any B _ H1.out.1).mono ?_
  rintro e w2 ⟨v, rs, rfl, hq, hl2⟩
  obtain ⟨ad, C, rfl, had⟩ := hq.sh
  have H2 : Hid (QLn B w1 w2 (.slice (some ad) rs.length C) rs) := hq
  clear hq
  have HF : Hid (Below w.heap.size w w2) := H1.out.2.trans (H2.out.kp.below (Nat.le_of_eq HB.out.symm) H1.out.2.size)
  go_wp2
  go_ret
  exact ⟨ad, C, rs, rfl, H2.out.row, H2.out.sm, hl2, HF.out⟩
theorem box3D {W : World} {b t : Nat} {x0 x1 x2 : Value} (h : W.heap[b]? = some (.cells #[x0, x1, x2] t)) : W.cell? ⟨b, 0, none⟩ = some x0 ∧ W.cell? ⟨b, 1, none⟩ = some x1 ∧ W.cell? ⟨b, 2, none⟩ = some x2 := by
  refine ⟨?_, ?_, ?_⟩ <;> simp [World.cell?, h]
set_option maxRecDepth 100000 in
set_option maxHeartbeats 4000000 in
theorem drawThreeCount_any (a : Option Addr) (len cap : Nat) (zs : List Int) (w : World) (hl : len ≤ 1048576) (hr : BytesAt w a len zs) :
    Calls Try.prog 6 #[.slice a len cap] w fun e w' => ∃ (ad : Addr) (C : Nat) (rs : List OLn) (q : ByteArray), e = .returned (.tuple #[.slice (some ad) rs.length C, .string q]) ∧ RowOl w' (.slice (some ad) rs.length C) rs ∧ (∀ g ∈ rs, SmL g) ∧ rs.length ≤ 250 ∧ q.size ≤ 12 ∧ Below w.heap.size w w' := by
  have HR : Hid (BytesAt w a len zs) := hr
  clear hr
  go_enter Try.func6, Try.ntmps6
  go_wp2_with fail
  refine (source_any a len cap zs _ hl HR.out).mono ?_
  rintro e w1 ⟨rfl, hs1, hb1⟩
  obtain ⟨B, hB⟩ : ∃ B, B = w.heap.size := ⟨_, rfl⟩
  rw [← hB] at hs1
  have H1 : Hid (IsSrc B w1 ∧ Below w.heap.size w w1) := ⟨hs1, hb1⟩
  have HB : Hid (B = w.heap.size) := hB
  clear hs1 hb1 HR hB
  try rw [← HB.out]
  go_wp2_with fail
  try rw [← HB.out]
  refine (l09Lines_any B _ H1.out.1).mono ?_
  rintro e w2 ⟨v, rs, rfl, hq, hl2⟩
  obtain ⟨ad, C, rfl, had⟩ := hq.sh
  have H2 : Hid (QLn B w1 w2 (.slice (some ad) rs.length C) rs) := hq
  clear hq
  go_upto_region 3 with fail
  obtain ⟨W3, hW3⟩ : ∃ W3, w2.alloc (.cells #[.string ⟨#[]⟩, .string ⟨#[65, 67, 77, 69]⟩, .string ⟨#[66, 79, 76, 84]⟩] 9) = W3 := ⟨_, rfl⟩
  have hb3 : Below w2.heap.size w2 W3 := by rw [← hW3]; exact (Below.refl _ _).alloc (Nat.le_refl _) _
  have i3 : W3.heap[w2.heap.size]? = some (.cells #[.string ⟨#[]⟩, .string ⟨#[65, 67, 77, 69]⟩, .string ⟨#[66, 79, 76, 84]⟩] 9) := by rw [← hW3]; exact World.alloc_heap_new _ _
  have H3 : Hid (QLn B w1 W3 (.slice (some ad) rs.length C) rs) := H2.out.belowT hb3
  have hne : w2.heap.size ≠ B := by have := H2.out.src.lt; omega
  have QP := pick_any B w2.heap.size 3 3 [⟨#[]⟩, ⟨#[65, 67, 77, 69]⟩, ⟨#[66, 79, 76, 84]⟩] W3 (by omega) (by omega) rfl hne (fun i t hi => by
    obtain ⟨c0, c1, c2⟩ := box3D i3
    match i, hi with
    | 0, hi => simp at hi; rw [← hi]; exact c0
    | 1, hi => simp at hi; rw [← hi]; exact c1
    | 2, hi => simp at hi; rw [← hi]; exact c2
    | n + 3, hi => simp at hi) H3.out.src
  have HW3 : Hid (w2.alloc (.cells #[.string ⟨#[]⟩, .string ⟨#[65, 67, 77, 69]⟩, .string ⟨#[66, 79, 76, 84]⟩] 9) = W3) := hW3
  clear hW3 hb3 i3 hne
  go_wp2_with fail
  try rw [HW3.out]
  refine QP.mono ?_
  rintro e w4 ⟨q, rfl, hq, s4, k4⟩
  have H4 : Hid (QLn B w1 w4 (.slice (some ad) rs.length C) rs ∧ q.size ≤ 12) := ⟨H3.out.keep k4 s4, by
    simp only [List.mem_cons, List.not_mem_nil, or_false] at hq
    rcases hq with rfl | rfl | rfl <;> decide⟩
  clear hq s4 k4 QP HW3
  have HF : Hid (Below w.heap.size w w4) := H1.out.2.trans (H4.out.1.kp.below (Nat.le_of_eq HB.out.symm) H1.out.2.size)
  go_wp2
  go_ret2
  exact ⟨ad, C, rs, q, rfl, H4.out.1.row, H4.out.1.sm, hl2, H4.out.2, HF.out⟩
end Go.Proofs.Ytppfobeencnbdaa
