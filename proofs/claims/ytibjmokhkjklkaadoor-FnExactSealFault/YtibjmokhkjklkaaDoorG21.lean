/- Texts of ours put together: SlD2. -/
import Derived.Test.YtibjmokhkjklkaaDoorG18
import Derived.Test.YtibjmokhkjklkaaDoorG08
import Derived.Test.YtibjmokhkjklkaaDoorG20
import Derived.Deep.RegionLaw
namespace Go.Proofs.YtibjmokhkjklkaaDoor
open Go.ChangeShapes Go.WideShapes Go.ChangeAt Go.RowKit
set_option maxRecDepth 100000 in
set_option maxHeartbeats 8000000 in
theorem seal_any {r : Nat → Value} (B N S : Nat) (x : Int) (e : EvR) (ho : EvOk e) (w : World) (h : Sl r B N S x w) (hw : WrdAt w) :
    Calls Tryd.prog 39 #[.agg #[.int .i64 e.kind, .string e.a, .string e.b, .string e.c], .pointer (some ⟨N, 0, none⟩), .pointer (some ⟨S, 0, none⟩)] w fun v w' => v = .returned (.int .i64 (sealT x (evX e))) ∧ Sl r B N S (sealT x (evX e)) w' ∧ KeepS B N w w' := by
  obtain ⟨W0, hW0⟩ : ∃ W0, w.alloc (.cells #[.int .i64 e.kind, .string e.a, .string e.b, .string e.c] 40) = W0 := ⟨_, rfl⟩
  have hb0 : Below w.heap.size w W0 := by rw [← hW0]; exact (Below.refl _ _).alloc (Nat.le_refl _) _
  have k0 : W0.heap[w.heap.size]? = some (.cells #[.int .i64 e.kind, .string e.a, .string e.b, .string e.c] 40) := by rw [← hW0]; exact World.alloc_heap_new _ _
  have hS0 := h.below hb0
  obtain ⟨x0, x1, x2, x3⟩ := bx4e k0
  obtain ⟨n0, _⟩ := bx1S hS0.num
  obtain ⟨s0, _⟩ := bx1S hS0.scr
  have hsz := evX_size (evB_yes ho)
  obtain ⟨t, ht⟩ : ∃ t, t = evX e := ⟨_, rfl⟩
  obtain ⟨y, hy⟩ : ∃ y, y = sealT x t := ⟨_, rfl⟩
  have HQ : Hid (∀ W, Below W0.heap.size W0 W → Calls Tryd.prog 41 #[.pointer (some ⟨B, 0, none⟩), .agg #[.int .i64 e.kind, .string e.a, .string e.b, .string e.c]] W fun x w' => x = .returned (.string t) ∧ Dgt false 88 21 r B w' ∧ W.grownBy w' (some B)) := fun W hW => by
    rw [ht]
    exact text_ev B e ho W (hS0.dgt.below hW) (Nat.lt_of_lt_of_le hS0.lt hW.size) ((hw.below hb0).below hW)
  have HX : Hid (∀ W, Calls Tryd.prog 40 #[.int .i64 x, .string t] W fun v w' => v = .returned (.int .i64 y) ∧ Below W.heap.size W w') := fun W => by
    rw [hy]
    exact sealSum_impl x t W (by rw [ht]; omega)
  have HB : Hid (Below w.heap.size w W0 ∧ Sl r B N S x W0 ∧ y = sealT x (evX e)) := ⟨hb0, hS0, by rw [hy, ht]⟩
  clear h hw hb0 k0 hS0 hsz hy ht
  go_enter Tryd.func39, Tryd.ntmps39
  go_upto_region 1 with fail
  try rw [hW0]
  clear hW0
  have n1 : W0.drew.cell? ⟨N, 0, none⟩ = some (.int .i64 x) := n0
  have s1 : W0.drew.cell? ⟨S, 0, none⟩ = some (.pointer (some ⟨B, 0, none⟩)) := s0
  go_region_law (first | (go_simp; go_at_call 41; refine (HQ.out _ (Below.refl _ _).drew).mono ?_; rintro v w1 ⟨rfl, hd1, hg1⟩; have H1 : Hid (Sl r B N S x w1 ∧ KeepS B N W0 w1) := ⟨(HB.out.2.1.below (Below.refl _ _).drew).gby hg1 hd1, (KeepS.of_below (Below.refl _ _).drew).trans (KeepS.of_gby hg1)⟩; obtain ⟨n2, _⟩ := bx1S H1.out.1.num; clear hd1 hg1; try dsimp only) | (go_simp; go_at_call 40; refine (HX.out _).mono ?_; rintro v w2 ⟨rfl, hb2⟩; have H2 : Hid (Sl r B N S x w2 ∧ KeepS B N W0 w2) := ⟨H1.out.1.below hb2, H1.out.2.trans (KeepS.of_below hb2)⟩; obtain ⟨n3, f3⟩ := bx1S H2.out.1.num; clear hb2; try dsimp only))
  all_goals (
    have H3 : Hid (Sl r B N S y (w2.setCell ⟨N, 0, none⟩ (.int .i64 y)) ∧ KeepS B N w (w2.setCell ⟨N, 0, none⟩ (.int .i64 y))) := ⟨H2.out.1.set y, ((KeepS.of_below HB.out.1).trans H2.out.2).trans (KeepS.set _ _)⟩
    obtain ⟨n4, _⟩ := bx1S H3.out.1.num
    go_wp2
    go_ret
    exact ⟨by rw [HB.out.2.2]; rfl, by rw [← HB.out.2.2]; exact H3.out.1, H3.out.2⟩)
set_option maxHeartbeats 4000000 in
theorem sealsFrom_any (x : Int) (w : World) : Calls Tryd.prog 26 #[.int .i64 x] w fun v w' => ∃ r B N S, v = .returned (.func (.func 39) #[] #[.pointer (some ⟨N, 0, none⟩), .pointer (some ⟨S, 0, none⟩)]) ∧ (w.heap.size ≠ 0 → Sl r B N S x w') ∧ Below w.heap.size w w' ∧ w.heap.size ≤ B ∧ w.heap.size ≤ N ∧ N < w'.heap.size ∧ S < w'.heap.size := by
  go_enter Tryd.func26, Tryd.ntmps26
  go_wp2_with fail
  refine (newScribe_any w).mono ?_
  rintro e w1 ⟨rfl, hr, _, hb⟩
  obtain ⟨r, hrr⟩ : ∃ r, r = scR (w.heap.size + 1) := ⟨_, rfl⟩
  have HR : Hid (Dgt false 88 21 r w.heap.size w1 ∧ Below w.heap.size w w1 ∧ w.heap.size < w1.heap.size) := ⟨.new (by rw [hrr]; exact hr), hb, hr.lt⟩
  clear hr hb hrr
  obtain ⟨W2, hW2⟩ : ∃ W2, (w1.alloc (.cells #[.pointer (some ⟨w.heap.size, 0, none⟩)] 58)).alloc (.cells #[.int .i64 x] 2) = W2 := ⟨_, rfl⟩
  have hb2 : Below w1.heap.size w1 W2 := by rw [← hW2]; exact ((Below.refl _ _).alloc (Nat.le_refl _) _).alloc (by simp) _
  have k0 : W2.heap[w1.heap.size]? = some (.cells #[.pointer (some ⟨w.heap.size, 0, none⟩)] 58) := by
    have e : W2.heap = (w1.heap.push (.cells #[.pointer (some ⟨w.heap.size, 0, none⟩)] 58)).push (.cells #[.int .i64 x] 2) := by rw [← hW2]; rfl
    rw [e, Array.getElem?_push, if_neg (by simp), Array.getElem?_push, if_pos rfl]
  have k1 : W2.heap[w1.heap.size + 1]? = some (.cells #[.int .i64 x] 2) := by
    have e : W2.heap = (w1.heap.push (.cells #[.pointer (some ⟨w.heap.size, 0, none⟩)] 58)).push (.cells #[.int .i64 x] 2) := by rw [← hW2]; rfl
    rw [e, Array.getElem?_push, if_pos (by simp)]
  have hz : W2.heap.size = w1.heap.size + 1 + 1 := by rw [← hW2]; simp
  have HE : Hid ((w.heap.size ≠ 0 → Sl r w.heap.size (w1.heap.size + 1) w1.heap.size x W2) ∧ Below w.heap.size w W2 ∧ w.heap.size ≤ w1.heap.size + 1 ∧ w1.heap.size + 1 < W2.heap.size ∧ w1.heap.size < W2.heap.size) := ⟨fun h0 => ⟨k1, k0, HR.out.1.below hb2, ⟨by have := HR.out.2.2; omega, by have := HR.out.2.2; omega, by omega, h0⟩, by have := HR.out.2.2; omega⟩, HR.out.2.1.trans (hb2.mono HR.out.2.1.size), by have := HR.out.2.2; omega, by omega, by omega⟩
  go_wp2
  try rw [hW2]
  go_ret
  exact ⟨r, w.heap.size, w1.heap.size + 1, w1.heap.size, rfl, HE.out.1, HE.out.2.1, Nat.le_refl _, HE.out.2.2.1, HE.out.2.2.2.1, HE.out.2.2.2.2⟩
end Go.Proofs.YtibjmokhkjklkaaDoor
