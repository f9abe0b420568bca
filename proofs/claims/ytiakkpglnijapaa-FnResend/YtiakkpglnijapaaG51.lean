/- Texts of ours put together: TkA. -/
import Derived.Test.YtiakkpglnijapaaG29
import Derived.Test.YtiakkpglnijapaaG05
import Derived.Laws.LoneSync
import Derived.Laws.Pointers
namespace Go.Proofs.Ytiakkpglnijapaa
open Go.ChangeShapes Go.WideShapes Go.ChangeAt Go.RowKit
open Go.Sort
set_option maxHeartbeats 1000000 in
theorem lostOn_any (o : OutR) (d : Int) (w : World) : Calls Try.prog 39 #[.agg #[.string o.partner, .int .i64 o.number, .string o.text, .int .i64 o.tries, .int .i64 o.due], .int .i64 d] w fun e w' => e = .returned (.bool (lstB d o)) ∧ Below w.heap.size w w' := by
  obtain ⟨partner, number, text, tries, due⟩ := o
  dsimp only
  have HB : Hid (∀ o, Below w.heap.size w (w.alloc o)) := fun o => (Below.refl _ _).alloc (Nat.le_refl _) _
  by_cases h1 : due ≤ d
  · by_cases h2 : tries = 5
    · go_enter Try.func39, Try.ntmps39
      go_wp2
      go_ret
      exact ⟨ret_bool (by simp [lstB, h1, h2]), HB.out _⟩
    · go_enter Try.func39, Try.ntmps39
      go_wp2
      go_ret
      exact ⟨ret_bool (by simp [lstB, h1, h2]), HB.out _⟩
  · go_enter Try.func39, Try.ntmps39
    go_wp2
    go_ret
    exact ⟨ret_bool (by simp [lstB]; omega), HB.out _⟩
set_option maxHeartbeats 1000000 in
theorem sentOn_any (o : OutR) (d : Int) (w : World) : Calls Try.prog 34 #[.agg #[.string o.partner, .int .i64 o.number, .string o.text, .int .i64 o.tries, .int .i64 o.due], .int .i64 d] w fun e w' => e = .returned (.bool (sntB d o)) ∧ Below w.heap.size w w' := by
  obtain ⟨partner, number, text, tries, due⟩ := o
  dsimp only
  have HB : Hid (∀ o, Below w.heap.size w (w.alloc o)) := fun o => (Below.refl _ _).alloc (Nat.le_refl _) _
  by_cases h1 : due ≤ d
  · by_cases h2 : tries < 5
    · go_enter Try.func34, Try.ntmps34
      go_wp2
      go_ret
      exact ⟨ret_bool (by simp [sntB, h1, h2]), HB.out _⟩
    · go_enter Try.func34, Try.ntmps34
      go_wp2
      go_ret
      exact ⟨ret_bool (by simp [sntB, h1, h2]), HB.out _⟩
  · go_enter Try.func34, Try.ntmps34
    go_wp2
    go_ret
    exact ⟨ret_bool (by simp [sntB]; omega), HB.out _⟩
theorem store_any (B : Nat) (x : Int) (u : Value) (w : World) (h : w.cell? ⟨B, 0, none⟩ = some u) (hf : w.frozen? ⟨B, 0, none⟩ = false) :
    Calls Try.prog 55 #[.pointer (some ⟨B, 0, none⟩), .int .i64 x] w fun e w' => e = .returned (.tuple #[]) ∧ w' = w.setCell ⟨B, 0, none⟩ (.int .i64 x) := by
  have hs := run_call_store (P := Try.prog) (k := .i64) (y := x) Try.func61 (by kernel_rfl) (by kernel_rfl) (by kernel_rfl) (by kernel_rfl) h hf
  go_enter Try.func55, Try.ntmps55
  go_wp2
  exact ⟨rfl, .tuple #[], by simp [results, Try.results55, go_sem], rfl, rfl⟩
theorem add_any (B : Nat) (x : Int) (w : World) (h : w.cell? ⟨B, 0, none⟩ = some (.int .i64 x)) (hf : w.frozen? ⟨B, 0, none⟩ = false) (hx : 0 ≤ x ∧ x ≤ 1000) :
    Calls Try.prog 56 #[.pointer (some ⟨B, 0, none⟩), .int .i64 1] w fun e w' => e = .returned (.int .i64 (x + 1)) ∧ w' = w.setCell ⟨B, 0, none⟩ (.int .i64 (x + 1)) := by
  have hw : IntKind.i64.wrap (x + 1) = x + 1 := by rw [IntKind.wrap_i64]; omega
  have hs := run_call_add (P := Try.prog) Try.func62 (by kernel_rfl) (by kernel_rfl) (by kernel_rfl) .i64 (by kernel_rfl) (y := 1) (s := x + 1) h hf (by simp [go_sem, hw])
  go_enter Try.func56, Try.ntmps56
  go_wp2
  go_ret
  exact ⟨rfl, rfl⟩
set_option maxHeartbeats 4000000 in
theorem tried_any (o : OutR) (d : Int) (w : World) (ht : 0 ≤ o.tries ∧ o.tries ≤ 5) (hd : 0 ≤ d ∧ d ≤ 100000) : Calls Try.prog 35 #[.agg #[.string o.partner, .int .i64 o.number, .string o.text, .int .i64 o.tries, .int .i64 o.due], .int .i64 d] w fun e w' => e = .returned (.agg #[.string (trdO d o).partner, .int .i64 (trdO d o).number, .string (trdO d o).text, .int .i64 (trdO d o).tries, .int .i64 (trdO d o).due]) ∧ Below w.heap.size w w' := by
  obtain ⟨t1, t2⟩ := ht
  obtain ⟨d1, d2⟩ := hd
  obtain ⟨W1, hW1⟩ : ∃ W1, ((w.alloc (.cells #[.string o.partner, .int .i64 o.number, .string o.text, .int .i64 o.tries, .int .i64 o.due] 25)).alloc (.cells #[.string ⟨#[]⟩, .int .i64 0, .string ⟨#[]⟩, .int .i64 0, .int .i64 0] 25)).alloc (.cells #[.int .i64 0] 88) = W1 := ⟨_, rfl⟩
  have hb1 : Below w.heap.size w W1 := by rw [← hW1]; exact (((Below.refl _ _).alloc (Nat.le_refl _) _).alloc (by simp) _).alloc (by simp; omega) _
  obtain ⟨k0, k1, k2⟩ := fl_three w (.cells #[.string o.partner, .int .i64 o.number, .string o.text, .int .i64 o.tries, .int .i64 o.due] 25) (.cells #[.string ⟨#[]⟩, .int .i64 0, .string ⟨#[]⟩, .int .i64 0, .int .i64 0] 25) (.cells #[.int .i64 0] 88)
  rw [hW1] at k0 k1 k2
  obtain ⟨B, hB⟩ : ∃ B, B = w.heap.size := ⟨_, rfl⟩
  obtain ⟨R, hR⟩ : ∃ R, R = w.heap.size + 1 := ⟨_, rfl⟩
  obtain ⟨X, hX⟩ : ∃ X, X = w.heap.size + 1 + 1 := ⟨_, rfl⟩
  rw [← hB] at k0
  rw [← hR] at k1
  rw [← hX] at k2
  have HW : Hid (B = w.heap.size ∧ R = w.heap.size + 1 ∧ X = w.heap.size + 1 + 1) := ⟨hB, hR, hX⟩
  have hBX : B ≠ X := by omega
  have hRX : R ≠ X := by omega
  have hBR : B ≠ R := by omega
  have geB : w.heap.size ≤ B := by omega
  have geR : w.heap.size ≤ R := by omega
  have geX : w.heap.size ≤ X := by omega
  go_enter Try.func35, Try.ntmps35
  go_upto_region 2 with fail
  try rw [hW1]
  try rw [← hX]
  try rw [← hR]
  try rw [← hB]
  clear hW1 hB hR hX
  have hxc : W1.cell? ⟨X, 0, none⟩ = some (.int .i64 0) := by simp [World.cell?, k2]
  have hxf : W1.frozen? ⟨X, 0, none⟩ = false := by simp [World.frozen?, k2]
  obtain ⟨c0, c1, c2, c3, c4⟩ := box5 k0
  go_wp2_with fail
  refine (store_any X o.tries _ _ hxc hxf).mono ?_
  rintro e w2 ⟨rfl, hw2⟩
  have m0 : w2.heap[B]? = some (.cells #[.string o.partner, .int .i64 o.number, .string o.text, .int .i64 o.tries, .int .i64 o.due] 25) := by rw [hw2, set_other _ _ _ _ _ hBX]; exact k0
  have m1 : w2.heap[R]? = some (.cells #[.string ⟨#[]⟩, .int .i64 0, .string ⟨#[]⟩, .int .i64 0, .int .i64 0] 25) := by rw [hw2, set_other _ _ _ _ _ hRX]; exact k1
  have m2 : w2.heap[X]? = some (.cells #[.int .i64 o.tries] 88) := by rw [hw2]; simp [World.setCell, Array.getElem?_modify, k2]
  have hb2 : Below w.heap.size w w2 := by rw [hw2]; exact hb1.setCell geX _
  clear hw2 k0 k1 k2 hb1 hxc hxf c0 c1 c2 c3 c4
  have hxc : w2.cell? ⟨X, 0, none⟩ = some (.int .i64 o.tries) := by simp [World.cell?, m2]
  have hxf : w2.frozen? ⟨X, 0, none⟩ = false := by simp [World.frozen?, m2]
  obtain ⟨c0, c1, c2, c3, c4⟩ := box5 m0
  go_wp2_with fail
  refine (add_any X o.tries _ hxc hxf ⟨by omega, by omega⟩).mono ?_
  rintro e w3 ⟨rfl, hw3⟩
  have n0 : w3.heap[B]? = some (.cells #[.string o.partner, .int .i64 o.number, .string o.text, .int .i64 o.tries, .int .i64 o.due] 25) := by rw [hw3, set_other _ _ _ _ _ hBX]; exact m0
  have n1 : w3.heap[R]? = some (.cells #[.string ⟨#[]⟩, .int .i64 0, .string ⟨#[]⟩, .int .i64 0, .int .i64 0] 25) := by rw [hw3, set_other _ _ _ _ _ hRX]; exact m1
  have H3 : Hid (Below w.heap.size w w3 ∧ w3.heap[B]? = some (.cells #[.string o.partner, .int .i64 o.number, .string o.text, .int .i64 o.tries, .int .i64 o.due] 25) ∧ w3.heap[R]? = some (.cells #[.string ⟨#[]⟩, .int .i64 0, .string ⟨#[]⟩, .int .i64 0, .int .i64 0] 25)) := ⟨by rw [hw3]; exact hb2.setCell geX _, n0, n1⟩
  clear hw3 m0 m1 m2 hb2 hxc hxf c0 c1 c2 c3 c4
  obtain ⟨c0, c1, c2, c3, c4⟩ := box5 n0
  obtain ⟨z0, z1, z2, z3, z4⟩ := box5 n1
  have hfB : ∀ q, w3.frozen? ⟨B, q, none⟩ = false := fun q => by simp [World.frozen?, n0]
  have hfR : ∀ q, w3.frozen? ⟨R, q, none⟩ = false := fun q => by simp [World.frozen?, n1]
  clear n0 n1
  have hRB : R ≠ B := fun e => hBR e.symm
  by_cases hm : d + 3 * (o.tries + 1) ≤ 100000
  · have hm' : ¬ 100000 < d + 3 * (o.tries + 1) := by omega
    go_wp2
    have hR9 : ((w3.setCell ⟨B, 3, none⟩ (.int .i64 (o.tries + 1))).setCell ⟨B, 4, none⟩ (.int .i64 (d + 3 * (o.tries + 1)))).heap[R]? = some (.cells #[.string ⟨#[]⟩, .int .i64 0, .string ⟨#[]⟩, .int .i64 0, .int .i64 0] 25) := by rw [set_other _ _ _ _ _ hRB, set_other _ _ _ _ _ hRB]; exact H3.out.2.2
    obtain ⟨f0, f1, f2, f3, f4⟩ := box5 (set5 (y0 := .string o.partner) (y1 := .int .i64 o.number) (y2 := .string o.text) (y3 := .int .i64 (o.tries + 1)) (y4 := .int .i64 (d + 3 * (o.tries + 1))) hR9)
    refine bodyPost_ret (v := .agg #[.string o.partner, .int .i64 o.number, .string o.text, .int .i64 (o.tries + 1), .int .i64 (d + 3 * (o.tries + 1))]) (by simp [results, Try.results35, go_sem, f0, f1, f2, f3, f4]) rfl ⟨?_, (((((((H3.out.1.setCell geB _).setCell geB _).setCell geR _).setCell geR _).setCell geR _).setCell geR _).setCell geR _)⟩
    have e : min (d + 3 * (o.tries + 1)) 100000 = d + 3 * (o.tries + 1) := by omega
    simp only [trdO, e]
  · have hm' : 100000 < d + 3 * (o.tries + 1) := by omega
    go_wp2
    have hR9 : ((w3.setCell ⟨B, 3, none⟩ (.int .i64 (o.tries + 1))).setCell ⟨B, 4, none⟩ (.int .i64 (100000))).heap[R]? = some (.cells #[.string ⟨#[]⟩, .int .i64 0, .string ⟨#[]⟩, .int .i64 0, .int .i64 0] 25) := by rw [set_other _ _ _ _ _ hRB, set_other _ _ _ _ _ hRB]; exact H3.out.2.2
    obtain ⟨f0, f1, f2, f3, f4⟩ := box5 (set5 (y0 := .string o.partner) (y1 := .int .i64 o.number) (y2 := .string o.text) (y3 := .int .i64 (o.tries + 1)) (y4 := .int .i64 (100000)) hR9)
    refine bodyPost_ret (v := .agg #[.string o.partner, .int .i64 o.number, .string o.text, .int .i64 (o.tries + 1), .int .i64 (100000)]) (by simp [results, Try.results35, go_sem, f0, f1, f2, f3, f4]) rfl ⟨?_, (((((((H3.out.1.setCell geB _).setCell geB _).setCell geR _).setCell geR _).setCell geR _).setCell geR _).setCell geR _)⟩
    have e : min (d + 3 * (o.tries + 1)) 100000 = 100000 := by omega
    simp only [trdO, e]
end Go.Proofs.Ytiakkpglnijapaa
