/- FnExactSegmentsRead returns true at every syntax and every text and leaves them as they were: SegmentsRead answers as its model, in memory of its own that no later call changes; no condition. -/
import Derived.Test.YtpojmeeoomcigaaSegsReadS
import Derived.Test.YtpojmeeoomcigaaMarkLO
import Derived.Test.YtpojmeeoomcigaaToSyn
import Derived.Lib.SmallJoins
namespace Go.Proofs.Ytpojmeeoomcigaa
open Go.ChangeShapes Go.WideShapes Go.ChangeAt Go.RowKit Go.Joins
open Go.ChangeMaps (open_string shut_string)
set_option linter.unusedVariables false
namespace fnExactSegmentsRead
/-- What is no row of texts and lies there. -/
theorem keepS_obj {W W' : World} (h : KeepS W W') {k : Nat} {c : Array Value} {t : TypeId} (hk : W.heap[k]? = some (.cells c t)) (ht : t ≠ 9) (ht2 : t ≠ 27) : W'.heap[k]? = some (.cells c t) :=
  (h k (Array.getElem?_eq_some_iff.1 hk).1 (fun c' e => by rw [hk] at e; simp at e; exact ht e.2) (fun c' e => by rw [hk] at e; simp at e; exact ht2 e.2)).trans hk
theorem bel_obj {W W' : World} (h : Below W.heap.size W W') {k : Nat} {o : Obj} (hk : W.heap[k]? = some o) : W'.heap[k]? = some o :=
  (h.block k (Array.getElem?_eq_some_iff.1 hk).1).trans hk
set_option maxRecDepth 20000 in
set_option maxHeartbeats 4000000 in
theorem walk (a b c d : Int) (s : ByteArray) (w : World) (hs : s.size ≤ maxLen) : Calls Try.prog 7 #[.agg #[.int .i64 a, .int .i64 b, .int .i64 c, .int .i64 d], .string s] w fun e w' => e = .returned (.bool true) ∧ Below w.heap.size w w' := by
  clear hs
  by_cases hg : 1048576 < s.size
  · have hg' : (1048576 : Int) < (s.size : Int) := by omega
    go_enter Try.func7, Try.ntmps7
    go_wp2
    go_ret
    exact ⟨rfl, (Below.refl _ _).alloc (Nat.le_refl _) _⟩
  · have hg' : (s.size : Int) ≤ 1048576 := by omega
    obtain ⟨hX, hl⟩ := rdsR_facts a b c d s
    obtain ⟨r, hr⟩ : ∃ r, rdsR a b c d s = r := ⟨_, rfl⟩
    have hI0 : ∀ W, Calls Try.prog 20 #[.agg #[.int .i64 a, .int .i64 b, .int .i64 c, .int .i64 d], .string s] W fun e w' => ∃ (v : Value) (ps : List (Value × List Value)), e = .returned (.agg #[v, .int .i64 r.2.1, .int .i64 r.2.2.1, .int .i64 r.1]) ∧ OwnL W.heap.size w' v ps r.2.2.2 ∧ Below W.heap.size W w' := fun W => by
      have := segsRead_any a b c d s W
      rwa [hr] at this
    have hS0 : ∀ W, Calls Try.prog 27 #[.agg #[.int .i64 a, .int .i64 b, .int .i64 c, .int .i64 d], .string s] W fun e w' => ∃ (v : Value) (ps : List (Value × List Value)), e = .returned (.agg #[v, .int .i64 r.2.1, .int .i64 r.2.2.1, .int .i64 r.1]) ∧ OwnL W.heap.size w' v ps r.2.2.2 ∧ Below W.heap.size W w' := fun W => by
      refine (segsRead_spec a b c d s W r hr).mono ?_
      rintro e w' ⟨v, he, ⟨ps, hO⟩, hb⟩
      exact ⟨v, ps, he, hO, hb⟩
    rw [hr] at hX hl
    obtain ⟨gs, hes⟩ : ∃ gs, r.2.2.2 = gs := ⟨_, rfl⟩
    obtain ⟨x, hx⟩ : ∃ x, r.2.1 = x := ⟨_, rfl⟩
    obtain ⟨y, hy⟩ : ∃ y, r.2.2.1 = y := ⟨_, rfl⟩
    obtain ⟨z, hz⟩ : ∃ z, r.1 = z := ⟨_, rfl⟩
    rw [hes] at hX hl hI0 hS0
    rw [hx, hy, hz] at hI0 hS0
    have HI : Hid ((∀ W, Calls Try.prog 20 #[.agg #[.int .i64 a, .int .i64 b, .int .i64 c, .int .i64 d], .string s] W fun e w' => ∃ (v : Value) (ps : List (Value × List Value)), e = .returned (.agg #[v, .int .i64 x, .int .i64 y, .int .i64 z]) ∧ OwnL W.heap.size w' v ps gs ∧ Below W.heap.size W w') ∧ (∀ W, Calls Try.prog 27 #[.agg #[.int .i64 a, .int .i64 b, .int .i64 c, .int .i64 d], .string s] W fun e w' => ∃ (v : Value) (ps : List (Value × List Value)), e = .returned (.agg #[v, .int .i64 x, .int .i64 y, .int .i64 z]) ∧ OwnL W.heap.size w' v ps gs ∧ Below W.heap.size W w') ∧ BdL gs) := ⟨hI0, hS0, hX⟩
    clear hI0 hS0 hX hr hes hx hy hz
    have hof := offL_le HI.out.2.2 gs.length (Nat.le_refl _)
    go_enter Try.func7, Try.ntmps7
    go_wp2_with fail
    refine (toSyntax_any a b c d _).mono ?_
    rintro e w1 ⟨rfl, hb1⟩
    have q0 : w1.heap[w.heap.size]? = some (.cells #[.int .i64 a, .int .i64 b, .int .i64 c, .int .i64 d] 50) := bel_obj hb1 (World.alloc_heap_new w _)
    have B1 : Below w.heap.size w w1 := ((Below.refl _ _).alloc (Nat.le_refl _) _).trans (hb1.mono (by simp))
    have H1 : Hid (w1.heap[w.heap.size]? = some (.cells #[.int .i64 a, .int .i64 b, .int .i64 c, .int .i64 d] 50) ∧ Below w.heap.size w w1) := ⟨q0, B1⟩
    clear q0 B1 hb1
    go_wp2_with fail
    refine (HI.out.2.1 _).mono ?_
    rintro e w2 ⟨v0, ps0, rfl, hO0, hb2⟩
    obtain ⟨A0, C0, hv0⟩ := hO0.slice
    subst hv0
    have q0 : (w2.alloc (.cells #[.slice A0 gs.length C0, .int .i64 x, .int .i64 y, .int .i64 z] 45)).heap[w.heap.size]? = some (.cells #[.int .i64 a, .int .i64 b, .int .i64 c, .int .i64 d] 50) := bel_obj ((Below.refl _ _).alloc (Nat.le_refl _) _) (bel_obj hb2 H1.out.1)
    have p0 : (w2.alloc (.cells #[.slice A0 gs.length C0, .int .i64 x, .int .i64 y, .int .i64 z] 45)).heap[w2.heap.size]? = some (.cells #[.slice A0 gs.length C0, .int .i64 x, .int .i64 y, .int .i64 z] 45) := World.alloc_heap_new w2 _
    have z1 := (Array.getElem?_eq_some_iff.1 H1.out.1).1
    have z2 := hb2.size
    have B2 : Below w.heap.size w (w2.alloc (.cells #[.slice A0 gs.length C0, .int .i64 x, .int .i64 y, .int .i64 z] 45)) := (H1.out.2.trans (hb2.mono (by omega))).alloc (by omega) _
    have r0 : RowG (w2.alloc (.cells #[.slice A0 gs.length C0, .int .i64 x, .int .i64 y, .int .i64 z] 45)) (.slice A0 gs.length C0) gs := (hO0.rowG HI.out.2.2 hl).below ((Below.refl _ _).alloc (Nat.le_refl _) _)
    have s0 : (w2.alloc (.cells #[.slice A0 gs.length C0, .int .i64 x, .int .i64 y, .int .i64 z] 45)).cell? ⟨w.heap.size, 0, none⟩ = some (.int .i64 a) := by simp [World.cell?, q0]
    have s1 : (w2.alloc (.cells #[.slice A0 gs.length C0, .int .i64 x, .int .i64 y, .int .i64 z] 45)).cell? ⟨w.heap.size, 1, none⟩ = some (.int .i64 b) := by simp [World.cell?, q0]
    have s2 : (w2.alloc (.cells #[.slice A0 gs.length C0, .int .i64 x, .int .i64 y, .int .i64 z] 45)).cell? ⟨w.heap.size, 2, none⟩ = some (.int .i64 c) := by simp [World.cell?, q0]
    have s3 : (w2.alloc (.cells #[.slice A0 gs.length C0, .int .i64 x, .int .i64 y, .int .i64 z] 45)).cell? ⟨w.heap.size, 3, none⟩ = some (.int .i64 d) := by simp [World.cell?, q0]
    obtain ⟨W2, hW2⟩ : ∃ W2, W2 = w2.alloc (.cells #[.slice A0 gs.length C0, .int .i64 x, .int .i64 y, .int .i64 z] 45) := ⟨_, rfl⟩
    have z3 : W2.heap.size = w2.heap.size + 1 := by rw [hW2]; simp
    have H2 : Hid (W2.heap[w.heap.size]? = some (.cells #[.int .i64 a, .int .i64 b, .int .i64 c, .int .i64 d] 50) ∧ W2.heap[w2.heap.size]? = some (.cells #[.slice A0 gs.length C0, .int .i64 x, .int .i64 y, .int .i64 z] 45) ∧ Below w.heap.size w W2 ∧ RowG W2 (.slice A0 gs.length C0) gs) := by rw [hW2]; exact ⟨q0, p0, B2, r0⟩
    have HW2 : Hid (W2 = w2.alloc (.cells #[.slice A0 gs.length C0, .int .i64 x, .int .i64 y, .int .i64 z] 45)) := hW2
    clear q0 p0 B2 r0 hO0 hb2 hW2 H1
    go_wp2_with fail
    rw [← HW2.out]
    refine (toSyntax_any a b c d _).mono ?_
    rintro e w3 ⟨rfl, hb3⟩
    have z4 := hb3.size
    have H3 : Hid (Below W2.heap.size W2 w3) := hb3
    clear hb3 s0 s1 s2 s3
    go_wp2_with fail
    refine (HI.out.1 _).mono ?_
    rintro e w4 ⟨v1, ps1, rfl, hO1, hb4⟩
    obtain ⟨A1, C1, hv1⟩ := hO1.slice
    subst hv1
    have z5 := hb4.size
    have hb24 : Below W2.heap.size W2 (w4.alloc (.cells #[.slice A1 gs.length C1, .int .i64 x, .int .i64 y, .int .i64 z] 45)) := (H3.out.trans (hb4.mono z4)).alloc (by omega) _
    have hO4 : OwnL w3.heap.size (w4.alloc (.cells #[.slice A1 gs.length C1, .int .i64 x, .int .i64 y, .int .i64 z] 45)) (.slice A1 gs.length C1) ps1 gs := hO1.below ((Below.refl _ _).alloc (Nat.le_refl _) _)
    have p1 : (w4.alloc (.cells #[.slice A1 gs.length C1, .int .i64 x, .int .i64 y, .int .i64 z] 45)).heap[w4.heap.size]? = some (.cells #[.slice A1 gs.length C1, .int .i64 x, .int .i64 y, .int .i64 z] 45) := World.alloc_heap_new w4 _
    have q4 := bel_obj hb24 H2.out.1
    have p04 := bel_obj hb24 H2.out.2.1
    have m0 : (w4.alloc (.cells #[.slice A1 gs.length C1, .int .i64 x, .int .i64 y, .int .i64 z] 45)).cell? ⟨w2.heap.size, 0, none⟩ = some (.slice A0 gs.length C0) := by simp [World.cell?, p04]
    have m1 : (w4.alloc (.cells #[.slice A1 gs.length C1, .int .i64 x, .int .i64 y, .int .i64 z] 45)).cell? ⟨w2.heap.size, 1, none⟩ = some (.int .i64 x) := by simp [World.cell?, p04]
    have m2 : (w4.alloc (.cells #[.slice A1 gs.length C1, .int .i64 x, .int .i64 y, .int .i64 z] 45)).cell? ⟨w2.heap.size, 2, none⟩ = some (.int .i64 y) := by simp [World.cell?, p04]
    have m3 : (w4.alloc (.cells #[.slice A1 gs.length C1, .int .i64 x, .int .i64 y, .int .i64 z] 45)).cell? ⟨w2.heap.size, 3, none⟩ = some (.int .i64 z) := by simp [World.cell?, p04]
    obtain ⟨W4, hW4⟩ : ∃ W4, W4 = w4.alloc (.cells #[.slice A1 gs.length C1, .int .i64 x, .int .i64 y, .int .i64 z] 45) := ⟨_, rfl⟩
    have z6 : W4.heap.size = w4.heap.size + 1 := by rw [hW4]; simp
    rw [← hW4] at hb24 hO4 p1 q4 p04
    have H4 : Hid (W4.heap[w.heap.size]? = some (.cells #[.int .i64 a, .int .i64 b, .int .i64 c, .int .i64 d] 50) ∧ W4.heap[w2.heap.size]? = some (.cells #[.slice A0 gs.length C0, .int .i64 x, .int .i64 y, .int .i64 z] 45) ∧ W4.heap[w4.heap.size]? = some (.cells #[.slice A1 gs.length C1, .int .i64 x, .int .i64 y, .int .i64 z] 45) ∧ Below W2.heap.size W2 W4 ∧ OwnL w3.heap.size W4 (.slice A1 gs.length C1) ps1 gs ∧ RowG W4 (.slice A0 gs.length C0) gs) := ⟨q4, p04, p1, hb24, hO4, H2.out.2.2.2.below hb24⟩
    have HW4 : Hid (W4 = w4.alloc (.cells #[.slice A1 gs.length C1, .int .i64 x, .int .i64 y, .int .i64 z] 45)) := hW4
    clear q4 p04 p1 hb24 hO4 hO1 hb4 hW4 H3
    go_wp2_with fail
    rw [← HW4.out]
    refine (eqLO_any _ _ gs x y z _ (H4.out.2.2.2.2.1.rowG HI.out.2.2 hl) H4.out.2.2.2.2.2).mono ?_
    rintro e w5 ⟨rfl, hb5⟩
    have z7 := hb5.size
    have p15 := bel_obj hb5 H4.out.2.2.1
    have n0 : w5.cell? ⟨w4.heap.size, 0, none⟩ = some (.slice A1 gs.length C1) := by simp [World.cell?, p15]
    have n1 : w5.cell? ⟨w4.heap.size, 1, none⟩ = some (.int .i64 x) := by simp [World.cell?, p15]
    have n2 : w5.cell? ⟨w4.heap.size, 2, none⟩ = some (.int .i64 y) := by simp [World.cell?, p15]
    have n3 : w5.cell? ⟨w4.heap.size, 3, none⟩ = some (.int .i64 z) := by simp [World.cell?, p15]
    have H5 : Hid (w5.heap[w.heap.size]? = some (.cells #[.int .i64 a, .int .i64 b, .int .i64 c, .int .i64 d] 50) ∧ w5.heap[w2.heap.size]? = some (.cells #[.slice A0 gs.length C0, .int .i64 x, .int .i64 y, .int .i64 z] 45) ∧ w5.heap[w4.heap.size]? = some (.cells #[.slice A1 gs.length C1, .int .i64 x, .int .i64 y, .int .i64 z] 45) ∧ Below W2.heap.size W2 w5 ∧ OwnL w3.heap.size w5 (.slice A1 gs.length C1) ps1 gs) := ⟨bel_obj hb5 H4.out.1, bel_obj hb5 H4.out.2.1, p15, H4.out.2.2.2.1.trans (hb5.mono (by omega)), H4.out.2.2.2.2.1.below hb5⟩
    clear hb5 p15 H4 HW4 HW2
    go_wp2_with fail
    refine (markLO_any _ ps1 gs x y z w3.heap.size 1 _ H5.out.2.2.2.2 HI.out.2.2 hl (by omega) (by omega) (by omega)).mono ?_
    rintro e w6 ⟨rfl, hm6, hb6, hT6⟩
    have z8 := hb6.size
    have p16 := keepS_obj hT6 H5.out.2.2.1 (by decide) (by decide)
    have n0 : w6.cell? ⟨w4.heap.size, 0, none⟩ = some (.slice A1 gs.length C1) := by simp [World.cell?, p16]
    have n1 : w6.cell? ⟨w4.heap.size, 1, none⟩ = some (.int .i64 x) := by simp [World.cell?, p16]
    have n2 : w6.cell? ⟨w4.heap.size, 2, none⟩ = some (.int .i64 y) := by simp [World.cell?, p16]
    have n3 : w6.cell? ⟨w4.heap.size, 3, none⟩ = some (.int .i64 z) := by simp [World.cell?, p16]
    have H6 : Hid (w6.heap[w.heap.size]? = some (.cells #[.int .i64 a, .int .i64 b, .int .i64 c, .int .i64 d] 50) ∧ w6.heap[w2.heap.size]? = some (.cells #[.slice A0 gs.length C0, .int .i64 x, .int .i64 y, .int .i64 z] 45) ∧ w6.heap[w4.heap.size]? = some (.cells #[.slice A1 gs.length C1, .int .i64 x, .int .i64 y, .int .i64 z] 45) ∧ Below W2.heap.size W2 w6 ∧ MkL 1 w6 (.slice A1 gs.length C1) ps1 gs) := ⟨keepS_obj hT6 H5.out.1 (by decide) (by decide), keepS_obj hT6 H5.out.2.1 (by decide) (by decide), p16, H5.out.2.2.2.1.trans (hb6.mono (by omega)), hm6⟩
    clear hb6 hT6 hm6 p16 H5
    go_wp2_with fail
    refine (heldLO_any _ ps1 gs x y z 1 _ H6.out.2.2.2.2 HI.out.2.2 hl (by omega) (by omega)).mono ?_
    rintro e w7 ⟨rfl, hb7⟩
    have z9 := hb7.size
    have q7 := bel_obj hb7 H6.out.1
    have s0 : w7.cell? ⟨w.heap.size, 0, none⟩ = some (.int .i64 a) := by simp [World.cell?, q7]
    have s1 : w7.cell? ⟨w.heap.size, 1, none⟩ = some (.int .i64 b) := by simp [World.cell?, q7]
    have s2 : w7.cell? ⟨w.heap.size, 2, none⟩ = some (.int .i64 c) := by simp [World.cell?, q7]
    have s3 : w7.cell? ⟨w.heap.size, 3, none⟩ = some (.int .i64 d) := by simp [World.cell?, q7]
    have H7 : Hid (w7.heap[w2.heap.size]? = some (.cells #[.slice A0 gs.length C0, .int .i64 x, .int .i64 y, .int .i64 z] 45) ∧ w7.heap[w4.heap.size]? = some (.cells #[.slice A1 gs.length C1, .int .i64 x, .int .i64 y, .int .i64 z] 45) ∧ Below W2.heap.size W2 w7 ∧ MkL 1 w7 (.slice A1 gs.length C1) ps1 gs) := ⟨bel_obj hb7 H6.out.2.1, bel_obj hb7 H6.out.2.2.1, H6.out.2.2.2.1.trans (hb7.mono (by omega)), H6.out.2.2.2.2.below hb7⟩
    clear hb7 q7 H6
    go_wp2_with fail
    refine (toSyntax_any a b c d _).mono ?_
    rintro e w8 ⟨rfl, hb8⟩
    have z10 := hb8.size
    have H8 : Hid (Below w7.heap.size w7 w8) := hb8
    clear hb8 s0 s1 s2 s3
    go_wp2_with fail
    refine (HI.out.1 _).mono ?_
    rintro e w9 ⟨v2, ps2, rfl, hO2, hb9⟩
    obtain ⟨A2, C2, hv2⟩ := hO2.slice
    subst hv2
    have z11 := hb9.size
    have hb79 : Below w7.heap.size w7 (w9.alloc (.cells #[.slice A2 gs.length C2, .int .i64 x, .int .i64 y, .int .i64 z] 45)) := (H8.out.trans (hb9.mono z10)).alloc (by omega) _
    have hr9 : RowG (w9.alloc (.cells #[.slice A2 gs.length C2, .int .i64 x, .int .i64 y, .int .i64 z] 45)) (.slice A2 gs.length C2) gs := (hO2.rowG HI.out.2.2 hl).below ((Below.refl _ _).alloc (Nat.le_refl _) _)
    have p2 : (w9.alloc (.cells #[.slice A2 gs.length C2, .int .i64 x, .int .i64 y, .int .i64 z] 45)).heap[w9.heap.size]? = some (.cells #[.slice A2 gs.length C2, .int .i64 x, .int .i64 y, .int .i64 z] 45) := World.alloc_heap_new w9 _
    have p09 := bel_obj hb79 H7.out.1
    have p19 := bel_obj hb79 H7.out.2.1
    have m0 : (w9.alloc (.cells #[.slice A2 gs.length C2, .int .i64 x, .int .i64 y, .int .i64 z] 45)).cell? ⟨w2.heap.size, 0, none⟩ = some (.slice A0 gs.length C0) := by simp [World.cell?, p09]
    have m1 : (w9.alloc (.cells #[.slice A2 gs.length C2, .int .i64 x, .int .i64 y, .int .i64 z] 45)).cell? ⟨w2.heap.size, 1, none⟩ = some (.int .i64 x) := by simp [World.cell?, p09]
    have m2 : (w9.alloc (.cells #[.slice A2 gs.length C2, .int .i64 x, .int .i64 y, .int .i64 z] 45)).cell? ⟨w2.heap.size, 2, none⟩ = some (.int .i64 y) := by simp [World.cell?, p09]
    have m3 : (w9.alloc (.cells #[.slice A2 gs.length C2, .int .i64 x, .int .i64 y, .int .i64 z] 45)).cell? ⟨w2.heap.size, 3, none⟩ = some (.int .i64 z) := by simp [World.cell?, p09]
    obtain ⟨W9, hW9⟩ : ∃ W9, W9 = w9.alloc (.cells #[.slice A2 gs.length C2, .int .i64 x, .int .i64 y, .int .i64 z] 45) := ⟨_, rfl⟩
    have z12 : W9.heap.size = w9.heap.size + 1 := by rw [hW9]; simp
    rw [← hW9] at hb79 hr9 p2 p09 p19
    have H9 : Hid (W9.heap[w4.heap.size]? = some (.cells #[.slice A1 gs.length C1, .int .i64 x, .int .i64 y, .int .i64 z] 45) ∧ Below W2.heap.size W2 W9 ∧ MkL 1 W9 (.slice A1 gs.length C1) ps1 gs ∧ RowG W9 (.slice A2 gs.length C2) gs) := ⟨p19, H7.out.2.2.1.trans (hb79.mono (by omega)), H7.out.2.2.2.below hb79, hr9⟩
    have HW9 : Hid (W9 = w9.alloc (.cells #[.slice A2 gs.length C2, .int .i64 x, .int .i64 y, .int .i64 z] 45)) := hW9
    clear hb79 hr9 p2 p09 p19 hW9 hO2 hb9 H7 H8
    go_wp2_with fail
    rw [← HW9.out]
    refine (eqLO_any _ _ gs x y z _ H9.out.2.2.2 (H2.out.2.2.2.below H9.out.2.1)).mono ?_
    rintro e w10 ⟨rfl, hb10⟩
    have z13 := hb10.size
    have p110 := bel_obj hb10 H9.out.1
    have n0 : w10.cell? ⟨w4.heap.size, 0, none⟩ = some (.slice A1 gs.length C1) := by simp [World.cell?, p110]
    have n1 : w10.cell? ⟨w4.heap.size, 1, none⟩ = some (.int .i64 x) := by simp [World.cell?, p110]
    have n2 : w10.cell? ⟨w4.heap.size, 2, none⟩ = some (.int .i64 y) := by simp [World.cell?, p110]
    have n3 : w10.cell? ⟨w4.heap.size, 3, none⟩ = some (.int .i64 z) := by simp [World.cell?, p110]
    have H10 : Hid (Below W2.heap.size W2 w10 ∧ MkL 1 w10 (.slice A1 gs.length C1) ps1 gs) := ⟨H9.out.2.1.trans (hb10.mono (by omega)), H9.out.2.2.1.below hb10⟩
    clear hb10 p110 H9 HW9
    go_wp2_with fail
    refine (heldLO_any _ ps1 gs x y z 1 _ H10.out.2 HI.out.2.2 hl (by omega) (by omega)).mono ?_
    rintro e w11 ⟨rfl, hb11⟩
    have H11 : Hid (Below w.heap.size w w11) := (H2.out.2.2.1.trans (H10.out.1.mono (by omega))).trans (hb11.mono (by omega))
    clear hb11 H10
    go_wp2
    go_ret
    exact ⟨rfl, H11.out⟩
theorem own : ownKnob Try.prog.godebug = none := by kernel_rfl
theorem laidOut : laidOutB Try.prog = true := by kernel_rfl
theorem cellsSyn : Try.prog.cellsOf 50 = 4 := by kernel_rfl
set_option maxRecDepth 100000 in
theorem lifted (os : Os) (started : os.Started) (H : Type) (enc : TypeId × Value → H) :
    ReturnsInHanded {} Try.checked os 7 .any (Rows.fnExactSegmentsReadSpec.pre6 enc Try.prog Try.f7 Rows.fnExactSegmentsReadRow.domain false) (Rows.fnExactSegmentsReadSpec.post enc Try.prog Try.f7 false true false false) := by
  refine returnsInHanded_of_change (C := Try.checked) own started (by kernel_rfl) Try.func7
    (ChangeSpec.witness6 (enc := enc) (C := Try.checked) false ⟨#[], #[.agg #[.int .i64 0, .int .i64 0, .int .i64 0, .int .i64 0], .string ⟨#[]⟩], []⟩ 8 (by kernel_rfl) (by kernel_rfl) (by kernel_rfl) (by kernel_rfl)) ?_
  intro W base args ds gs before hval0 hW hcnd _
  have hval : ∀ (j : Nat) t v, Try.f7.params[j]? = some t → args[j]? = some v → Value.okWide Try.prog W .any base t v := hval0
  have hW' := hW
  obtain ⟨p, q, hA0, hV, rfl, hfz, hnd⟩ := hW
  have hA : DataW.TrodAll enc Try.prog W 0 (fun _ => true) true Try.f7.params.toList args.toList ds p := hA0
  rw [Try.params7] at hA hval
  obtain ⟨v0, vs0, d0, ds0, p0, q0, hargs, rfl, rfl, h0, r0⟩ := trodAll_cons hA
  obtain ⟨v1, vs1, d1, ds1, p1, q1, rfl, rfl, rfl, h1, r1⟩ := trodAll_cons r0
  obtain ⟨rfl, rfl, rfl⟩ := trodAll_nil r1
  obtain rfl : args = #[v0, v1] := by cases args; simp_all
  obtain ⟨rfl, rfl⟩ := trodVars_none hV
  have k0 := h0
  have lt0 : ∀ x ∈ p0, x.block < W.heap.size := by obtain ⟨m, hm⟩ := k0; exact DataW.trod_lt m _ _ _ hm
  obtain ⟨a0, b0, c0, e0, rfl⟩ : ∃ a b c d : Int, v0 = .agg #[.int .i64 a, .int .i64 b, .int .i64 c, .int .i64 d] := by
    obtain ⟨c0, c1, c2, c3, y0, y1, y2, y3, m, rfl, _, _, hy0, hy1, hy2, hy3⟩ := open_agg4 Try.underlying50 (by kernel_rfl) cellsSyn (hval 0 50 v0 rfl rfl) h0
    obtain ⟨a, e0, _, _⟩ := DataW.trod_int Try.underlying2 hy0
    obtain ⟨b, e1, _, _⟩ := DataW.trod_int Try.underlying2 hy1
    obtain ⟨c, e2, _, _⟩ := DataW.trod_int Try.underlying2 hy2
    obtain ⟨d, e3, _, _⟩ := DataW.trod_int Try.underlying2 hy3
    simp at e0 e1 e2 e3
    subst e0 e1 e2 e3
    exact ⟨a, b, c, d, rfl⟩
  have k1 := h1
  have lt1 : ∀ x ∈ p1, x.block < W.heap.size := by obtain ⟨m, hm⟩ := k1; exact DataW.trod_lt m _ _ _ hm
  obtain ⟨s1, rfl, hs1⟩ : ∃ s : ByteArray, v1 = .string s ∧ s.size ≤ maxLen := by
    obtain ⟨s, rfl, _, _, hs⟩ := open_string Try.underlying9 (hval 1 9 v1 rfl rfl) h1
    exact ⟨s, rfl, hs⟩
  clear hA0 hval0
  refine (walk a0 b0 c0 e0 s1 W hs1).mono fun e W' ⟨he, bel⟩ => ?_
  subst he
  exact ⟨_, rfl, _, _, _, [], _, [], hW', trodAll_mk1 (shut_bool Try.underlying4 _), (trodAll_cons_mk (Below.trod laidOut (by kernel_rfl) (of_decide_eq_true (by kernel_rfl)) k0 bel lt0) (trodAll_cons_mk (Below.trod laidOut (by kernel_rfl) (of_decide_eq_true (by kernel_rfl)) k1 bel lt1) trodAll_mk0)), rfl, bel.frame _, fun h => by cases h⟩
theorem over : Rows.fnExactSegmentsReadRow.holds Try.pinned (OpenSpec.ofChange Rows.fnExactSegmentsReadSpec) :=
  OpenClaim.holds_of_wide 7 Try.f7 rfl rfl rfl rfl rfl rfl rfl ⟨rfl, rfl, rfl, rfl, rfl⟩ rfl rfl rfl rfl rfl (by kernel_rfl) Try.func7 (by kernel_rfl)
    (of_decide_eq_true (by kernel_rfl)) (by unfold Func.isWrapper; first | (rw [if_pos (by decide +kernel)]; kernel_rfl) | (rw [if_neg (by decide +kernel)]; exact ⟨rfl, rfl⟩))
    (fun os started H enc _ => lifted os started H enc)
end fnExactSegmentsRead
theorem fnExactSegmentsRead_holds : Rows.FnExactSegmentsReadSaid := fnExactSegmentsRead.over
#print axioms fnExactSegmentsRead_holds
end Go.Proofs.Ytpojmeeoomcigaa
