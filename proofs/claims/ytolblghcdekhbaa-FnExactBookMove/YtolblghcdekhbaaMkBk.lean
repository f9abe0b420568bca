/- The marks of a book. -/
import Derived.Test.YtolblghcdekhbaaMkSt
import Derived.Test.YtolblghcdekhbaaMkOl
import Derived.Test.YtolblghcdekhbaaRowBk
namespace Go.Proofs.Ytolblghcdekhbaa
open Go.ChangeShapes Go.WideShapes Go.ChangeAt Go.RowKit
/-- A book whose lists lie in two blocks of their own. -/
structure LBk (bs bl : Nat) (W : World) (us ul : Value) (b : Bk) : Prop where
  st : LSt bs W us b.stocks
  ln : LOl bl W ul b.lines
  ne : bs ≠ bl
theorem LBk.row {bs bl : Nat} {W : World} {us ul : Value} {b : Bk} (h : LBk bs bl W us ul b) : RBk W us ul b := ⟨h.st.row, h.ln.row⟩
theorem LBk.below {bs bl : Nat} {W W' : World} {us ul : Value} {b : Bk} (h : LBk bs bl W us ul b) (hb : Below W.heap.size W W') : LBk bs bl W' us ul b := ⟨h.st.below hb, h.ln.below hb, h.ne⟩
/-- All but two blocks as it lay. -/
structure Keep2 (b c : Nat) (w w' : World) : Prop where
  os : w'.os = w.os
  tape : w'.tape = w.tape
  output : w'.output = w.output
  size : w.heap.size ≤ w'.heap.size
  block : ∀ k, k < w.heap.size → k ≠ b → k ≠ c → w'.heap[k]? = w.heap[k]?
theorem Keep2.below {b c N : Nat} {w w' : World} (h : Keep2 b c w w') (h1 : N ≤ b) (h2 : N ≤ c) (h3 : N ≤ w.heap.size) : Below N w w' :=
  ⟨h.os, h.tape, h.output, h.size, fun k hk => h.block k (by omega) (by omega) (by omega)⟩
theorem LBk.keep2 {bs bl b c : Nat} {W W' : World} {us ul : Value} {p : Bk} (h : LBk bs bl W us ul p) (hk : Keep2 b c W W') (h1 : bs ≠ b) (h2 : bs ≠ c) (h3 : bl ≠ b) (h4 : bl ≠ c) : LBk bs bl W' us ul p :=
  ⟨h.st.of_block fun hn => hk.block bs (h.st.lt hn) h1 h2, h.ln.of_block fun hn => hk.block bl (h.ln.lt hn) h3 h4, h.ne⟩
/-- Two lists in blocks of their own: where one is empty its block may be any. -/
theorem LBk.of {bs bl : Nat} {W : World} {us ul : Value} {b : Bk} (h1 : LSt bs W us b.stocks) (h2 : LOl bl W ul b.lines) : ∃ bs' bl', LBk bs' bl' W us ul b ∧ (bs' = bs ∧ b.stocks ≠ [] ∨ W.heap.size < bs') ∧ (bl' = bl ∧ b.lines ≠ [] ∨ W.heap.size < bl') ∧ bs' ≠ W.heap.size ∧ bl' ≠ W.heap.size := by
  obtain ⟨bs', k1, k2, k3, k4⟩ : ∃ bs', LSt bs' W us b.stocks ∧ (bs' = bs ∧ b.stocks ≠ [] ∨ W.heap.size < bs') ∧ bs' ≠ W.heap.size ∧ (b.stocks = [] → bs' = W.heap.size + 1) := by
    by_cases e : b.stocks = []
    · refine ⟨W.heap.size + 1, ?_, .inr (by omega), by omega, fun _ => rfl⟩
      obtain ⟨a, cap, e1, _⟩ := h1.shape
      exact ⟨⟨a, cap, e1, fun hn => absurd e hn⟩, h1.len, h1.sizes⟩
    · have := h1.lt e
      exact ⟨bs, h1, .inl ⟨rfl, e⟩, by omega, fun h => absurd h e⟩
  obtain ⟨bl', l1, l2, l3, l4⟩ : ∃ bl', LOl bl' W ul b.lines ∧ (bl' = bl ∧ b.lines ≠ [] ∨ W.heap.size < bl') ∧ bl' ≠ W.heap.size ∧ (b.lines = [] → bl' = W.heap.size + 2) := by
    by_cases e : b.lines = []
    · refine ⟨W.heap.size + 2, ?_, .inr (by omega), by omega, fun _ => rfl⟩
      obtain ⟨a, cap, e1, _⟩ := h2.shape
      exact ⟨⟨a, cap, e1, fun hn => absurd e hn⟩, h2.len, h2.sizes⟩
    · have := h2.lt e
      exact ⟨bl, h2, .inl ⟨rfl, e⟩, by omega, fun h => absurd h e⟩
  refine ⟨bs', bl', ⟨k1, l1, ?_⟩, k2, l2, k3, l3⟩
  by_cases e : b.stocks = []
  · rw [k4 e]
    by_cases e' : b.lines = []
    · rw [l4 e']; omega
    · have := l1.lt e'; omega
  · have hk := k1.lt e
    by_cases e' : b.lines = []
    · rw [l4 e']; omega
    · intro he
      subst he
      obtain ⟨_, _, _, c1⟩ := k1.shape
      obtain ⟨_, _, _, r1, _⟩ := c1 e
      obtain ⟨_, _, _, c2⟩ := l1.shape
      obtain ⟨_, _, _, r2, _⟩ := c2 e'
      obtain ⟨x1, y1, _⟩ := r1
      obtain ⟨x2, y2, _⟩ := r2
      have y3 := y1.symm.trans y2
      simp at y3
def mkBk (k : Nat) (b : Bk) : Bk := ⟨mkSts k b.stocks.length, mkOls (k + b.stocks.length * 2) b.lines.length⟩
set_option maxHeartbeats 4000000 in
theorem markBk_any (bs bl : Nat) (us ul : Value) (b : Bk) (k : Nat) (w : World) (h : LBk bs bl w us ul b) (hs : bs ≠ w.heap.size) (hk : 0 < k ∧ k + b.stocks.length * 2 + b.lines.length * 8 < 100000000000) :
    Calls Try.prog 9 #[.agg #[us, ul], .int .i64 (k : Int)] w fun e w' => e = .returned (.int .i64 ((k + b.stocks.length * 2 + b.lines.length * 8 : Nat) : Int)) ∧ LBk bs bl w' us ul (mkBk k b) ∧ Keep2 bs bl w w' := by
  obtain ⟨W0, hW0⟩ : ∃ W0, w.alloc (.cells #[us, ul] 30) = W0 := ⟨_, rfl⟩
  have hb0 : Below w.heap.size w W0 := by rw [← hW0]; exact (Below.refl _ _).alloc (Nat.le_refl _) _
  have hbx : W0.heap[w.heap.size]? = some (.cells #[us, ul] 30) := by rw [← hW0]; exact World.alloc_heap_new _ _
  obtain ⟨A0, C0, hus⟩ := h.st.val
  obtain ⟨A1, C1, hul⟩ := h.ln.val
  have H0 : Hid (Below w.heap.size w W0 ∧ LBk bs bl W0 us ul b ∧ W0.heap[w.heap.size]? = some (.cells #[us, ul] 30)) := ⟨hb0, h.below hb0, hbx⟩
  obtain ⟨c0, c1⟩ := box2 hbx
  have hlt0 := (Array.getElem?_eq_some_iff.1 hbx).1
  have hne := h.ne
  clear h hb0 hbx
  subst hus hul
  go_enter Try.func9, Try.ntmps9
  go_upto_region 1 with fail
  try rw [hW0]
  clear hW0
  go_wp2_with fail
  refine (markSt_any bs _ b.stocks k _ H0.out.2.1.st ⟨by omega, by omega⟩).mono ?_
  rintro e w1 ⟨rfl, hL1, hk1⟩
  have H1 : Hid (LSt bs w1 (.slice A0 b.stocks.length C0) (mkSts k b.stocks.length) ∧ LOl bl w1 (.slice A1 b.lines.length C1) b.lines ∧ Keep bs W0 w1) := ⟨hL1, H0.out.2.1.ln.keep hk1 (Ne.symm hne), hk1⟩
  obtain ⟨d0, d1⟩ := box2 ((hk1.block _ hlt0 (Ne.symm hs)).trans H0.out.2.2)
  clear hL1 hk1 c0 c1
  obtain ⟨k2, hk2⟩ : ∃ k2, k2 = k + b.stocks.length * 2 := ⟨_, rfl⟩
  have HK2 : Hid (k2 = k + b.stocks.length * 2) := hk2
  have hk2' : 0 < k2 ∧ k2 + b.lines.length * 8 < 1000000000000 := by omega
  rw [← hk2]
  clear hk2
  go_wp2_with fail
  refine (markOl_any bl _ b.lines k2 _ H1.out.2.1 hk2').mono ?_
  rintro e w2 ⟨rfl, hL2, hkp2⟩
  have H2 : Hid (LBk bs bl w2 (.slice A0 b.stocks.length C0) (.slice A1 b.lines.length C1) (mkBk k b) ∧ Keep2 bs bl w w2) := by
    refine ⟨⟨H1.out.1.keep hkp2 hne, ?_, hne⟩, ?_⟩
    · show LOl bl w2 _ (mkOls (k + b.stocks.length * 2) b.lines.length)
      rw [← HK2.out]
      exact hL2
    · have s0 := H0.out.1.size
      have s1 := H1.out.2.2.size
      exact ⟨hkp2.os.trans (H1.out.2.2.os.trans H0.out.1.os), hkp2.tape.trans (H1.out.2.2.tape.trans H0.out.1.tape), hkp2.output.trans (H1.out.2.2.output.trans H0.out.1.output), by have := hkp2.size; omega, fun j hj g1 g2 => (hkp2.block j (by omega) g2).trans ((H1.out.2.2.block j (by omega) g1).trans (H0.out.1.block j hj))⟩
  have HR : Hid ((k + b.stocks.length * 2 + b.lines.length * 8 : Nat) = k2 + b.lines.length * 8) := by rw [HK2.out]; rfl
  clear hL2 hkp2
  go_wp2
  go_ret
  exact ⟨by rw [HR.out]; rfl, H2.out⟩
set_option maxHeartbeats 4000000 in
theorem heldBk_any (us ul : Value) (b : Bk) (k : Nat) (w : World) (h : RBk w us ul (mkBk k b)) (hk : 0 < k ∧ k + b.stocks.length * 2 + b.lines.length * 8 < 100000000000) :
    Calls Try.prog 10 #[.agg #[us, ul], .int .i64 (k : Int)] w fun e w' => e = .returned (.int .i64 ((k + b.stocks.length * 2 + b.lines.length * 8 : Nat) : Int)) ∧ Below w.heap.size w w' := by
  obtain ⟨W0, hW0⟩ : ∃ W0, w.alloc (.cells #[us, ul] 30) = W0 := ⟨_, rfl⟩
  have hb0 : Below w.heap.size w W0 := by rw [← hW0]; exact (Below.refl _ _).alloc (Nat.le_refl _) _
  have hbx : W0.heap[w.heap.size]? = some (.cells #[us, ul] 30) := by rw [← hW0]; exact World.alloc_heap_new _ _
  obtain ⟨A0, C0, hus⟩ := h.st.val
  obtain ⟨A1, C1, hul⟩ := h.ln.val
  have H0 : Hid (Below w.heap.size w W0 ∧ RBk W0 us ul (mkBk k b) ∧ W0.heap[w.heap.size]? = some (.cells #[us, ul] 30)) := ⟨hb0, h.below hb0, hbx⟩
  obtain ⟨c0, c1⟩ := box2 hbx
  have hlt0 := (Array.getElem?_eq_some_iff.1 hbx).1
  clear h hb0 hbx
  obtain ⟨n0, hn0⟩ : ∃ n0, n0 = (mkBk k b).stocks.length := ⟨_, rfl⟩
  obtain ⟨n1, hn1⟩ : ∃ n1, n1 = (mkBk k b).lines.length := ⟨_, rfl⟩
  rw [← hn0] at hus
  rw [← hn1] at hul
  clear hn0 hn1
  subst hus hul
  go_enter Try.func10, Try.ntmps10
  go_upto_region 1 with fail
  try rw [hW0]
  clear hW0
  go_wp2_with fail
  refine (heldSt_any _ k b.stocks.length _ H0.out.2.1.st ⟨by omega, by omega⟩).mono ?_
  rintro e w1 ⟨rfl, hb1⟩
  have H1 : Hid (Below w.heap.size w w1 ∧ RBk w1 (.slice A0 n0 C0) (.slice A1 n1 C1) (mkBk k b)) := ⟨H0.out.1.trans (hb1.mono H0.out.1.size), H0.out.2.1.below hb1⟩
  obtain ⟨d0, d1⟩ := box2 ((hb1.block _ hlt0).trans H0.out.2.2)
  clear hb1 c0 c1
  obtain ⟨k2, hk2⟩ : ∃ k2, k2 = k + b.stocks.length * 2 := ⟨_, rfl⟩
  have HK2 : Hid (k2 = k + b.stocks.length * 2) := hk2
  have hk2' : 0 < k2 ∧ k2 + b.lines.length * 8 < 1000000000000 := by omega
  rw [← hk2]
  clear hk2
  have hnn : ¬ (k2 : Int) < 0 := by omega
  have HLn : Hid (RowOl w1 (.slice A1 n1 C1) (mkOls k2 b.lines.length)) := by rw [HK2.out]; exact H1.out.2.ln
  go_wp2_with fail
  refine (heldOl_any _ k2 b.lines.length _ HLn.out hk2').mono ?_
  rintro e w2 ⟨rfl, hb2⟩
  have H2 : Hid (Below w.heap.size w w2) := H1.out.1.trans (hb2.mono H1.out.1.size)
  have hnn2 : ¬ ((k2 + b.lines.length * 8 : Nat) : Int) < 0 := by omega
  have HR : Hid ((k + b.stocks.length * 2 + b.lines.length * 8 : Nat) = k2 + b.lines.length * 8) := by rw [HK2.out]; rfl
  clear hb2
  go_wp2
  go_ret
  exact ⟨by rw [HR.out]; rfl, H2.out⟩
end Go.Proofs.Ytolblghcdekhbaa
