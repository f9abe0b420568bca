/- Texts of ours put together: MkBk, MkDf, MkOu, MkGb. -/
import Derived.Test.YtagajindaipaeaaGreatG15
import Derived.Test.YtagajindaipaeaaGreatG02
import Derived.Test.YtagajindaipaeaaGreatG14
import Derived.Deep.RegionHeld3
import Derived.Deep.QuietTactic
import Derived.BigQuiet
import Derived.BigRegion
import Derived.Test.YtagajindaipaeaaGreatG03
namespace Go.Proofs.YtagajindaipaeaaGreat
open Go.ChangeShapes Go.WideShapes Go.ChangeAt Go.RowKit
/-- A book whose lists lie in two blocks of their own. -/
structure LBk (bs bl : Nat) (W : World) (us ul : Value) (b : Bk) : Prop where
  st : LSt bs W us b.stocks
  ln : LOl bl W ul b.lines
  ne : bs ≠ bl
theorem LBk.row {bs bl : Nat} {W : World} {us ul : Value} {b : Bk} (h : LBk bs bl W us ul b) : RBk W us ul b := ⟨h.st.row, h.ln.row⟩
theorem LBk.below {bs bl : Nat} {W W' : World} {us ul : Value} {b : Bk} (h : LBk bs bl W us ul b) (hb : Below W.heap.size W W') : LBk bs bl W' us ul b := ⟨h.st.below hb, h.ln.below hb, h.ne⟩
/-- All but two blocks as it lay. -/
structure Keep2 (b c : Nat) (w w' : World) : Prop where
  os : w'.os = w.os
  tape : w'.tape = w.tape
  output : w'.output = w.output
  size : w.heap.size ≤ w'.heap.size
  block : ∀ k, k < w.heap.size → k ≠ b → k ≠ c → w'.heap[k]? = w.heap[k]?
theorem Keep2.below {b c N : Nat} {w w' : World} (h : Keep2 b c w w') (h1 : N ≤ b) (h2 : N ≤ c) (h3 : N ≤ w.heap.size) : Below N w w' :=
  ⟨h.os, h.tape, h.output, h.size, fun k hk => h.block k (by omega) (by omega) (by omega)⟩
theorem LBk.keep2 {bs bl b c : Nat} {W W' : World} {us ul : Value} {p : Bk} (h : LBk bs bl W us ul p) (hk : Keep2 b c W W') (h1 : bs ≠ b) (h2 : bs ≠ c) (h3 : bl ≠ b) (h4 : bl ≠ c) : LBk bs bl W' us ul p :=
  ⟨h.st.of_block fun hn => hk.block bs (h.st.lt hn) h1 h2, h.ln.of_block fun hn => hk.block bl (h.ln.lt hn) h3 h4, h.ne⟩
/-- Two lists in blocks of their own: where one is empty its block may be any. -/
theorem LBk.of {bs bl : Nat} {W : World} {us ul : Value} {b : Bk} (h1 : LSt bs W us b.stocks) (h2 : LOl bl W ul b.lines) : ∃ bs' bl', LBk bs' bl' W us ul b ∧ (bs' = bs ∧ b.stocks ≠ [] ∨ W.heap.size < bs') ∧ (bl' = bl ∧ b.lines ≠ [] ∨ W.heap.size < bl') ∧ bs' ≠ W.heap.size ∧ bl' ≠ W.heap.size := by
  obtain ⟨bs', k1, k2, k3, k4⟩ : ∃ bs', LSt bs' W us b.stocks ∧ (bs' = bs ∧ b.stocks ≠ [] ∨ W.heap.size < bs') ∧ bs' ≠ W.heap.size ∧ (b.stocks = [] → bs' = W.heap.size + 1) := by
    by_cases e : b.stocks = []
    · refine ⟨W.heap.size + 1, ?_, .inr (by omega), by omega, fun _ => rfl⟩
      obtain ⟨a, cap, e1, _⟩ := h1.shape
      exact ⟨⟨a, cap, e1, fun hn => absurd e hn⟩, h1.len, h1.sizes⟩
    · have := h1.lt e
      exact ⟨bs, h1, .inl ⟨rfl, e⟩, by omega, fun h => absurd h e⟩
  obtain ⟨bl', l1, l2, l3, l4⟩ : ∃ bl', LOl bl' W ul b.lines ∧ (bl' = bl ∧ b.lines ≠ [] ∨ W.heap.size < bl') ∧ bl' ≠ W.heap.size ∧ (b.lines = [] → bl' = W.heap.size + 2) := by
    by_cases e : b.lines = []
    · refine ⟨W.heap.size + 2, ?_, .inr (by omega), by omega, fun _ => rfl⟩
      obtain ⟨a, cap, e1, _⟩ := h2.shape
      exact ⟨⟨a, cap, e1, fun hn => absurd e hn⟩, h2.len, h2.sizes⟩
    · have := h2.lt e
      exact ⟨bl, h2, .inl ⟨rfl, e⟩, by omega, fun h => absurd h e⟩
  refine ⟨bs', bl', ⟨k1, l1, ?_⟩, k2, l2, k3, l3⟩
  by_cases e : b.stocks = []
  · rw [k4 e]
    by_cases e' : b.lines = []
    · rw [l4 e']; omega
    · have := l1.lt e'; omega
  · have hk := k1.lt e
    by_cases e' : b.lines = []
    · rw [l4 e']; omega
    · intro he
      subst he
      obtain ⟨_, _, _, c1⟩ := k1.shape
      obtain ⟨_, _, _, r1, _⟩ := c1 e
      obtain ⟨_, _, _, c2⟩ := l1.shape
      obtain ⟨_, _, _, r2, _⟩ := c2 e'
      obtain ⟨x1, y1, _⟩ := r1
      obtain ⟨x2, y2, _⟩ := r2
      have y3 := y1.symm.trans y2
      simp at y3
def mkBk (k : Nat) (b : Bk) : Bk := ⟨mkSts k b.stocks.length, mkOls (k + b.stocks.length * 2) b.lines.length⟩
set_option maxHeartbeats 4000000 in
theorem markBk_any (bs bl : Nat) (us ul : Value) (b : Bk) (k : Nat) (w : World) (h : LBk bs bl w us ul b) (hs : bs ≠ w.heap.size) (hk : 0 < k ∧ k + b.stocks.length * 2 + b.lines.length * 8 < 100000000000) :
    Calls Tryz.prog 50 #[.agg #[us, ul], .int .i64 (k : Int)] w fun e w' => e = .returned (.int .i64 ((k + b.stocks.length * 2 + b.lines.length * 8 : Nat) : Int)) ∧ LBk bs bl w' us ul (mkBk k b) ∧ Keep2 bs bl w w' := by
  obtain ⟨W0, hW0⟩ : ∃ W0, w.alloc (.cells #[us, ul] 38) = W0 := ⟨_, rfl⟩
  have hb0 : Below w.heap.size w W0 := by rw [← hW0]; exact (Below.refl _ _).alloc (Nat.le_refl _) _
  have hbx : W0.heap[w.heap.size]? = some (.cells #[us, ul] 38) := by rw [← hW0]; exact World.alloc_heap_new _ _
  obtain ⟨A0, C0, hus⟩ := h.st.val
  obtain ⟨A1, C1, hul⟩ := h.ln.val
  have H0 : Hid (Below w.heap.size w W0 ∧ LBk bs bl W0 us ul b ∧ W0.heap[w.heap.size]? = some (.cells #[us, ul] 38)) := ⟨hb0, h.below hb0, hbx⟩
  obtain ⟨c0, c1⟩ := box2 hbx
  have hlt0 := (Array.getElem?_eq_some_iff.1 hbx).1
  have hne := h.ne
  clear h hb0 hbx
  subst hus hul
  go_enter Tryz.func50, Tryz.ntmps50
  go_upto_region 1 with fail
  try rw [hW0]
  clear hW0
  go_wp2_with fail
  refine (markSt_any bs _ b.stocks k _ H0.out.2.1.st ⟨by omega, by omega⟩).mono ?_
  rintro e w1 ⟨rfl, hL1, hk1⟩
  have H1 : Hid (LSt bs w1 (.slice A0 b.stocks.length C0) (mkSts k b.stocks.length) ∧ LOl bl w1 (.slice A1 b.lines.length C1) b.lines ∧ Keep bs W0 w1) := ⟨hL1, H0.out.2.1.ln.keep hk1 (Ne.symm hne), hk1⟩
  obtain ⟨d0, d1⟩ := box2 ((hk1.block _ hlt0 (Ne.symm hs)).trans H0.out.2.2)
  clear hL1 hk1 c0 c1
  obtain ⟨k2, hk2⟩ : ∃ k2, k2 = k + b.stocks.length * 2 := ⟨_, rfl⟩
  have HK2 : Hid (k2 = k + b.stocks.length * 2) := hk2
  have hk2' : 0 < k2 ∧ k2 + b.lines.length * 8 < 1000000000000 := by omega
  rw [← hk2]
  clear hk2
  go_wp2_with fail
  refine (markOl_any bl _ b.lines k2 _ H1.out.2.1 hk2').mono ?_
  rintro e w2 ⟨rfl, hL2, hkp2⟩
  have H2 : Hid (LBk bs bl w2 (.slice A0 b.stocks.length C0) (.slice A1 b.lines.length C1) (mkBk k b) ∧ Keep2 bs bl w w2) := by
    refine ⟨⟨H1.out.1.keep hkp2 hne, ?_, hne⟩, ?_⟩
    · show LOl bl w2 _ (mkOls (k + b.stocks.length * 2) b.lines.length)
      rw [← HK2.out]
      exact hL2
    · have s0 := H0.out.1.size
      have s1 := H1.out.2.2.size
      exact ⟨hkp2.os.trans (H1.out.2.2.os.trans H0.out.1.os), hkp2.tape.trans (H1.out.2.2.tape.trans H0.out.1.tape), hkp2.output.trans (H1.out.2.2.output.trans H0.out.1.output), by have := hkp2.size; omega, fun j hj g1 g2 => (hkp2.block j (by omega) g2).trans ((H1.out.2.2.block j (by omega) g1).trans (H0.out.1.block j hj))⟩
  have HR : Hid ((k + b.stocks.length * 2 + b.lines.length * 8 : Nat) = k2 + b.lines.length * 8) := by rw [HK2.out]; rfl
  clear hL2 hkp2
  go_wp2
  go_ret
  exact ⟨by rw [HR.out]; rfl, H2.out⟩
set_option maxHeartbeats 4000000 in
theorem heldBk_any (us ul : Value) (b : Bk) (k : Nat) (w : World) (h : RBk w us ul (mkBk k b)) (hk : 0 < k ∧ k + b.stocks.length * 2 + b.lines.length * 8 < 100000000000) :
    Calls Tryz.prog 64 #[.agg #[us, ul], .int .i64 (k : Int)] w fun e w' => e = .returned (.int .i64 ((k + b.stocks.length * 2 + b.lines.length * 8 : Nat) : Int)) ∧ Below w.heap.size w w' := by
  obtain ⟨W0, hW0⟩ : ∃ W0, w.alloc (.cells #[us, ul] 38) = W0 := ⟨_, rfl⟩
  have hb0 : Below w.heap.size w W0 := by rw [← hW0]; exact (Below.refl _ _).alloc (Nat.le_refl _) _
  have hbx : W0.heap[w.heap.size]? = some (.cells #[us, ul] 38) := by rw [← hW0]; exact World.alloc_heap_new _ _
  obtain ⟨A0, C0, hus⟩ := h.st.val
  obtain ⟨A1, C1, hul⟩ := h.ln.val
  have H0 : Hid (Below w.heap.size w W0 ∧ RBk W0 us ul (mkBk k b) ∧ W0.heap[w.heap.size]? = some (.cells #[us, ul] 38)) := ⟨hb0, h.below hb0, hbx⟩
  obtain ⟨c0, c1⟩ := box2 hbx
  have hlt0 := (Array.getElem?_eq_some_iff.1 hbx).1
  clear h hb0 hbx
  obtain ⟨n0, hn0⟩ : ∃ n0, n0 = (mkBk k b).stocks.length := ⟨_, rfl⟩
  obtain ⟨n1, hn1⟩ : ∃ n1, n1 = (mkBk k b).lines.length := ⟨_, rfl⟩
  rw [← hn0] at hus
  rw [← hn1] at hul
  clear hn0 hn1
  subst hus hul
  go_enter Tryz.func64, Tryz.ntmps64
  go_upto_region 1 with fail
  try rw [hW0]
  clear hW0
  go_wp2_with fail
  refine (heldSt_any _ k b.stocks.length _ H0.out.2.1.st ⟨by omega, by omega⟩).mono ?_
  rintro e w1 ⟨rfl, hb1⟩
  have H1 : Hid (Below w.heap.size w w1 ∧ RBk w1 (.slice A0 n0 C0) (.slice A1 n1 C1) (mkBk k b)) := ⟨H0.out.1.trans (hb1.mono H0.out.1.size), H0.out.2.1.below hb1⟩
  obtain ⟨d0, d1⟩ := box2 ((hb1.block _ hlt0).trans H0.out.2.2)
  clear hb1 c0 c1
  obtain ⟨k2, hk2⟩ : ∃ k2, k2 = k + b.stocks.length * 2 := ⟨_, rfl⟩
  have HK2 : Hid (k2 = k + b.stocks.length * 2) := hk2
  have hk2' : 0 < k2 ∧ k2 + b.lines.length * 8 < 1000000000000 := by omega
  rw [← hk2]
  clear hk2
  have hnn : ¬ (k2 : Int) < 0 := by omega
  have HLn : Hid (RowOl w1 (.slice A1 n1 C1) (mkOls k2 b.lines.length)) := by rw [HK2.out]; exact H1.out.2.ln
  go_wp2_with fail
  refine (heldOl_any _ k2 b.lines.length _ HLn.out hk2').mono ?_
  rintro e w2 ⟨rfl, hb2⟩
  have H2 : Hid (Below w.heap.size w w2) := H1.out.1.trans (hb2.mono H1.out.1.size)
  have hnn2 : ¬ ((k2 + b.lines.length * 8 : Nat) : Int) < 0 := by omega
  have HR : Hid ((k + b.stocks.length * 2 + b.lines.length * 8 : Nat) = k2 + b.lines.length * 8) := by rw [HK2.out]; rfl
  clear hb2
  go_wp2
  go_ret
  exact ⟨by rw [HR.out]; rfl, H2.out⟩
end Go.Proofs.YtagajindaipaeaaGreat
namespace Go.Proofs.YtagajindaipaeaaGreat
open Go.ChangeShapes Go.WideShapes Go.ChangeAt Go.RowKit
/-- What the marks make of it. -/
def mkDf (k i : Nat) : Dff := ⟨((k + i * 6 : Nat) : Int), mtB (k + i * 6 + 1), mtB (k + i * 6 + 2), ((k + i * 6 + 3 : Nat) : Int), mtB (k + i * 6 + 4), ((k + i * 6 + 5 : Nat) : Int)⟩
def mkDfs (k n : Nat) : List Dff := (List.range n).map (mkDf k)
theorem mkDfs_len (k n : Nat) : (mkDfs k n).length = n := by simp [mkDfs]
theorem mkDfs_at {k n i : Nat} {g : Dff} (h : (mkDfs k n)[i]? = some g) : i < n ∧ g = mkDf k i := by
  have hi := (List.getElem?_eq_some_iff.1 h).1
  rw [mkDfs_len] at hi
  refine ⟨hi, ?_⟩
  simpa [mkDfs, hi] using h.symm
theorem mkDfs_sizes {k n : Nat} : ∀ (i : Nat) (g : Dff), (mkDfs k n)[i]? = some g → g.partner.size ≤ 9223372036854775807 ∧ g.ref.size ≤ 9223372036854775807 ∧ g.item.size ≤ 9223372036854775807 := fun i g h => by
  obtain ⟨_, rfl⟩ := mkDfs_at h
  have h1 := mtB_size (k + i * 6 + 1)
  have h2 := mtB_size (k + i * 6 + 2)
  have h4 := mtB_size (k + i * 6 + 4)
  simp only [mkDf]
  omega
set_option maxRecDepth 20000 in
set_option maxHeartbeats 8000000 in
theorem markDf_any (b : Nat) (v : Value) (rs : List Dff) (k : Nat) (w : World) (h : LDf b w v rs) (hk : 0 < k ∧ k + rs.length * 6 < 1000000000000) :
    Calls Tryz.prog 51 #[v, .int .i64 (k : Int)] w fun e w' => e = .returned (.int .i64 ((k + rs.length * 6 : Nat) : Int)) ∧ LDf b w' v (mkDfs k rs.length) ∧ Keep b w w' := by
  have hlen := h.len
  obtain ⟨a, cap, rfl⟩ := h.val
  rcases Nat.eq_zero_or_pos rs.length with h0 | h0
  · have hnil : rs = [] := List.eq_nil_of_length_eq_zero h0
    subst hnil
    clear h
    go_enter Tryz.func51, Tryz.ntmps51
    go_wp2
    go_loopw [1, 5] (fun q i wr => q = .int .i64 (k : Int) ∧ i = .int .i64 0 ∧ wr = w) (fun _ _ _ => 0)
    case atStart => exact ⟨rfl, rfl, rfl⟩
    case round =>
      obtain ⟨rfl, rfl, rfl⟩ := hrel
      go_wp2
      go_ret
      exact ⟨rfl, ⟨⟨_, _, rfl, fun h => absurd rfl h⟩, by simp [mkDfs], mkDfs_sizes⟩, Keep.refl _ _⟩
  · obtain ⟨a', cap', e, hc⟩ := h.shape
    simp only [Value.slice.injEq, true_and] at e
    obtain ⟨rfl, rfl⟩ := e
    obtain ⟨rfl, m, f, hR, hm, _⟩ := hc (by intro g; rw [g] at h0; simp at h0)
    have HR : Hid (w.rowIs b 123 m f) := hR
    clear h hR hc
    go_enter Tryz.func51, Tryz.ntmps51
    go_wp2
    go_loopw [1, 5] (fun q i wr => ∃ (j : Nat) (f : Nat → Value), q = .int .i64 ((k + j * 6 : Nat) : Int) ∧ i = .int .i64 (j : Int) ∧ j ≤ rs.length ∧ wr.rowIs b 123 m f ∧ (∀ i, i < j → f (i * 6) = .int .i64 (((k + i * 6 : Nat) : Int)) ∧ f (i * 6 + 1) = .string (mtB (k + i * 6 + 1)) ∧ f (i * 6 + 2) = .string (mtB (k + i * 6 + 2)) ∧ f (i * 6 + 3) = .int .i64 (((k + i * 6 + 3 : Nat) : Int)) ∧ f (i * 6 + 4) = .string (mtB (k + i * 6 + 4)) ∧ f (i * 6 + 5) = .int .i64 (((k + i * 6 + 5 : Nat) : Int))) ∧ Keep b w wr) (fun _ i _ => rs.length - (intOf i).toNat)
    case atStart => exact ⟨0, f, by simp, rfl, by omega, HR.out, fun i hi => by omega, Keep.refl _ _⟩
    case round =>
      obtain ⟨j, f, rfl, rfl, hj, hR, hA, hK⟩ := hrel
      have HS : Hid (wr.rowIs b 123 m f ∧ (∀ i, i < j → f (i * 6) = .int .i64 (((k + i * 6 : Nat) : Int)) ∧ f (i * 6 + 1) = .string (mtB (k + i * 6 + 1)) ∧ f (i * 6 + 2) = .string (mtB (k + i * 6 + 2)) ∧ f (i * 6 + 3) = .int .i64 (((k + i * 6 + 3 : Nat) : Int)) ∧ f (i * 6 + 4) = .string (mtB (k + i * 6 + 4)) ∧ f (i * 6 + 5) = .int .i64 (((k + i * 6 + 5 : Nat) : Int))) ∧ Keep b w wr) := ⟨hR, hA, hK⟩
      clear hR hA hK
      by_cases hlt : j < rs.length
      · have hlt' : (j : Int) < (rs.length : Int) := by omega
        have fy := HS.out.1.frozen
        have cy0 := HS.out.1.cell (i := j * 6) (by omega)
        have Hy : Hid ((wr.setCell ⟨b, j * 6, none⟩ (.int .i64 (((k + j * 6 : Nat) : Int)))).rowIs b 123 m _ ∧ Keep b w (wr.setCell ⟨b, j * 6, none⟩ (.int .i64 (((k + j * 6 : Nat) : Int))))) := ⟨(HS.out.1.set (j * 6) (.int .i64 (((k + j * 6 : Nat) : Int)))), (HS.out.2.2.setCell _ _)⟩
        go_wp2_with fail
        refine (markText_b _ (k + j * 6 + 1) (by omega) _ (by omega) (by omega)).mono ?_
        rintro e wa ⟨rfl, hba⟩
        have Ra := Hy.out.1.of_block (hba.block b Hy.out.1.lt)
        have fa := Ra.frozen
        have ca1 := Ra.cell (i := j * 6 + 1) (by omega)
        have Ha : Hid ((wa.setCell ⟨b, j * 6 + 1, none⟩ (.string (mtB (k + j * 6 + 1)))).rowIs b 123 m _ ∧ Keep b w (wa.setCell ⟨b, j * 6 + 1, none⟩ (.string (mtB (k + j * 6 + 1))))) := ⟨(Ra.set (j * 6 + 1) (.string (mtB (k + j * 6 + 1)))), ((Hy.out.2.trans (Keep.of_below hba)).setCell _ _)⟩
        clear hba Ra fy cy0
        go_wp2_with fail
        refine (markText_b _ (k + j * 6 + 2) (by omega) _ (by omega) (by omega)).mono ?_
        rintro e wb ⟨rfl, hbb⟩
        have Rb := Ha.out.1.of_block (hbb.block b Ha.out.1.lt)
        have fb := Rb.frozen
        have cb2 := Rb.cell (i := j * 6 + 2) (by omega)
        have cb3 := Rb.cell (i := j * 6 + 3) (by omega)
        have Hb : Hid (((wb.setCell ⟨b, j * 6 + 2, none⟩ (.string (mtB (k + j * 6 + 2)))).setCell ⟨b, j * 6 + 3, none⟩ (.int .i64 (((k + j * 6 : Nat) : Int) + 1 + 1 + 1))).rowIs b 123 m _ ∧ Keep b w ((wb.setCell ⟨b, j * 6 + 2, none⟩ (.string (mtB (k + j * 6 + 2)))).setCell ⟨b, j * 6 + 3, none⟩ (.int .i64 (((k + j * 6 : Nat) : Int) + 1 + 1 + 1)))) := ⟨((Rb.set (j * 6 + 2) (.string (mtB (k + j * 6 + 2)))).set (j * 6 + 3) (.int .i64 (((k + j * 6 : Nat) : Int) + 1 + 1 + 1))), (((Ha.out.2.trans (Keep.of_below hbb)).setCell _ _).setCell _ _)⟩
        clear hbb Rb fa ca1
        go_wp2_with fail
        refine (markText_b _ (k + j * 6 + 4) (by omega) _ (by omega) (by omega)).mono ?_
        rintro e wc ⟨rfl, hbc⟩
        have Rc := Hb.out.1.of_block (hbc.block b Hb.out.1.lt)
        have fc := Rc.frozen
        have cc4 := Rc.cell (i := j * 6 + 4) (by omega)
        have cc5 := Rc.cell (i := j * 6 + 5) (by omega)
        have Hc : Hid (((wc.setCell ⟨b, j * 6 + 4, none⟩ (.string (mtB (k + j * 6 + 4)))).setCell ⟨b, j * 6 + 5, none⟩ (.int .i64 (((k + j * 6 : Nat) : Int) + 1 + 1 + 1 + 1 + 1))).rowIs b 123 m _ ∧ Keep b w ((wc.setCell ⟨b, j * 6 + 4, none⟩ (.string (mtB (k + j * 6 + 4)))).setCell ⟨b, j * 6 + 5, none⟩ (.int .i64 (((k + j * 6 : Nat) : Int) + 1 + 1 + 1 + 1 + 1)))) := ⟨((Rc.set (j * 6 + 4) (.string (mtB (k + j * 6 + 4)))).set (j * 6 + 5) (.int .i64 (((k + j * 6 : Nat) : Int) + 1 + 1 + 1 + 1 + 1))), (((Hb.out.2.trans (Keep.of_below hbc)).setCell _ _).setCell _ _)⟩
        clear hbc Rc fb cb2 cb3
        go_wp2
        go_roundw
        case rel =>
          refine ⟨j + 1, _, by go_num, by go_num, by omega, Hc.out.1, fun i hi => ?_, Hc.out.2⟩
          by_cases e1 : i = j
          · subst e1
            refine ⟨?_, ?_, ?_, ?_, ?_, ?_⟩
            · rw [if_neg (by omega), if_neg (by omega), if_neg (by omega), if_neg (by omega), if_neg (by omega), if_pos rfl]
              try (first | rfl | (congr 1; omega))
            · rw [if_neg (by omega), if_neg (by omega), if_neg (by omega), if_neg (by omega), if_pos rfl]
            · rw [if_neg (by omega), if_neg (by omega), if_neg (by omega), if_pos rfl]
            · rw [if_neg (by omega), if_neg (by omega), if_pos rfl]
              try (first | rfl | (congr 1; omega))
            · rw [if_neg (by omega), if_pos rfl]
            · rw [if_pos rfl]
              try (first | rfl | (congr 1; omega))
          · obtain ⟨r0, r1, r2, r3, r4, r5⟩ := HS.out.2.1 i (by omega)
            refine ⟨?_, ?_, ?_, ?_, ?_, ?_⟩
            all_goals rw [if_neg (by omega), if_neg (by omega), if_neg (by omega), if_neg (by omega), if_neg (by omega), if_neg (by omega)]
            all_goals assumption
        case measure => simp [intOf]; omega
      · obtain rfl : j = rs.length := by omega
        go_wp2
        go_ret
        refine ⟨rfl, ⟨⟨_, _, by rw [mkDfs_len], fun _ => ⟨rfl, m, f, HS.out.1, by rw [mkDfs_len]; exact hm, fun i g hi => ?_⟩⟩, by rw [mkDfs_len]; exact hlen, mkDfs_sizes⟩, HS.out.2.2⟩
        obtain ⟨hi', rfl⟩ := mkDfs_at hi
        exact HS.out.2.1 i hi'
set_option maxRecDepth 20000 in
set_option maxHeartbeats 8000000 in
theorem heldDf_any (v : Value) (k n : Nat) (w : World) (h : RowDf w v (mkDfs k n)) (hk : 0 < k ∧ k + n * 6 < 1000000000000) :
    Calls Tryz.prog 65 #[v, .int .i64 (k : Int)] w fun e w' => e = .returned (.int .i64 ((k + n * 6 : Nat) : Int)) ∧ Below w.heap.size w w' := by
  have hlen := h.len
  obtain ⟨a, cap, rfl⟩ := h.val
  have H0 : Hid (RowDf w (.slice a (mkDfs k n).length cap) (mkDfs k n)) := h
  have hml : (mkDfs k n).length = n := mkDfs_len k n
  clear h
  go_enter Tryz.func65, Tryz.ntmps65
  go_wp2
  try rw [hml]
  go_loopw [1, 5] (fun q i wr => ∃ j : Nat, q = .int .i64 ((k + j * 6 : Nat) : Int) ∧ i = .int .i64 (j : Int) ∧ j ≤ n ∧ Below w.heap.size w wr) (fun _ i _ => n - (intOf i).toNat)
  case atStart => exact ⟨0, by simp, rfl, by omega, Below.refl _ _⟩
  case round =>
    obtain ⟨j, rfl, rfl, hj, hb⟩ := hrel
    by_cases hlt : j < n
    · have hlt' : (j : Int) < (n : Int) := by omega
      obtain ⟨b, o, cap', g, e, hs, hat, _⟩ := (H0.out.below hb).at (k := j) (by omega)
      simp only [Value.slice.injEq, true_and] at e
      obtain ⟨rfl, rfl⟩ := e
      obtain ⟨_, rfl⟩ := mkDfs_at hs
      have HB : Hid (Below w.heap.size w wr) := hb
      have HQ : Hid (∀ W, Below wr.heap.size wr W → W.cell? ⟨b, o + j * 6, none⟩ = some (.int .i64 (((k + j * 6 : Nat) : Int))) ∧ W.cell? ⟨b, o + j * 6 + 1, none⟩ = some (.string (mtB (k + j * 6 + 1))) ∧ W.cell? ⟨b, o + j * 6 + 2, none⟩ = some (.string (mtB (k + j * 6 + 2))) ∧ W.cell? ⟨b, o + j * 6 + 3, none⟩ = some (.int .i64 (((k + j * 6 + 3 : Nat) : Int))) ∧ W.cell? ⟨b, o + j * 6 + 4, none⟩ = some (.string (mtB (k + j * 6 + 4))) ∧ W.cell? ⟨b, o + j * 6 + 5, none⟩ = some (.int .i64 (((k + j * 6 + 5 : Nat) : Int)))) := fun W hW => by
        obtain ⟨r0, r1, r2, r3, r4, r5⟩ := hat.below hW
        exact ⟨r0, r1, r2, r3, r4, r5⟩
      clear hs hb hat
      obtain ⟨q0, q1, q2, q3, q4, q5⟩ := HQ.out wr (Below.refl _ _)
      go_upto_region 7 with fail
      have l1 := cell_lt q1
      go_region_held3 (fun W => W.cell? ⟨b, o + j * 6 + 1, none⟩ = some (.string (mtB (k + j * 6 + 1)))) (go_keep) (first | (go_at_call 100; refine (markText_b _ (k + j * 6 + 1) (by omega) _ (by omega) (by omega)).mono ?_; rintro e wa ⟨rfl, hba⟩; have y1 := (hba.cell (p := ⟨b, o + j * 6 + 1, none⟩) l1).trans q1))
      rename_i hHeld
      clear hHeld
      have ba : Below wr.heap.size wr wa := (Below.refl wr.heap.size wr).trans (((Below.refl _ wr).drew.trans hba).mono (Below.refl wr.heap.size wr).size)
      clear hba y1 l1 q0 q1 q2 q3 q4 q5
      obtain ⟨q0, q1, q2, q3, q4, q5⟩ := HQ.out wa ba
      go_upto_region 10 with fail
      have l2 := cell_lt q2
      go_region_held3 (fun W => W.cell? ⟨b, o + j * 6 + 2, none⟩ = some (.string (mtB (k + j * 6 + 2)))) (go_keep) (first | (go_at_call 100; refine (markText_b _ (k + j * 6 + 2) (by omega) _ (by omega) (by omega)).mono ?_; rintro e wb ⟨rfl, hbb⟩; have y2 := (hbb.cell (p := ⟨b, o + j * 6 + 2, none⟩) l2).trans q2))
      rename_i hHeld
      clear hHeld
      have bb : Below wr.heap.size wr wb := ba.trans (((Below.refl _ wa).drew.trans hbb).mono ba.size)
      clear hbb y2 l2 q0 q1 q2 q3 q4 q5
      obtain ⟨q0, q1, q2, q3, q4, q5⟩ := HQ.out wb bb
      go_upto_region 16 with fail
      have l4 := cell_lt q4
      go_region_held3 (fun W => W.cell? ⟨b, o + j * 6 + 4, none⟩ = some (.string (mtB (k + j * 6 + 4)))) (go_keep) (first | (go_at_call 100; refine (markText_b _ (k + j * 6 + 4) (by omega) _ (by omega) (by omega)).mono ?_; rintro e wc ⟨rfl, hbc⟩; have y4 := (hbc.cell (p := ⟨b, o + j * 6 + 4, none⟩) l4).trans q4))
      rename_i hHeld
      clear hHeld
      have bc : Below wr.heap.size wr wc := bb.trans (((Below.refl _ wb).drew.trans hbc).mono bb.size)
      clear hbc y4 l4 q0 q1 q2 q3 q4 q5
      obtain ⟨q0, q1, q2, q3, q4, q5⟩ := HQ.out wc bc
      have HD : Hid (Below w.heap.size w wc) := HB.out.trans (bc.mono HB.out.size)
      clear ba bb bc
      go_wp2
      go_roundw
      case rel => exact ⟨j + 1, by go_num, by go_num, by omega, HD.out⟩
      case measure => simp [intOf]; omega
    · obtain rfl : j = n := by omega
      have HB : Hid (Below w.heap.size w wr) := hb
      clear hb
      go_wp2
      go_ret
      exact ⟨rfl, HB.out⟩
end Go.Proofs.YtagajindaipaeaaGreat
namespace Go.Proofs.YtagajindaipaeaaGreat
open Go.ChangeShapes Go.WideShapes Go.ChangeAt Go.RowKit
/-- What the marks make of it. -/
def mkOu (k i : Nat) : OutR := ⟨mtB (k + i * 5), ((k + i * 5 + 1 : Nat) : Int), mtB (k + i * 5 + 2), ((k + i * 5 + 3 : Nat) : Int), ((k + i * 5 + 4 : Nat) : Int)⟩
def mkOus (k n : Nat) : List OutR := (List.range n).map (mkOu k)
theorem mkOus_len (k n : Nat) : (mkOus k n).length = n := by simp [mkOus]
theorem mkOus_at {k n i : Nat} {g : OutR} (h : (mkOus k n)[i]? = some g) : i < n ∧ g = mkOu k i := by
  have hi := (List.getElem?_eq_some_iff.1 h).1
  rw [mkOus_len] at hi
  refine ⟨hi, ?_⟩
  simpa [mkOus, hi] using h.symm
theorem mkOus_sizes {k n : Nat} : ∀ (i : Nat) (g : OutR), (mkOus k n)[i]? = some g → g.partner.size ≤ 9223372036854775807 ∧ g.text.size ≤ 9223372036854775807 := fun i g h => by
  obtain ⟨_, rfl⟩ := mkOus_at h
  have h0 := mtB_size (k + i * 5)
  have h2 := mtB_size (k + i * 5 + 2)
  simp only [mkOu]
  omega
set_option maxRecDepth 20000 in
set_option maxHeartbeats 8000000 in
theorem markOu_any (b : Nat) (v : Value) (rs : List OutR) (k : Nat) (w : World) (h : LOu b w v rs) (hk : 0 < k ∧ k + rs.length * 5 < 1000000000000) :
    Calls Tryz.prog 52 #[v, .int .i64 (k : Int)] w fun e w' => e = .returned (.int .i64 ((k + rs.length * 5 : Nat) : Int)) ∧ LOu b w' v (mkOus k rs.length) ∧ Keep b w w' := by
  have hlen := h.len
  obtain ⟨a, cap, rfl⟩ := h.val
  rcases Nat.eq_zero_or_pos rs.length with h0 | h0
  · have hnil : rs = [] := List.eq_nil_of_length_eq_zero h0
    subst hnil
    clear h
    go_enter Tryz.func52, Tryz.ntmps52
    go_wp2
    go_loopw [1, 5] (fun q i wr => q = .int .i64 (k : Int) ∧ i = .int .i64 0 ∧ wr = w) (fun _ _ _ => 0)
    case atStart => exact ⟨rfl, rfl, rfl⟩
    case round =>
      obtain ⟨rfl, rfl, rfl⟩ := hrel
      go_wp2
      go_ret
      exact ⟨rfl, ⟨⟨_, _, rfl, fun h => absurd rfl h⟩, by simp [mkOus], mkOus_sizes⟩, Keep.refl _ _⟩
  · obtain ⟨a', cap', e, hc⟩ := h.shape
    simp only [Value.slice.injEq, true_and] at e
    obtain ⟨rfl, rfl⟩ := e
    obtain ⟨rfl, m, f, hR, hm, _⟩ := hc (by intro g; rw [g] at h0; simp at h0)
    have HR : Hid (w.rowIs b 125 m f) := hR
    clear h hR hc
    go_enter Tryz.func52, Tryz.ntmps52
    go_wp2
    go_loopw [1, 5] (fun q i wr => ∃ (j : Nat) (f : Nat → Value), q = .int .i64 ((k + j * 5 : Nat) : Int) ∧ i = .int .i64 (j : Int) ∧ j ≤ rs.length ∧ wr.rowIs b 125 m f ∧ (∀ i, i < j → f (i * 5) = .string (mtB (k + i * 5)) ∧ f (i * 5 + 1) = .int .i64 (((k + i * 5 + 1 : Nat) : Int)) ∧ f (i * 5 + 2) = .string (mtB (k + i * 5 + 2)) ∧ f (i * 5 + 3) = .int .i64 (((k + i * 5 + 3 : Nat) : Int)) ∧ f (i * 5 + 4) = .int .i64 (((k + i * 5 + 4 : Nat) : Int))) ∧ Keep b w wr) (fun _ i _ => rs.length - (intOf i).toNat)
    case atStart => exact ⟨0, f, by simp, rfl, by omega, HR.out, fun i hi => by omega, Keep.refl _ _⟩
    case round =>
      obtain ⟨j, f, rfl, rfl, hj, hR, hA, hK⟩ := hrel
      have HS : Hid (wr.rowIs b 125 m f ∧ (∀ i, i < j → f (i * 5) = .string (mtB (k + i * 5)) ∧ f (i * 5 + 1) = .int .i64 (((k + i * 5 + 1 : Nat) : Int)) ∧ f (i * 5 + 2) = .string (mtB (k + i * 5 + 2)) ∧ f (i * 5 + 3) = .int .i64 (((k + i * 5 + 3 : Nat) : Int)) ∧ f (i * 5 + 4) = .int .i64 (((k + i * 5 + 4 : Nat) : Int))) ∧ Keep b w wr) := ⟨hR, hA, hK⟩
      clear hR hA hK
      by_cases hlt : j < rs.length
      · have hlt' : (j : Int) < (rs.length : Int) := by omega
        go_wp2_with fail
        refine (markText_b _ (k + j * 5) (by omega) _ (by omega) (by omega)).mono ?_
        rintro e wa ⟨rfl, hba⟩
        have Ra := HS.out.1.of_block (hba.block b HS.out.1.lt)
        have fa := Ra.frozen
        have ca0 := Ra.cell (i := j * 5) (by omega)
        have ca1 := Ra.cell (i := j * 5 + 1) (by omega)
        have Ha : Hid (((wa.setCell ⟨b, j * 5, none⟩ (.string (mtB (k + j * 5)))).setCell ⟨b, j * 5 + 1, none⟩ (.int .i64 (((k + j * 5 : Nat) : Int) + 1))).rowIs b 125 m _ ∧ Keep b w ((wa.setCell ⟨b, j * 5, none⟩ (.string (mtB (k + j * 5)))).setCell ⟨b, j * 5 + 1, none⟩ (.int .i64 (((k + j * 5 : Nat) : Int) + 1)))) := ⟨((Ra.set (j * 5) (.string (mtB (k + j * 5)))).set (j * 5 + 1) (.int .i64 (((k + j * 5 : Nat) : Int) + 1))), (((HS.out.2.2.trans (Keep.of_below hba)).setCell _ _).setCell _ _)⟩
        clear hba Ra
        go_wp2_with fail
        refine (markText_b _ (k + j * 5 + 2) (by omega) _ (by omega) (by omega)).mono ?_
        rintro e wb ⟨rfl, hbb⟩
        have Rb := Ha.out.1.of_block (hbb.block b Ha.out.1.lt)
        have fb := Rb.frozen
        have cb2 := Rb.cell (i := j * 5 + 2) (by omega)
        have cb3 := Rb.cell (i := j * 5 + 3) (by omega)
        have cb4 := Rb.cell (i := j * 5 + 4) (by omega)
        have Hb : Hid ((((wb.setCell ⟨b, j * 5 + 2, none⟩ (.string (mtB (k + j * 5 + 2)))).setCell ⟨b, j * 5 + 3, none⟩ (.int .i64 (((k + j * 5 : Nat) : Int) + 1 + 1 + 1))).setCell ⟨b, j * 5 + 4, none⟩ (.int .i64 (((k + j * 5 : Nat) : Int) + 1 + 1 + 1 + 1))).rowIs b 125 m _ ∧ Keep b w (((wb.setCell ⟨b, j * 5 + 2, none⟩ (.string (mtB (k + j * 5 + 2)))).setCell ⟨b, j * 5 + 3, none⟩ (.int .i64 (((k + j * 5 : Nat) : Int) + 1 + 1 + 1))).setCell ⟨b, j * 5 + 4, none⟩ (.int .i64 (((k + j * 5 : Nat) : Int) + 1 + 1 + 1 + 1)))) := ⟨(((Rb.set (j * 5 + 2) (.string (mtB (k + j * 5 + 2)))).set (j * 5 + 3) (.int .i64 (((k + j * 5 : Nat) : Int) + 1 + 1 + 1))).set (j * 5 + 4) (.int .i64 (((k + j * 5 : Nat) : Int) + 1 + 1 + 1 + 1))), ((((Ha.out.2.trans (Keep.of_below hbb)).setCell _ _).setCell _ _).setCell _ _)⟩
        clear hbb Rb fa ca0 ca1
        go_wp2
        go_roundw
        case rel =>
          refine ⟨j + 1, _, by go_num, by go_num, by omega, Hb.out.1, fun i hi => ?_, Hb.out.2⟩
          by_cases e1 : i = j
          · subst e1
            refine ⟨?_, ?_, ?_, ?_, ?_⟩
            · rw [if_neg (by omega), if_neg (by omega), if_neg (by omega), if_neg (by omega), if_pos rfl]
            · rw [if_neg (by omega), if_neg (by omega), if_neg (by omega), if_pos rfl]
              first | rfl | (congr 1; omega)
            · rw [if_neg (by omega), if_neg (by omega), if_pos rfl]
            · rw [if_neg (by omega), if_pos rfl]
              first | rfl | (congr 1; omega)
            · rw [if_pos rfl]
              first | rfl | (congr 1; omega)
          · obtain ⟨r0, r1, r2, r3, r4⟩ := HS.out.2.1 i (by omega)
            refine ⟨?_, ?_, ?_, ?_, ?_⟩
            all_goals rw [if_neg (by omega), if_neg (by omega), if_neg (by omega), if_neg (by omega), if_neg (by omega)]
            all_goals assumption
        case measure => simp [intOf]; omega
      · obtain rfl : j = rs.length := by omega
        go_wp2
        go_ret
        refine ⟨rfl, ⟨⟨_, _, by rw [mkOus_len], fun _ => ⟨rfl, m, f, HS.out.1, by rw [mkOus_len]; exact hm, fun i g hi => ?_⟩⟩, by rw [mkOus_len]; exact hlen, mkOus_sizes⟩, HS.out.2.2⟩
        obtain ⟨hi', rfl⟩ := mkOus_at hi
        exact HS.out.2.1 i hi'
set_option maxRecDepth 20000 in
set_option maxHeartbeats 8000000 in
theorem heldOu_any (v : Value) (k n : Nat) (w : World) (h : RowOu w v (mkOus k n)) (hk : 0 < k ∧ k + n * 5 < 1000000000000) :
    Calls Tryz.prog 58 #[v, .int .i64 (k : Int)] w fun e w' => e = .returned (.int .i64 ((k + n * 5 : Nat) : Int)) ∧ Below w.heap.size w w' := by
  have hlen := h.len
  obtain ⟨a, cap, rfl⟩ := h.val
  have H0 : Hid (RowOu w (.slice a (mkOus k n).length cap) (mkOus k n)) := h
  have hml : (mkOus k n).length = n := mkOus_len k n
  clear h
  go_enter Tryz.func58, Tryz.ntmps58
  go_wp2
  try rw [hml]
  go_loopw [1, 5] (fun q i wr => ∃ j : Nat, q = .int .i64 ((k + j * 5 : Nat) : Int) ∧ i = .int .i64 (j : Int) ∧ j ≤ n ∧ Below w.heap.size w wr) (fun _ i _ => n - (intOf i).toNat)
  case atStart => exact ⟨0, by simp, rfl, by omega, Below.refl _ _⟩
  case round =>
    obtain ⟨j, rfl, rfl, hj, hb⟩ := hrel
    by_cases hlt : j < n
    · have hlt' : (j : Int) < (n : Int) := by omega
      obtain ⟨b, o, cap', g, e, hs, hat, _⟩ := (H0.out.below hb).at (k := j) (by omega)
      simp only [Value.slice.injEq, true_and] at e
      obtain ⟨rfl, rfl⟩ := e
      obtain ⟨_, rfl⟩ := mkOus_at hs
      have HB : Hid (Below w.heap.size w wr) := hb
      have HQ : Hid (∀ W, Below wr.heap.size wr W → W.cell? ⟨b, o + j * 5, none⟩ = some (.string (mtB (k + j * 5))) ∧ W.cell? ⟨b, o + j * 5 + 1, none⟩ = some (.int .i64 (((k + j * 5 + 1 : Nat) : Int))) ∧ W.cell? ⟨b, o + j * 5 + 2, none⟩ = some (.string (mtB (k + j * 5 + 2))) ∧ W.cell? ⟨b, o + j * 5 + 3, none⟩ = some (.int .i64 (((k + j * 5 + 3 : Nat) : Int))) ∧ W.cell? ⟨b, o + j * 5 + 4, none⟩ = some (.int .i64 (((k + j * 5 + 4 : Nat) : Int)))) := fun W hW => by
        obtain ⟨r0, r1, r2, r3, r4⟩ := hat.below hW
        exact ⟨r0, r1, r2, r3, r4⟩
      clear hs hb hat
      obtain ⟨q0, q1, q2, q3, q4⟩ := HQ.out wr (Below.refl _ _)
      go_upto_region 4 with fail
      have l0 := cell_lt q0
      go_region_held3 (fun W => W.cell? ⟨b, o + j * 5, none⟩ = some (.string (mtB (k + j * 5)))) (go_keep) (first | (go_at_call 100; refine (markText_b _ (k + j * 5) (by omega) _ (by omega) (by omega)).mono ?_; rintro e wa ⟨rfl, hba⟩; have y0 := (hba.cell (p := ⟨b, o + j * 5, none⟩) l0).trans q0))
      rename_i hHeld
      clear hHeld
      have ba : Below wr.heap.size wr wa := (Below.refl wr.heap.size wr).trans (((Below.refl _ wr).drew.trans hba).mono (Below.refl wr.heap.size wr).size)
      clear hba y0 l0 q0 q1 q2 q3 q4
      obtain ⟨q0, q1, q2, q3, q4⟩ := HQ.out wa ba
      go_upto_region 10 with fail
      have l2 := cell_lt q2
      go_region_held3 (fun W => W.cell? ⟨b, o + j * 5 + 2, none⟩ = some (.string (mtB (k + j * 5 + 2)))) (go_keep) (first | (go_at_call 100; refine (markText_b _ (k + j * 5 + 2) (by omega) _ (by omega) (by omega)).mono ?_; rintro e wb ⟨rfl, hbb⟩; have y2 := (hbb.cell (p := ⟨b, o + j * 5 + 2, none⟩) l2).trans q2))
      rename_i hHeld
      clear hHeld
      have bb : Below wr.heap.size wr wb := ba.trans (((Below.refl _ wa).drew.trans hbb).mono ba.size)
      clear hbb y2 l2 q0 q1 q2 q3 q4
      obtain ⟨q0, q1, q2, q3, q4⟩ := HQ.out wb bb
      have HD : Hid (Below w.heap.size w wb) := HB.out.trans (bb.mono HB.out.size)
      clear ba bb
      go_wp2
      go_roundw
      case rel => exact ⟨j + 1, by go_num, by go_num, by omega, HD.out⟩
      case measure => simp [intOf]; omega
    · obtain rfl : j = n := by omega
      have HB : Hid (Below w.heap.size w wr) := hb
      clear hb
      go_wp2
      go_ret
      exact ⟨rfl, HB.out⟩
end Go.Proofs.YtagajindaipaeaaGreat
namespace Go.Proofs.YtagajindaipaeaaGreat
open Go.ChangeShapes Go.WideShapes Go.ChangeAt Go.RowKit
theorem markCs_nil (a : Option Addr) (c : Nat) (k : Int) (w : World) : Calls Tryz.prog 49 #[.slice a 0 c, .int .i64 k] w fun e w' => e = .returned (.int .i64 k) ∧ w' = w := by
  go_enter Tryz.func49, Tryz.ntmps49
  go_wp2
  go_loopw [1, 5] (fun q i wr => q = .int .i64 k ∧ i = .int .i64 0 ∧ wr = w) (fun _ _ _ => 0)
  case atStart => exact ⟨rfl, rfl, rfl⟩
  case round =>
    obtain ⟨rfl, rfl, rfl⟩ := hrel
    go_wp2
    go_ret
    exact ⟨rfl, rfl⟩
theorem markCs_k (b : Nat) (v : Value) (rs : List Crs) (k : Nat) (w : World) (h : LCs b w v rs) (hk : 0 < k ∧ k + rs.length * 3 < 1000000000000) :
    Calls Tryz.prog 49 #[v, .int .i64 (k : Int)] w fun e w' => e = .returned (.int .i64 ((k + rs.length * 3 : Nat) : Int)) ∧ LCs b w' v (mkCss k rs.length) ∧ KeepP (fun j => j = b ∧ rs ≠ []) w w' := by
  by_cases hn : rs = []
  · subst hn
    obtain ⟨a, c, rfl⟩ := h.val
    exact (markCs_nil a c k w).mono fun _ _ ⟨h1, h2⟩ => ⟨by rw [h1]; rfl, by rw [h2]; exact h, by rw [h2]; exact KeepP.of_below (Below.refl _ _)⟩
  · exact (markCs_any b v rs k w h hk).mono fun _ _ ⟨h1, h2, h3⟩ => ⟨h1, h2, keepP_of_keep h3 ⟨rfl, hn⟩⟩
theorem LCs.typ {b : Nat} {W : World} {v : Value} {rs : List Crs} (h : LCs b W v rs) {t : Nat} (ht : 119 ≠ t) : ∀ k, (k = b ∧ rs ≠ []) → ∀ m f, ¬ W.rowIs k t m f := fun k ⟨hk, hn⟩ m f hR => by
  subst hk
  obtain ⟨a, cap, e, hc⟩ := h.shape
  obtain ⟨_, m', f', hR', _⟩ := hc hn
  exact rowIs_ne hR' hR ht rfl
theorem LCs.kp {b : Nat} {W W' : World} {v : Value} {rs : List Crs} {S : Nat → Prop} (h : LCs b W v rs) (hk : KeepP S W W') (hS : ∀ k, S k → ∀ m f, ¬ W.rowIs k 119 m f) : LCs b W' v rs := h.of_block fun hn => hk.block b (h.lt hn) fun hs => by
  obtain ⟨a, cap, e, hc⟩ := h.shape
  obtain ⟨_, m', f', hR', _⟩ := hc hn
  exact hS b hs _ _ hR'
theorem markSt_nil (a : Option Addr) (c : Nat) (k : Int) (w : World) : Calls Tryz.prog 102 #[.slice a 0 c, .int .i64 k] w fun e w' => e = .returned (.int .i64 k) ∧ w' = w := by
  go_enter Tryz.func102, Tryz.ntmps102
  go_wp2
  go_loopw [1, 5] (fun q i wr => q = .int .i64 k ∧ i = .int .i64 0 ∧ wr = w) (fun _ _ _ => 0)
  case atStart => exact ⟨rfl, rfl, rfl⟩
  case round =>
    obtain ⟨rfl, rfl, rfl⟩ := hrel
    go_wp2
    go_ret
    exact ⟨rfl, rfl⟩
theorem markSt_k (b : Nat) (v : Value) (rs : List Stk) (k : Nat) (w : World) (h : LSt b w v rs) (hk : 0 < k ∧ k + rs.length * 2 < 1000000000000) :
    Calls Tryz.prog 102 #[v, .int .i64 (k : Int)] w fun e w' => e = .returned (.int .i64 ((k + rs.length * 2 : Nat) : Int)) ∧ LSt b w' v (mkSts k rs.length) ∧ KeepP (fun j => j = b ∧ rs ≠ []) w w' := by
  by_cases hn : rs = []
  · subst hn
    obtain ⟨a, c, rfl⟩ := h.val
    exact (markSt_nil a c k w).mono fun _ _ ⟨h1, h2⟩ => ⟨by rw [h1]; rfl, by rw [h2]; exact h, by rw [h2]; exact KeepP.of_below (Below.refl _ _)⟩
  · exact (markSt_any b v rs k w h hk).mono fun _ _ ⟨h1, h2, h3⟩ => ⟨h1, h2, keepP_of_keep h3 ⟨rfl, hn⟩⟩
theorem LSt.typ {b : Nat} {W : World} {v : Value} {rs : List Stk} (h : LSt b W v rs) {t : Nat} (ht : 167 ≠ t) : ∀ k, (k = b ∧ rs ≠ []) → ∀ m f, ¬ W.rowIs k t m f := fun k ⟨hk, hn⟩ m f hR => by
  subst hk
  obtain ⟨a, cap, e, hc⟩ := h.shape
  obtain ⟨_, m', f', hR', _⟩ := hc hn
  exact rowIs_ne hR' hR ht rfl
theorem LSt.kp {b : Nat} {W W' : World} {v : Value} {rs : List Stk} {S : Nat → Prop} (h : LSt b W v rs) (hk : KeepP S W W') (hS : ∀ k, S k → ∀ m f, ¬ W.rowIs k 167 m f) : LSt b W' v rs := h.of_block fun hn => hk.block b (h.lt hn) fun hs => by
  obtain ⟨a, cap, e, hc⟩ := h.shape
  obtain ⟨_, m', f', hR', _⟩ := hc hn
  exact hS b hs _ _ hR'
theorem markOl_nil (a : Option Addr) (c : Nat) (k : Int) (w : World) : Calls Tryz.prog 103 #[.slice a 0 c, .int .i64 k] w fun e w' => e = .returned (.int .i64 k) ∧ w' = w := by
  go_enter Tryz.func103, Tryz.ntmps103
  go_wp2
  go_loopw [1, 5] (fun q i wr => q = .int .i64 k ∧ i = .int .i64 0 ∧ wr = w) (fun _ _ _ => 0)
  case atStart => exact ⟨rfl, rfl, rfl⟩
  case round =>
    obtain ⟨rfl, rfl, rfl⟩ := hrel
    go_wp2
    go_ret
    exact ⟨rfl, rfl⟩
theorem markOl_k (b : Nat) (v : Value) (rs : List OLn) (k : Nat) (w : World) (h : LOl b w v rs) (hk : 0 < k ∧ k + rs.length * 8 < 1000000000000) :
    Calls Tryz.prog 103 #[v, .int .i64 (k : Int)] w fun e w' => e = .returned (.int .i64 ((k + rs.length * 8 : Nat) : Int)) ∧ LOl b w' v (mkOls k rs.length) ∧ KeepP (fun j => j = b ∧ rs ≠ []) w w' := by
  by_cases hn : rs = []
  · subst hn
    obtain ⟨a, c, rfl⟩ := h.val
    exact (markOl_nil a c k w).mono fun _ _ ⟨h1, h2⟩ => ⟨by rw [h1]; rfl, by rw [h2]; exact h, by rw [h2]; exact KeepP.of_below (Below.refl _ _)⟩
  · exact (markOl_any b v rs k w h hk).mono fun _ _ ⟨h1, h2, h3⟩ => ⟨h1, h2, keepP_of_keep h3 ⟨rfl, hn⟩⟩
theorem LOl.typ {b : Nat} {W : World} {v : Value} {rs : List OLn} (h : LOl b W v rs) {t : Nat} (ht : 173 ≠ t) : ∀ k, (k = b ∧ rs ≠ []) → ∀ m f, ¬ W.rowIs k t m f := fun k ⟨hk, hn⟩ m f hR => by
  subst hk
  obtain ⟨a, cap, e, hc⟩ := h.shape
  obtain ⟨_, m', f', hR', _⟩ := hc hn
  exact rowIs_ne hR' hR ht rfl
theorem LOl.kp {b : Nat} {W W' : World} {v : Value} {rs : List OLn} {S : Nat → Prop} (h : LOl b W v rs) (hk : KeepP S W W') (hS : ∀ k, S k → ∀ m f, ¬ W.rowIs k 173 m f) : LOl b W' v rs := h.of_block fun hn => hk.block b (h.lt hn) fun hs => by
  obtain ⟨a, cap, e, hc⟩ := h.shape
  obtain ⟨_, m', f', hR', _⟩ := hc hn
  exact hS b hs _ _ hR'
theorem markDf_nil (a : Option Addr) (c : Nat) (k : Int) (w : World) : Calls Tryz.prog 51 #[.slice a 0 c, .int .i64 k] w fun e w' => e = .returned (.int .i64 k) ∧ w' = w := by
  go_enter Tryz.func51, Tryz.ntmps51
  go_wp2
  go_loopw [1, 5] (fun q i wr => q = .int .i64 k ∧ i = .int .i64 0 ∧ wr = w) (fun _ _ _ => 0)
  case atStart => exact ⟨rfl, rfl, rfl⟩
  case round =>
    obtain ⟨rfl, rfl, rfl⟩ := hrel
    go_wp2
    go_ret
    exact ⟨rfl, rfl⟩
theorem markDf_k (b : Nat) (v : Value) (rs : List Dff) (k : Nat) (w : World) (h : LDf b w v rs) (hk : 0 < k ∧ k + rs.length * 6 < 1000000000000) :
    Calls Tryz.prog 51 #[v, .int .i64 (k : Int)] w fun e w' => e = .returned (.int .i64 ((k + rs.length * 6 : Nat) : Int)) ∧ LDf b w' v (mkDfs k rs.length) ∧ KeepP (fun j => j = b ∧ rs ≠ []) w w' := by
  by_cases hn : rs = []
  · subst hn
    obtain ⟨a, c, rfl⟩ := h.val
    exact (markDf_nil a c k w).mono fun _ _ ⟨h1, h2⟩ => ⟨by rw [h1]; rfl, by rw [h2]; exact h, by rw [h2]; exact KeepP.of_below (Below.refl _ _)⟩
  · exact (markDf_any b v rs k w h hk).mono fun _ _ ⟨h1, h2, h3⟩ => ⟨h1, h2, keepP_of_keep h3 ⟨rfl, hn⟩⟩
theorem LDf.typ {b : Nat} {W : World} {v : Value} {rs : List Dff} (h : LDf b W v rs) {t : Nat} (ht : 123 ≠ t) : ∀ k, (k = b ∧ rs ≠ []) → ∀ m f, ¬ W.rowIs k t m f := fun k ⟨hk, hn⟩ m f hR => by
  subst hk
  obtain ⟨a, cap, e, hc⟩ := h.shape
  obtain ⟨_, m', f', hR', _⟩ := hc hn
  exact rowIs_ne hR' hR ht rfl
theorem LDf.kp {b : Nat} {W W' : World} {v : Value} {rs : List Dff} {S : Nat → Prop} (h : LDf b W v rs) (hk : KeepP S W W') (hS : ∀ k, S k → ∀ m f, ¬ W.rowIs k 123 m f) : LDf b W' v rs := h.of_block fun hn => hk.block b (h.lt hn) fun hs => by
  obtain ⟨a, cap, e, hc⟩ := h.shape
  obtain ⟨_, m', f', hR', _⟩ := hc hn
  exact hS b hs _ _ hR'
theorem markOu_nil (a : Option Addr) (c : Nat) (k : Int) (w : World) : Calls Tryz.prog 52 #[.slice a 0 c, .int .i64 k] w fun e w' => e = .returned (.int .i64 k) ∧ w' = w := by
  go_enter Tryz.func52, Tryz.ntmps52
  go_wp2
  go_loopw [1, 5] (fun q i wr => q = .int .i64 k ∧ i = .int .i64 0 ∧ wr = w) (fun _ _ _ => 0)
  case atStart => exact ⟨rfl, rfl, rfl⟩
  case round =>
    obtain ⟨rfl, rfl, rfl⟩ := hrel
    go_wp2
    go_ret
    exact ⟨rfl, rfl⟩
theorem markOu_k (b : Nat) (v : Value) (rs : List OutR) (k : Nat) (w : World) (h : LOu b w v rs) (hk : 0 < k ∧ k + rs.length * 5 < 1000000000000) :
    Calls Tryz.prog 52 #[v, .int .i64 (k : Int)] w fun e w' => e = .returned (.int .i64 ((k + rs.length * 5 : Nat) : Int)) ∧ LOu b w' v (mkOus k rs.length) ∧ KeepP (fun j => j = b ∧ rs ≠ []) w w' := by
  by_cases hn : rs = []
  · subst hn
    obtain ⟨a, c, rfl⟩ := h.val
    exact (markOu_nil a c k w).mono fun _ _ ⟨h1, h2⟩ => ⟨by rw [h1]; rfl, by rw [h2]; exact h, by rw [h2]; exact KeepP.of_below (Below.refl _ _)⟩
  · exact (markOu_any b v rs k w h hk).mono fun _ _ ⟨h1, h2, h3⟩ => ⟨h1, h2, keepP_of_keep h3 ⟨rfl, hn⟩⟩
theorem LOu.typ {b : Nat} {W : World} {v : Value} {rs : List OutR} (h : LOu b W v rs) {t : Nat} (ht : 125 ≠ t) : ∀ k, (k = b ∧ rs ≠ []) → ∀ m f, ¬ W.rowIs k t m f := fun k ⟨hk, hn⟩ m f hR => by
  subst hk
  obtain ⟨a, cap, e, hc⟩ := h.shape
  obtain ⟨_, m', f', hR', _⟩ := hc hn
  exact rowIs_ne hR' hR ht rfl
theorem LOu.kp {b : Nat} {W W' : World} {v : Value} {rs : List OutR} {S : Nat → Prop} (h : LOu b W v rs) (hk : KeepP S W W') (hS : ∀ k, S k → ∀ m f, ¬ W.rowIs k 125 m f) : LOu b W' v rs := h.of_block fun hn => hk.block b (h.lt hn) fun hs => by
  obtain ⟨a, cap, e, hc⟩ := h.shape
  obtain ⟨_, m', f', hR', _⟩ := hc hn
  exact hS b hs _ _ hR'
theorem LPt.typ {W : World} {v : Value} {ps : List Ptn} {b : Nat} {f : Nat → Value} {β : Nat → Nat} (h : LPt W v ps b f β) {t : Nat} (h1 : 70 ≠ t) (h2 : 170 ≠ t) : ∀ k, blkP ps b β k → ∀ m f, ¬ W.rowIs k t m f := fun k hk m g hR => by
  rcases hk with ⟨rfl, hn⟩ | ⟨i, p, hi, hn, rfl⟩
  · obtain ⟨a, cap, e, hc⟩ := h.shape
    obtain ⟨_, m', g', hR', _⟩ := hc hn
    exact rowIs_ne hR' hR h1 rfl
  · obtain ⟨m', g', hR'⟩ := (h.sn i p hi).rowIs hn
    exact rowIs_ne hR' hR h2 rfl
theorem LPt.kp {W W' : World} {v : Value} {ps : List Ptn} {b : Nat} {f : Nat → Value} {β : Nat → Nat} {S : Nat → Prop} (h : LPt W v ps b f β) (hk : KeepP S W W') (hS : ∀ k, S k → ∀ m f, ¬ W.rowIs k 70 m f) (hT : ∀ k, S k → ∀ m f, ¬ W.rowIs k 170 m f) : LPt W' v ps b f β := h.of_blocks fun k hb => hk.block k (h.lt hb) fun hs => by
  rcases hb with ⟨rfl, hn⟩ | ⟨i, p, hi, hn, rfl⟩
  · obtain ⟨a, cap, e, hc⟩ := h.shape
    obtain ⟨_, m', g', hR', _⟩ := hc hn
    exact hS _ hs _ _ hR'
  · obtain ⟨m', g', hR'⟩ := (h.sn i p hi).rowIs hn
    exact hT _ hs _ _ hR'
/-- A gate whose memory may be marked. -/
structure LGt (W : World) (up uc us ul ud uo : Value) (g : Gat) (b : Nat) (f : Nat → Value) (β : Nat → Nat) (bc bs bl bd bo : Nat) : Prop where
  nm : g.name.size ≤ 9223372036854775807
  pt : LPt W up g.ptns b f β
  cs : LCs bc W uc g.crss
  st : LSt bs W us g.book.stocks
  ln : LOl bl W ul g.book.lines
  df : LDf bd W ud g.dffs
  ou : LOu bo W uo g.outs
def blkG (g : Gat) (b : Nat) (β : Nat → Nat) (bc bs bl bd bo : Nat) (k : Nat) : Prop := blkP g.ptns b β k ∨ (k = bc ∧ g.crss ≠ []) ∨ (k = bs ∧ g.book.stocks ≠ []) ∨ (k = bl ∧ g.book.lines ≠ []) ∨ (k = bd ∧ g.dffs ≠ []) ∨ (k = bo ∧ g.outs ≠ [])
theorem LGt.row {W : World} {up uc us ul ud uo : Value} {g : Gat} {b : Nat} {f : Nat → Value} {β : Nat → Nat} {bc bs bl bd bo : Nat} (h : LGt W up uc us ul ud uo g b f β bc bs bl bd bo) : RGt W up uc us ul ud uo g := ⟨h.nm, h.pt.row, h.cs.row, ⟨h.st.row, h.ln.row⟩, h.df.row, h.ou.row⟩
theorem LGt.lt {W : World} {up uc us ul ud uo : Value} {g : Gat} {b : Nat} {f : Nat → Value} {β : Nat → Nat} {bc bs bl bd bo : Nat} (h : LGt W up uc us ul ud uo g b f β bc bs bl bd bo) {k : Nat} (hk : blkG g b β bc bs bl bd bo k) : k < W.heap.size := by
  rcases hk with hk | ⟨rfl, hn⟩ | ⟨rfl, hn⟩ | ⟨rfl, hn⟩ | ⟨rfl, hn⟩ | ⟨rfl, hn⟩
  · exact h.pt.lt hk
  · exact h.cs.lt hn
  · exact h.st.lt hn
  · exact h.ln.lt hn
  · exact h.df.lt hn
  · exact h.ou.lt hn
theorem LGt.below {W W' : World} {up uc us ul ud uo : Value} {g : Gat} {b : Nat} {f : Nat → Value} {β : Nat → Nat} {bc bs bl bd bo : Nat} (h : LGt W up uc us ul ud uo g b f β bc bs bl bd bo) (hb : Below W.heap.size W W') : LGt W' up uc us ul ud uo g b f β bc bs bl bd bo := ⟨h.nm, h.pt.below hb, h.cs.below hb, h.st.below hb, h.ln.below hb, h.df.below hb, h.ou.below hb⟩
theorem LGt.of_blocks {W W' : World} {up uc us ul ud uo : Value} {g : Gat} {b : Nat} {f : Nat → Value} {β : Nat → Nat} {bc bs bl bd bo : Nat} (h : LGt W up uc us ul ud uo g b f β bc bs bl bd bo) (hb : ∀ k, blkG g b β bc bs bl bd bo k → W'.heap[k]? = W.heap[k]?) : LGt W' up uc us ul ud uo g b f β bc bs bl bd bo :=
  ⟨h.nm, h.pt.of_blocks fun k hk => hb k (.inl hk), h.cs.of_block fun hn => hb _ (.inr (.inl ⟨rfl, hn⟩)), h.st.of_block fun hn => hb _ (.inr (.inr (.inl ⟨rfl, hn⟩))), h.ln.of_block fun hn => hb _ (.inr (.inr (.inr (.inl ⟨rfl, hn⟩)))), h.df.of_block fun hn => hb _ (.inr (.inr (.inr (.inr (.inl ⟨rfl, hn⟩))))), h.ou.of_block fun hn => hb _ (.inr (.inr (.inr (.inr (.inr ⟨rfl, hn⟩)))))⟩
def cntG (g : Gat) : Nat := cntP g.ptns + g.crss.length * 3 + g.book.stocks.length * 2 + g.book.lines.length * 8 + g.dffs.length * 6 + g.outs.length * 5
def mkG (k : Nat) (g : Gat) : Gat := ⟨g.name, g.day, mkPts k g.ptns, mkCss (k + cntP g.ptns) g.crss.length, mkBk (k + cntP g.ptns + g.crss.length * 3) g.book, mkDfs (k + cntP g.ptns + g.crss.length * 3 + g.book.stocks.length * 2 + g.book.lines.length * 8) g.dffs.length, mkOus (k + cntP g.ptns + g.crss.length * 3 + g.book.stocks.length * 2 + g.book.lines.length * 8 + g.dffs.length * 6) g.outs.length⟩
set_option maxHeartbeats 4000000 in
theorem markBkG_any (bs bl : Nat) (us ul : Value) (b : Bk) (k : Nat) (w : World) (h1 : LSt bs w us b.stocks) (h2 : LOl bl w ul b.lines) (hk : 0 < k ∧ k + b.stocks.length * 2 + b.lines.length * 8 < 100000000000) :
    Calls Tryz.prog 50 #[.agg #[us, ul], .int .i64 (k : Int)] w fun e w' => e = .returned (.int .i64 ((k + b.stocks.length * 2 + b.lines.length * 8 : Nat) : Int)) ∧ LSt bs w' us (mkBk k b).stocks ∧ LOl bl w' ul (mkBk k b).lines ∧ KeepP (fun j => (j = bs ∧ b.stocks ≠ []) ∨ (j = bl ∧ b.lines ≠ [])) w w' := by
  obtain ⟨a2, c2, rfl⟩ := h1.val
  obtain ⟨a3, c3, rfl⟩ := h2.val
  obtain ⟨W0, hW0⟩ : ∃ W0, w.alloc (.cells #[.slice a2 b.stocks.length c2, .slice a3 b.lines.length c3] 38) = W0 := ⟨_, rfl⟩
  have hb0 : Below w.heap.size w W0 := by rw [← hW0]; exact (Below.refl _ _).alloc (Nat.le_refl _) _
  have hbx : W0.heap[w.heap.size]? = some (.cells #[.slice a2 b.stocks.length c2, .slice a3 b.lines.length c3] 38) := by rw [← hW0]; exact World.alloc_heap_new _ _
  have H0 : Hid (KeepP (fun j => (j = bs ∧ b.stocks ≠ []) ∨ (j = bl ∧ b.lines ≠ [])) w W0 ∧ LSt bs W0 (.slice a2 b.stocks.length c2) b.stocks ∧ LOl bl W0 (.slice a3 b.lines.length c3) b.lines ∧ W0.heap[w.heap.size]? = some (.cells #[.slice a2 b.stocks.length c2, .slice a3 b.lines.length c3] 38) ∧ (b.stocks ≠ [] → bs < w.heap.size)) := ⟨KeepP.of_below hb0, h1.below hb0, h2.below hb0, hbx, fun hn => h1.lt hn⟩
  clear h1 h2 hb0 hbx
  go_enter Tryz.func50, Tryz.ntmps50
  go_upto_region 1 with fail
  try rw [hW0]
  clear hW0
  obtain ⟨x0, x1⟩ := box2 H0.out.2.2.2.1
  go_wp2_with fail
  refine (markSt_k bs _ b.stocks k _ H0.out.2.1 ⟨by omega, by omega⟩).mono ?_
  rintro e w1 ⟨rfl, hL, hkp⟩
  have hbx1 := (hkp.block _ (Array.getElem?_eq_some_iff.1 H0.out.2.2.2.1).1 (fun hs => by have := H0.out.2.2.2.2 hs.2; omega)).trans H0.out.2.2.2.1
  have H1 : Hid (KeepP (fun j => (j = bs ∧ b.stocks ≠ []) ∨ (j = bl ∧ b.lines ≠ [])) w w1 ∧ LSt bs w1 (.slice a2 b.stocks.length c2) (mkSts k b.stocks.length) ∧ LOl bl w1 (.slice a3 b.lines.length c3) b.lines ∧ w1.heap[w.heap.size]? = some (.cells #[.slice a2 b.stocks.length c2, .slice a3 b.lines.length c3] 38)) := ⟨H0.out.1.trans (hkp.mono fun _ h => .inl h), hL, H0.out.2.2.1.kp hkp (H0.out.2.1.typ (by decide)), hbx1⟩
  clear hL hkp hbx1 x0 x1 H0
  obtain ⟨x0, x1⟩ := box2 H1.out.2.2.2
  obtain ⟨k2, hk2⟩ : ∃ k2, k2 = k + b.stocks.length * 2 := ⟨_, rfl⟩
  have HK2 : Hid (k2 = k + b.stocks.length * 2) := hk2
  have hk2' : 0 < k2 ∧ k2 + b.lines.length * 8 < 1000000000000 := by omega
  rw [← hk2]
  clear hk2
  go_wp2_with fail
  refine (markOl_k bl _ b.lines k2 _ H1.out.2.2.1 hk2').mono ?_
  rintro e w2 ⟨rfl, hL, hkp⟩
  have H2 : Hid (KeepP (fun j => (j = bs ∧ b.stocks ≠ []) ∨ (j = bl ∧ b.lines ≠ [])) w w2 ∧ LSt bs w2 (.slice a2 b.stocks.length c2) (mkSts k b.stocks.length) ∧ LOl bl w2 (.slice a3 b.lines.length c3) (mkOls k2 b.lines.length)) := ⟨H1.out.1.trans (hkp.mono fun _ h => .inr h), H1.out.2.1.kp hkp (H1.out.2.2.1.typ (by decide)), hL⟩
  clear hL hkp x0 x1 H1
  go_wp2
  go_ret
  have e2 := HK2.out
  subst e2
  exact ⟨rfl, H2.out.2.1, H2.out.2.2, H2.out.1⟩
end Go.Proofs.YtagajindaipaeaaGreat
