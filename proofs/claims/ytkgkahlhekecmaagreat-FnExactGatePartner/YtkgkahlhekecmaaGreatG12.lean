/- Texts of ours put together: MaOl, MaBk, MaDf. -/
import Derived.Test.YtkgkahlhekecmaaGreatG10
import Derived.Test.YtkgkahlhekecmaaGreatG00
import Derived.Deep.RegionHeld3
import Derived.Deep.QuietTactic
import Derived.BigQuiet
import Derived.BigRegion
import Derived.Test.YtkgkahlhekecmaaGreatG11
import Derived.Test.YtkgkahlhekecmaaGreatG01
namespace Go.Proofs.YtkgkahlhekecmaaGreat
open Go.ChangeShapes Go.WideShapes Go.ChangeAt Go.RowKit
/-- What the marks make of it. -/
def mkOl (k i : Nat) : OLn := ⟨mtB (k + i * 8), mtB (k + i * 8 + 1), ((k + i * 8 + 2 : Nat) : Int), mtB (k + i * 8 + 3), ((k + i * 8 + 4 : Nat) : Int), ((k + i * 8 + 5 : Nat) : Int), ((k + i * 8 + 6 : Nat) : Int), ((k + i * 8 + 7 : Nat) : Int)⟩
def mkOls (k n : Nat) : List OLn := (List.range n).map (mkOl k)
theorem mkOls_len (k n : Nat) : (mkOls k n).length = n := by simp [mkOls]
theorem mkOls_at {k n i : Nat} {g : OLn} (h : (mkOls k n)[i]? = some g) : i < n ∧ g = mkOl k i := by
  have hi := (List.getElem?_eq_some_iff.1 h).1
  rw [mkOls_len] at hi
  refine ⟨hi, ?_⟩
  simpa [mkOls, hi] using h.symm
theorem mkOls_sizes {k n : Nat} : ∀ (i : Nat) (g : OLn), (mkOls k n)[i]? = some g → g.partner.size ≤ 9223372036854775807 ∧ g.ref.size ≤ 9223372036854775807 ∧ g.item.size ≤ 9223372036854775807 := fun i g h => by
  obtain ⟨_, rfl⟩ := mkOls_at h
  have h0 := mtB_size (k + i * 8)
  have h1 := mtB_size (k + i * 8 + 1)
  have h2 := mtB_size (k + i * 8 + 3)
  simp only [mkOl]
  omega
set_option maxRecDepth 20000 in
set_option maxHeartbeats 8000000 in
theorem markOl_any (b : Nat) (v : Value) (rs : List OLn) (k : Nat) (w : World) (h : LOl b w v rs) (hk : 0 < k ∧ k + rs.length * 8 < 1000000000000) :
    Calls Tryz.prog 82 #[v, .int .i64 (k : Int)] w fun e w' => e = .returned (.int .i64 ((k + rs.length * 8 : Nat) : Int)) ∧ LOl b w' v (mkOls k rs.length) ∧ Keep b w w' := by
  have hlen := h.len
  obtain ⟨a, cap, rfl⟩ := h.val
  rcases Nat.eq_zero_or_pos rs.length with h0 | h0
  · have hnil : rs = [] := List.eq_nil_of_length_eq_zero h0
    subst hnil
    clear h
    go_enter Tryz.func82, Tryz.ntmps82
    go_wp2
    go_loopw [1, 5] (fun q i wr => q = .int .i64 (k : Int) ∧ i = .int .i64 0 ∧ wr = w) (fun _ _ _ => 0)
    case atStart => exact ⟨rfl, rfl, rfl⟩
    case round =>
      obtain ⟨rfl, rfl, rfl⟩ := hrel
      go_wp2
      go_ret
      exact ⟨rfl, ⟨⟨_, _, rfl, fun h => absurd rfl h⟩, by simp [mkOls], mkOls_sizes⟩, Keep.refl _ _⟩
  · obtain ⟨a', cap', e, hc⟩ := h.shape
    simp only [Value.slice.injEq, true_and] at e
    obtain ⟨rfl, rfl⟩ := e
    obtain ⟨rfl, m, f, hR, hm, _⟩ := hc (by intro g; rw [g] at h0; simp at h0)
    have HR : Hid (w.rowIs b 151 m f) := hR
    clear h hR hc
    go_enter Tryz.func82, Tryz.ntmps82
    go_wp2
    go_loopw [1, 5] (fun q i wr => ∃ (j : Nat) (f : Nat → Value), q = .int .i64 ((k + j * 8 : Nat) : Int) ∧ i = .int .i64 (j : Int) ∧ j ≤ rs.length ∧ wr.rowIs b 151 m f ∧ (∀ i, i < j → f (i * 8) = .string (mtB (k + i * 8)) ∧ f (i * 8 + 1) = .string (mtB (k + i * 8 + 1)) ∧ f (i * 8 + 2) = .int .i64 (((k + i * 8 + 2 : Nat) : Int)) ∧ f (i * 8 + 3) = .string (mtB (k + i * 8 + 3)) ∧ f (i * 8 + 4) = .int .i64 (((k + i * 8 + 4 : Nat) : Int)) ∧ f (i * 8 + 5) = .int .i64 (((k + i * 8 + 5 : Nat) : Int)) ∧ f (i * 8 + 6) = .int .i64 (((k + i * 8 + 6 : Nat) : Int)) ∧ f (i * 8 + 7) = .int .i64 (((k + i * 8 + 7 : Nat) : Int))) ∧ Keep b w wr) (fun _ i _ => rs.length - (intOf i).toNat)
    case atStart => exact ⟨0, f, by simp, rfl, by omega, HR.out, fun i hi => by omega, Keep.refl _ _⟩
    case round =>
      obtain ⟨j, f, rfl, rfl, hj, hR, hA, hK⟩ := hrel
      have HS : Hid (wr.rowIs b 151 m f ∧ (∀ i, i < j → f (i * 8) = .string (mtB (k + i * 8)) ∧ f (i * 8 + 1) = .string (mtB (k + i * 8 + 1)) ∧ f (i * 8 + 2) = .int .i64 (((k + i * 8 + 2 : Nat) : Int)) ∧ f (i * 8 + 3) = .string (mtB (k + i * 8 + 3)) ∧ f (i * 8 + 4) = .int .i64 (((k + i * 8 + 4 : Nat) : Int)) ∧ f (i * 8 + 5) = .int .i64 (((k + i * 8 + 5 : Nat) : Int)) ∧ f (i * 8 + 6) = .int .i64 (((k + i * 8 + 6 : Nat) : Int)) ∧ f (i * 8 + 7) = .int .i64 (((k + i * 8 + 7 : Nat) : Int))) ∧ Keep b w wr) := ⟨hR, hA, hK⟩
      clear hR hA hK
      by_cases hlt : j < rs.length
      · have hlt' : (j : Int) < (rs.length : Int) := by omega
        go_wp2_with fail
        refine (markText_b _ (k + j * 8) (by omega) _ (by omega) (by omega)).mono ?_
        rintro e wa ⟨rfl, hba⟩
        have Ra := HS.out.1.of_block (hba.block b HS.out.1.lt)
        have fa := Ra.frozen
        have ca := Ra.cell (i := j * 8) (by omega)
        have HA : Hid ((wa.setCell ⟨b, j * 8, none⟩ (.string (mtB (k + j * 8)))).rowIs b 151 m _ ∧ Keep b w (wa.setCell ⟨b, j * 8, none⟩ (.string (mtB (k + j * 8))))) := ⟨Ra.set (j * 8) (.string (mtB (k + j * 8))), (HS.out.2.2.trans (Keep.of_below hba)).setCell _ _⟩
        clear hba Ra
        go_wp2_with fail
        refine (markText_b _ (k + j * 8 + 1) (by omega) _ (by omega) (by omega)).mono ?_
        rintro e wb ⟨rfl, hbb⟩
        have Rb := HA.out.1.of_block (hbb.block b HA.out.1.lt)
        have fb := Rb.frozen
        have cb1 := Rb.cell (i := j * 8 + 1) (by omega)
        have cb2 := Rb.cell (i := j * 8 + 2) (by omega)
        have HB : Hid (((wb.setCell ⟨b, j * 8 + 1, none⟩ (.string (mtB (k + j * 8 + 1)))).setCell ⟨b, j * 8 + 2, none⟩ (.int .i64 (((k + j * 8 : Nat) : Int) + 1 + 1))).rowIs b 151 m _ ∧ Keep b w ((wb.setCell ⟨b, j * 8 + 1, none⟩ (.string (mtB (k + j * 8 + 1)))).setCell ⟨b, j * 8 + 2, none⟩ (.int .i64 (((k + j * 8 : Nat) : Int) + 1 + 1)))) := ⟨(Rb.set (j * 8 + 1) (.string (mtB (k + j * 8 + 1)))).set (j * 8 + 2) (.int .i64 (((k + j * 8 : Nat) : Int) + 1 + 1)), ((HA.out.2.trans (Keep.of_below hbb)).setCell _ _).setCell _ _⟩
        clear hbb Rb ca fa
        go_wp2_with fail
        refine (markText_b _ (k + j * 8 + 3) (by omega) _ (by omega) (by omega)).mono ?_
        rintro e wc ⟨rfl, hbc⟩
        have Rc := HB.out.1.of_block (hbc.block b HB.out.1.lt)
        have fc := Rc.frozen
        have cc3 := Rc.cell (i := j * 8 + 3) (by omega)
        have cc4 := Rc.cell (i := j * 8 + 4) (by omega)
        have cc5 := Rc.cell (i := j * 8 + 5) (by omega)
        have cc6 := Rc.cell (i := j * 8 + 6) (by omega)
        have cc7 := Rc.cell (i := j * 8 + 7) (by omega)
        have HC : Hid ((((((wc.setCell ⟨b, j * 8 + 3, none⟩ (.string (mtB (k + j * 8 + 3)))).setCell ⟨b, j * 8 + 4, none⟩ (.int .i64 (((k + j * 8 : Nat) : Int) + 1 + 1 + 1 + 1))).setCell ⟨b, j * 8 + 5, none⟩ (.int .i64 (((k + j * 8 : Nat) : Int) + 1 + 1 + 1 + 1 + 1))).setCell ⟨b, j * 8 + 6, none⟩ (.int .i64 (((k + j * 8 : Nat) : Int) + 1 + 1 + 1 + 1 + 1 + 1))).setCell ⟨b, j * 8 + 7, none⟩ (.int .i64 (((k + j * 8 : Nat) : Int) + 1 + 1 + 1 + 1 + 1 + 1 + 1))).rowIs b 151 m _ ∧ Keep b w (((((wc.setCell ⟨b, j * 8 + 3, none⟩ (.string (mtB (k + j * 8 + 3)))).setCell ⟨b, j * 8 + 4, none⟩ (.int .i64 (((k + j * 8 : Nat) : Int) + 1 + 1 + 1 + 1))).setCell ⟨b, j * 8 + 5, none⟩ (.int .i64 (((k + j * 8 : Nat) : Int) + 1 + 1 + 1 + 1 + 1))).setCell ⟨b, j * 8 + 6, none⟩ (.int .i64 (((k + j * 8 : Nat) : Int) + 1 + 1 + 1 + 1 + 1 + 1))).setCell ⟨b, j * 8 + 7, none⟩ (.int .i64 (((k + j * 8 : Nat) : Int) + 1 + 1 + 1 + 1 + 1 + 1 + 1)))) := ⟨(((((Rc.set (j * 8 + 3) (.string (mtB (k + j * 8 + 3)))).set (j * 8 + 4) (.int .i64 (((k + j * 8 : Nat) : Int) + 1 + 1 + 1 + 1))).set (j * 8 + 5) (.int .i64 (((k + j * 8 : Nat) : Int) + 1 + 1 + 1 + 1 + 1))).set (j * 8 + 6) (.int .i64 (((k + j * 8 : Nat) : Int) + 1 + 1 + 1 + 1 + 1 + 1))).set (j * 8 + 7) (.int .i64 (((k + j * 8 : Nat) : Int) + 1 + 1 + 1 + 1 + 1 + 1 + 1))), ((((((HB.out.2.trans (Keep.of_below hbc)).setCell _ _).setCell _ _).setCell _ _).setCell _ _).setCell _ _)⟩
        clear hbc Rc cb1 cb2 fb
        go_wp2
        go_roundw
        case rel =>
          refine ⟨j + 1, _, by go_num, by go_num, by omega, HC.out.1, fun i hi => ?_, HC.out.2⟩
          by_cases e1 : i = j
          · subst e1
            refine ⟨?_, ?_, ?_, ?_, ?_, ?_, ?_, ?_⟩
            · rw [if_neg (by omega), if_neg (by omega), if_neg (by omega), if_neg (by omega), if_neg (by omega), if_neg (by omega), if_neg (by omega), if_pos rfl]
            · rw [if_neg (by omega), if_neg (by omega), if_neg (by omega), if_neg (by omega), if_neg (by omega), if_neg (by omega), if_pos rfl]
            · rw [if_neg (by omega), if_neg (by omega), if_neg (by omega), if_neg (by omega), if_neg (by omega), if_pos rfl]
              first | rfl | (congr 1; omega)
            · rw [if_neg (by omega), if_neg (by omega), if_neg (by omega), if_neg (by omega), if_pos rfl]
            · rw [if_neg (by omega), if_neg (by omega), if_neg (by omega), if_pos rfl]
              first | rfl | (congr 1; omega)
            · rw [if_neg (by omega), if_neg (by omega), if_pos rfl]
              first | rfl | (congr 1; omega)
            · rw [if_neg (by omega), if_pos rfl]
              first | rfl | (congr 1; omega)
            · rw [if_pos rfl]
              first | rfl | (congr 1; omega)
          · obtain ⟨r0, r1, r2, r3, r4, r5, r6, r7⟩ := HS.out.2.1 i (by omega)
            refine ⟨?_, ?_, ?_, ?_, ?_, ?_, ?_, ?_⟩
            all_goals rw [if_neg (by omega), if_neg (by omega), if_neg (by omega), if_neg (by omega), if_neg (by omega), if_neg (by omega), if_neg (by omega), if_neg (by omega)]
            all_goals assumption
        case measure => simp [intOf]; omega
      · obtain rfl : j = rs.length := by omega
        go_wp2
        go_ret
        refine ⟨rfl, ⟨⟨_, _, by rw [mkOls_len], fun _ => ⟨rfl, m, f, HS.out.1, by rw [mkOls_len]; exact hm, fun i g hi => ?_⟩⟩, by rw [mkOls_len]; exact hlen, mkOls_sizes⟩, HS.out.2.2⟩
        obtain ⟨hi', rfl⟩ := mkOls_at hi
        exact HS.out.2.1 i hi'
end Go.Proofs.YtkgkahlhekecmaaGreat
namespace Go.Proofs.YtkgkahlhekecmaaGreat
open Go.ChangeShapes Go.WideShapes Go.ChangeAt Go.RowKit
/-- A book whose lists lie in two blocks of their own. -/
structure LBk (bs bl : Nat) (W : World) (us ul : Value) (b : Bk) : Prop where
  st : LSt bs W us b.stocks
  ln : LOl bl W ul b.lines
  ne : bs ≠ bl
theorem LBk.row {bs bl : Nat} {W : World} {us ul : Value} {b : Bk} (h : LBk bs bl W us ul b) : RBk W us ul b := ⟨h.st.row, h.ln.row⟩
theorem LBk.below {bs bl : Nat} {W W' : World} {us ul : Value} {b : Bk} (h : LBk bs bl W us ul b) (hb : Below W.heap.size W W') : LBk bs bl W' us ul b := ⟨h.st.below hb, h.ln.below hb, h.ne⟩
/-- All but two blocks as it lay. -/
structure Keep2 (b c : Nat) (w w' : World) : Prop where
  os : w'.os = w.os
  tape : w'.tape = w.tape
  output : w'.output = w.output
  size : w.heap.size ≤ w'.heap.size
  block : ∀ k, k < w.heap.size → k ≠ b → k ≠ c → w'.heap[k]? = w.heap[k]?
theorem Keep2.below {b c N : Nat} {w w' : World} (h : Keep2 b c w w') (h1 : N ≤ b) (h2 : N ≤ c) (h3 : N ≤ w.heap.size) : Below N w w' :=
  ⟨h.os, h.tape, h.output, h.size, fun k hk => h.block k (by omega) (by omega) (by omega)⟩
theorem LBk.keep2 {bs bl b c : Nat} {W W' : World} {us ul : Value} {p : Bk} (h : LBk bs bl W us ul p) (hk : Keep2 b c W W') (h1 : bs ≠ b) (h2 : bs ≠ c) (h3 : bl ≠ b) (h4 : bl ≠ c) : LBk bs bl W' us ul p :=
  ⟨h.st.of_block fun hn => hk.block bs (h.st.lt hn) h1 h2, h.ln.of_block fun hn => hk.block bl (h.ln.lt hn) h3 h4, h.ne⟩
/-- Two lists in blocks of their own: where one is empty its block may be any. -/
theorem LBk.of {bs bl : Nat} {W : World} {us ul : Value} {b : Bk} (h1 : LSt bs W us b.stocks) (h2 : LOl bl W ul b.lines) : ∃ bs' bl', LBk bs' bl' W us ul b ∧ (bs' = bs ∧ b.stocks ≠ [] ∨ W.heap.size < bs') ∧ (bl' = bl ∧ b.lines ≠ [] ∨ W.heap.size < bl') ∧ bs' ≠ W.heap.size ∧ bl' ≠ W.heap.size := by
  obtain ⟨bs', k1, k2, k3, k4⟩ : ∃ bs', LSt bs' W us b.stocks ∧ (bs' = bs ∧ b.stocks ≠ [] ∨ W.heap.size < bs') ∧ bs' ≠ W.heap.size ∧ (b.stocks = [] → bs' = W.heap.size + 1) := by
    by_cases e : b.stocks = []
    · refine ⟨W.heap.size + 1, ?_, .inr (by omega), by omega, fun _ => rfl⟩
      obtain ⟨a, cap, e1, _⟩ := h1.shape
      exact ⟨⟨a, cap, e1, fun hn => absurd e hn⟩, h1.len, h1.sizes⟩
    · have := h1.lt e
      exact ⟨bs, h1, .inl ⟨rfl, e⟩, by omega, fun h => absurd h e⟩
  obtain ⟨bl', l1, l2, l3, l4⟩ : ∃ bl', LOl bl' W ul b.lines ∧ (bl' = bl ∧ b.lines ≠ [] ∨ W.heap.size < bl') ∧ bl' ≠ W.heap.size ∧ (b.lines = [] → bl' = W.heap.size + 2) := by
    by_cases e : b.lines = []
    · refine ⟨W.heap.size + 2, ?_, .inr (by omega), by omega, fun _ => rfl⟩
      obtain ⟨a, cap, e1, _⟩ := h2.shape
      exact ⟨⟨a, cap, e1, fun hn => absurd e hn⟩, h2.len, h2.sizes⟩
    · have := h2.lt e
      exact ⟨bl, h2, .inl ⟨rfl, e⟩, by omega, fun h => absurd h e⟩
  refine ⟨bs', bl', ⟨k1, l1, ?_⟩, k2, l2, k3, l3⟩
  by_cases e : b.stocks = []
  · rw [k4 e]
    by_cases e' : b.lines = []
    · rw [l4 e']; omega
    · have := l1.lt e'; omega
  · have hk := k1.lt e
    by_cases e' : b.lines = []
    · rw [l4 e']; omega
    · intro he
      subst he
      obtain ⟨_, _, _, c1⟩ := k1.shape
      obtain ⟨_, _, _, r1, _⟩ := c1 e
      obtain ⟨_, _, _, c2⟩ := l1.shape
      obtain ⟨_, _, _, r2, _⟩ := c2 e'
      obtain ⟨x1, y1, _⟩ := r1
      obtain ⟨x2, y2, _⟩ := r2
      have y3 := y1.symm.trans y2
      simp at y3
def mkBk (k : Nat) (b : Bk) : Bk := ⟨mkSts k b.stocks.length, mkOls (k + b.stocks.length * 2) b.lines.length⟩
set_option maxHeartbeats 4000000 in
theorem markBk_any (bs bl : Nat) (us ul : Value) (b : Bk) (k : Nat) (w : World) (h : LBk bs bl w us ul b) (hs : bs ≠ w.heap.size) (hk : 0 < k ∧ k + b.stocks.length * 2 + b.lines.length * 8 < 100000000000) :
    Calls Tryz.prog 40 #[.agg #[us, ul], .int .i64 (k : Int)] w fun e w' => e = .returned (.int .i64 ((k + b.stocks.length * 2 + b.lines.length * 8 : Nat) : Int)) ∧ LBk bs bl w' us ul (mkBk k b) ∧ Keep2 bs bl w w' := by
  obtain ⟨W0, hW0⟩ : ∃ W0, w.alloc (.cells #[us, ul] 38) = W0 := ⟨_, rfl⟩
  have hb0 : Below w.heap.size w W0 := by rw [← hW0]; exact (Below.refl _ _).alloc (Nat.le_refl _) _
  have hbx : W0.heap[w.heap.size]? = some (.cells #[us, ul] 38) := by rw [← hW0]; exact World.alloc_heap_new _ _
  obtain ⟨A0, C0, hus⟩ := h.st.val
  obtain ⟨A1, C1, hul⟩ := h.ln.val
  have H0 : Hid (Below w.heap.size w W0 ∧ LBk bs bl W0 us ul b ∧ W0.heap[w.heap.size]? = some (.cells #[us, ul] 38)) := ⟨hb0, h.below hb0, hbx⟩
  obtain ⟨c0, c1⟩ := box2 hbx
  have hlt0 := (Array.getElem?_eq_some_iff.1 hbx).1
  have hne := h.ne
  clear h hb0 hbx
  subst hus hul
  go_enter Tryz.func40, Tryz.ntmps40
  go_upto_region 1 with fail
  try rw [hW0]
  clear hW0
  go_wp2_with fail
  refine (markSt_any bs _ b.stocks k _ H0.out.2.1.st ⟨by omega, by omega⟩).mono ?_
  rintro e w1 ⟨rfl, hL1, hk1⟩
  have H1 : Hid (LSt bs w1 (.slice A0 b.stocks.length C0) (mkSts k b.stocks.length) ∧ LOl bl w1 (.slice A1 b.lines.length C1) b.lines ∧ Keep bs W0 w1) := ⟨hL1, H0.out.2.1.ln.keep hk1 (Ne.symm hne), hk1⟩
  obtain ⟨d0, d1⟩ := box2 ((hk1.block _ hlt0 (Ne.symm hs)).trans H0.out.2.2)
  clear hL1 hk1 c0 c1
  obtain ⟨k2, hk2⟩ : ∃ k2, k2 = k + b.stocks.length * 2 := ⟨_, rfl⟩
  have HK2 : Hid (k2 = k + b.stocks.length * 2) := hk2
  have hk2' : 0 < k2 ∧ k2 + b.lines.length * 8 < 1000000000000 := by omega
  rw [← hk2]
  clear hk2
  go_wp2_with fail
  refine (markOl_any bl _ b.lines k2 _ H1.out.2.1 hk2').mono ?_
  rintro e w2 ⟨rfl, hL2, hkp2⟩
  have H2 : Hid (LBk bs bl w2 (.slice A0 b.stocks.length C0) (.slice A1 b.lines.length C1) (mkBk k b) ∧ Keep2 bs bl w w2) := by
    refine ⟨⟨H1.out.1.keep hkp2 hne, ?_, hne⟩, ?_⟩
    · show LOl bl w2 _ (mkOls (k + b.stocks.length * 2) b.lines.length)
      rw [← HK2.out]
      exact hL2
    · have s0 := H0.out.1.size
      have s1 := H1.out.2.2.size
      exact ⟨hkp2.os.trans (H1.out.2.2.os.trans H0.out.1.os), hkp2.tape.trans (H1.out.2.2.tape.trans H0.out.1.tape), hkp2.output.trans (H1.out.2.2.output.trans H0.out.1.output), by have := hkp2.size; omega, fun j hj g1 g2 => (hkp2.block j (by omega) g2).trans ((H1.out.2.2.block j (by omega) g1).trans (H0.out.1.block j hj))⟩
  have HR : Hid ((k + b.stocks.length * 2 + b.lines.length * 8 : Nat) = k2 + b.lines.length * 8) := by rw [HK2.out]; rfl
  clear hL2 hkp2
  go_wp2
  go_ret
  exact ⟨by rw [HR.out]; rfl, H2.out⟩
end Go.Proofs.YtkgkahlhekecmaaGreat
namespace Go.Proofs.YtkgkahlhekecmaaGreat
open Go.ChangeShapes Go.WideShapes Go.ChangeAt Go.RowKit
/-- What the marks make of it. -/
def mkDf (k i : Nat) : Dff := ⟨((k + i * 6 : Nat) : Int), mtB (k + i * 6 + 1), mtB (k + i * 6 + 2), ((k + i * 6 + 3 : Nat) : Int), mtB (k + i * 6 + 4), ((k + i * 6 + 5 : Nat) : Int)⟩
def mkDfs (k n : Nat) : List Dff := (List.range n).map (mkDf k)
theorem mkDfs_len (k n : Nat) : (mkDfs k n).length = n := by simp [mkDfs]
theorem mkDfs_at {k n i : Nat} {g : Dff} (h : (mkDfs k n)[i]? = some g) : i < n ∧ g = mkDf k i := by
  have hi := (List.getElem?_eq_some_iff.1 h).1
  rw [mkDfs_len] at hi
  refine ⟨hi, ?_⟩
  simpa [mkDfs, hi] using h.symm
theorem mkDfs_sizes {k n : Nat} : ∀ (i : Nat) (g : Dff), (mkDfs k n)[i]? = some g → g.partner.size ≤ 9223372036854775807 ∧ g.ref.size ≤ 9223372036854775807 ∧ g.item.size ≤ 9223372036854775807 := fun i g h => by
  obtain ⟨_, rfl⟩ := mkDfs_at h
  have h1 := mtB_size (k + i * 6 + 1)
  have h2 := mtB_size (k + i * 6 + 2)
  have h4 := mtB_size (k + i * 6 + 4)
  simp only [mkDf]
  omega
set_option maxRecDepth 20000 in
set_option maxHeartbeats 8000000 in
theorem markDf_any (b : Nat) (v : Value) (rs : List Dff) (k : Nat) (w : World) (h : LDf b w v rs) (hk : 0 < k ∧ k + rs.length * 6 < 1000000000000) :
    Calls Tryz.prog 41 #[v, .int .i64 (k : Int)] w fun e w' => e = .returned (.int .i64 ((k + rs.length * 6 : Nat) : Int)) ∧ LDf b w' v (mkDfs k rs.length) ∧ Keep b w w' := by
  have hlen := h.len
  obtain ⟨a, cap, rfl⟩ := h.val
  rcases Nat.eq_zero_or_pos rs.length with h0 | h0
  · have hnil : rs = [] := List.eq_nil_of_length_eq_zero h0
    subst hnil
    clear h
    go_enter Tryz.func41, Tryz.ntmps41
    go_wp2
    go_loopw [1, 5] (fun q i wr => q = .int .i64 (k : Int) ∧ i = .int .i64 0 ∧ wr = w) (fun _ _ _ => 0)
    case atStart => exact ⟨rfl, rfl, rfl⟩
    case round =>
      obtain ⟨rfl, rfl, rfl⟩ := hrel
      go_wp2
      go_ret
      exact ⟨rfl, ⟨⟨_, _, rfl, fun h => absurd rfl h⟩, by simp [mkDfs], mkDfs_sizes⟩, Keep.refl _ _⟩
  · obtain ⟨a', cap', e, hc⟩ := h.shape
    simp only [Value.slice.injEq, true_and] at e
    obtain ⟨rfl, rfl⟩ := e
    obtain ⟨rfl, m, f, hR, hm, _⟩ := hc (by intro g; rw [g] at h0; simp at h0)
    have HR : Hid (w.rowIs b 110 m f) := hR
    clear h hR hc
    go_enter Tryz.func41, Tryz.ntmps41
    go_wp2
    go_loopw [1, 5] (fun q i wr => ∃ (j : Nat) (f : Nat → Value), q = .int .i64 ((k + j * 6 : Nat) : Int) ∧ i = .int .i64 (j : Int) ∧ j ≤ rs.length ∧ wr.rowIs b 110 m f ∧ (∀ i, i < j → f (i * 6) = .int .i64 (((k + i * 6 : Nat) : Int)) ∧ f (i * 6 + 1) = .string (mtB (k + i * 6 + 1)) ∧ f (i * 6 + 2) = .string (mtB (k + i * 6 + 2)) ∧ f (i * 6 + 3) = .int .i64 (((k + i * 6 + 3 : Nat) : Int)) ∧ f (i * 6 + 4) = .string (mtB (k + i * 6 + 4)) ∧ f (i * 6 + 5) = .int .i64 (((k + i * 6 + 5 : Nat) : Int))) ∧ Keep b w wr) (fun _ i _ => rs.length - (intOf i).toNat)
    case atStart => exact ⟨0, f, by simp, rfl, by omega, HR.out, fun i hi => by omega, Keep.refl _ _⟩
    case round =>
      obtain ⟨j, f, rfl, rfl, hj, hR, hA, hK⟩ := hrel
      have HS : Hid (wr.rowIs b 110 m f ∧ (∀ i, i < j → f (i * 6) = .int .i64 (((k + i * 6 : Nat) : Int)) ∧ f (i * 6 + 1) = .string (mtB (k + i * 6 + 1)) ∧ f (i * 6 + 2) = .string (mtB (k + i * 6 + 2)) ∧ f (i * 6 + 3) = .int .i64 (((k + i * 6 + 3 : Nat) : Int)) ∧ f (i * 6 + 4) = .string (mtB (k + i * 6 + 4)) ∧ f (i * 6 + 5) = .int .i64 (((k + i * 6 + 5 : Nat) : Int))) ∧ Keep b w wr) := ⟨hR, hA, hK⟩
      clear hR hA hK
      by_cases hlt : j < rs.length
      · have hlt' : (j : Int) < (rs.length : Int) := by omega
        have fy := HS.out.1.frozen
        have cy0 := HS.out.1.cell (i := j * 6) (by omega)
        have Hy : Hid ((wr.setCell ⟨b, j * 6, none⟩ (.int .i64 (((k + j * 6 : Nat) : Int)))).rowIs b 110 m _ ∧ Keep b w (wr.setCell ⟨b, j * 6, none⟩ (.int .i64 (((k + j * 6 : Nat) : Int))))) := ⟨(HS.out.1.set (j * 6) (.int .i64 (((k + j * 6 : Nat) : Int)))), (HS.out.2.2.setCell _ _)⟩
        go_wp2_with fail
        refine (markText_b _ (k + j * 6 + 1) (by omega) _ (by omega) (by omega)).mono ?_
        rintro e wa ⟨rfl, hba⟩
        have Ra := Hy.out.1.of_block (hba.block b Hy.out.1.lt)
        have fa := Ra.frozen
        have ca1 := Ra.cell (i := j * 6 + 1) (by omega)
        have Ha : Hid ((wa.setCell ⟨b, j * 6 + 1, none⟩ (.string (mtB (k + j * 6 + 1)))).rowIs b 110 m _ ∧ Keep b w (wa.setCell ⟨b, j * 6 + 1, none⟩ (.string (mtB (k + j * 6 + 1))))) := ⟨(Ra.set (j * 6 + 1) (.string (mtB (k + j * 6 + 1)))), ((Hy.out.2.trans (Keep.of_below hba)).setCell _ _)⟩
        clear hba Ra fy cy0
        go_wp2_with fail
        refine (markText_b _ (k + j * 6 + 2) (by omega) _ (by omega) (by omega)).mono ?_
        rintro e wb ⟨rfl, hbb⟩
        have Rb := Ha.out.1.of_block (hbb.block b Ha.out.1.lt)
        have fb := Rb.frozen
        have cb2 := Rb.cell (i := j * 6 + 2) (by omega)
        have cb3 := Rb.cell (i := j * 6 + 3) (by omega)
        have Hb : Hid (((wb.setCell ⟨b, j * 6 + 2, none⟩ (.string (mtB (k + j * 6 + 2)))).setCell ⟨b, j * 6 + 3, none⟩ (.int .i64 (((k + j * 6 : Nat) : Int) + 1 + 1 + 1))).rowIs b 110 m _ ∧ Keep b w ((wb.setCell ⟨b, j * 6 + 2, none⟩ (.string (mtB (k + j * 6 + 2)))).setCell ⟨b, j * 6 + 3, none⟩ (.int .i64 (((k + j * 6 : Nat) : Int) + 1 + 1 + 1)))) := ⟨((Rb.set (j * 6 + 2) (.string (mtB (k + j * 6 + 2)))).set (j * 6 + 3) (.int .i64 (((k + j * 6 : Nat) : Int) + 1 + 1 + 1))), (((Ha.out.2.trans (Keep.of_below hbb)).setCell _ _).setCell _ _)⟩
        clear hbb Rb fa ca1
        go_wp2_with fail
        refine (markText_b _ (k + j * 6 + 4) (by omega) _ (by omega) (by omega)).mono ?_
        rintro e wc ⟨rfl, hbc⟩
        have Rc := Hb.out.1.of_block (hbc.block b Hb.out.1.lt)
        have fc := Rc.frozen
        have cc4 := Rc.cell (i := j * 6 + 4) (by omega)
        have cc5 := Rc.cell (i := j * 6 + 5) (by omega)
        have Hc : Hid (((wc.setCell ⟨b, j * 6 + 4, none⟩ (.string (mtB (k + j * 6 + 4)))).setCell ⟨b, j * 6 + 5, none⟩ (.int .i64 (((k + j * 6 : Nat) : Int) + 1 + 1 + 1 + 1 + 1))).rowIs b 110 m _ ∧ Keep b w ((wc.setCell ⟨b, j * 6 + 4, none⟩ (.string (mtB (k + j * 6 + 4)))).setCell ⟨b, j * 6 + 5, none⟩ (.int .i64 (((k + j * 6 : Nat) : Int) + 1 + 1 + 1 + 1 + 1)))) := ⟨((Rc.set (j * 6 + 4) (.string (mtB (k + j * 6 + 4)))).set (j * 6 + 5) (.int .i64 (((k + j * 6 : Nat) : Int) + 1 + 1 + 1 + 1 + 1))), (((Hb.out.2.trans (Keep.of_below hbc)).setCell _ _).setCell _ _)⟩
        clear hbc Rc fb cb2 cb3
        go_wp2
        go_roundw
        case rel =>
          refine ⟨j + 1, _, by go_num, by go_num, by omega, Hc.out.1, fun i hi => ?_, Hc.out.2⟩
          by_cases e1 : i = j
          · subst e1
            refine ⟨?_, ?_, ?_, ?_, ?_, ?_⟩
            · rw [if_neg (by omega), if_neg (by omega), if_neg (by omega), if_neg (by omega), if_neg (by omega), if_pos rfl]
              try (first | rfl | (congr 1; omega))
            · rw [if_neg (by omega), if_neg (by omega), if_neg (by omega), if_neg (by omega), if_pos rfl]
            · rw [if_neg (by omega), if_neg (by omega), if_neg (by omega), if_pos rfl]
            · rw [if_neg (by omega), if_neg (by omega), if_pos rfl]
              try (first | rfl | (congr 1; omega))
            · rw [if_neg (by omega), if_pos rfl]
            · rw [if_pos rfl]
              try (first | rfl | (congr 1; omega))
          · obtain ⟨r0, r1, r2, r3, r4, r5⟩ := HS.out.2.1 i (by omega)
            refine ⟨?_, ?_, ?_, ?_, ?_, ?_⟩
            all_goals rw [if_neg (by omega), if_neg (by omega), if_neg (by omega), if_neg (by omega), if_neg (by omega), if_neg (by omega)]
            all_goals assumption
        case measure => simp [intOf]; omega
      · obtain rfl : j = rs.length := by omega
        go_wp2
        go_ret
        refine ⟨rfl, ⟨⟨_, _, by rw [mkDfs_len], fun _ => ⟨rfl, m, f, HS.out.1, by rw [mkDfs_len]; exact hm, fun i g hi => ?_⟩⟩, by rw [mkDfs_len]; exact hlen, mkDfs_sizes⟩, HS.out.2.2⟩
        obtain ⟨hi', rfl⟩ := mkDfs_at hi
        exact HS.out.2.1 i hi'
end Go.Proofs.YtkgkahlhekecmaaGreat
