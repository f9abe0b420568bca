/- Texts of ours put together: ToPt, ToPts, ToCs, ToSt, ToOl. -/
import Derived.Test.YtkgkahlhekecmaaGreatG00
import Derived.Test.YtkgkahlhekecmaaGreatG03
namespace Go.Proofs.YtkgkahlhekecmaaGreat
open Go.ChangeShapes Go.WideShapes Go.ChangeAt Go.RowKit
set_option maxHeartbeats 4000000 in
theorem toPt_own (r : Ptn) (u : Value) (w : World) (h : RPt w u r) (hP : BdPt 1048576 r) :
    Calls Tryz.prog 56 #[.agg #[.string r.name, .int .i64 r.low, .int .i64 r.next, u]] w fun e w' => ∃ u', e = .returned (.agg #[.string r.name, .int .i64 r.low, .int .i64 r.next, u']) ∧ OwnSn w.heap.size w' u' r.seen ∧ Below w.heap.size w w' := by
  obtain ⟨name, low, next, seen⟩ := r
  obtain ⟨a, cap, rfl⟩ := h.ls.val
  dsimp only at h ⊢
  have H : Hid (RowSn w (.slice a seen.length cap) seen ∧ BdSn 1048576 seen) := ⟨h.ls, hP.2⟩
  clear h hP
  go_enter Tryz.func56, Tryz.ntmps56
  go_wp2_with fail
  have hb0 : Below w.heap.size w (((w.alloc (.cells #[.string name, .int .i64 low, .int .i64 next, (.slice a seen.length cap)] 87)).alloc (.cells #[.string ⟨#[]⟩, .int .i64 0, .int .i64 0, .slice none 0 0] 63)).alloc (.cells #[.string name, .int .i64 low, .int .i64 next, .slice none 0 0] 63)) := (((Below.refl _ _).alloc (Nat.le_refl _) _).alloc (by simp) _).alloc (by simp; omega) _
  have h3 := fl_three w (.cells #[.string name, .int .i64 low, .int .i64 next, (.slice a seen.length cap)] 87) (.cells #[.string ⟨#[]⟩, .int .i64 0, .int .i64 0, .slice none 0 0] 63) (.cells #[.string name, .int .i64 low, .int .i64 next, .slice none 0 0] 63)
  have hs0 : (((w.alloc (.cells #[.string name, .int .i64 low, .int .i64 next, (.slice a seen.length cap)] 87)).alloc (.cells #[.string ⟨#[]⟩, .int .i64 0, .int .i64 0, .slice none 0 0] 63)).alloc (.cells #[.string name, .int .i64 low, .int .i64 next, .slice none 0 0] 63)).heap.size = w.heap.size + 3 := by simp
  generalize (((w.alloc (.cells #[.string name, .int .i64 low, .int .i64 next, (.slice a seen.length cap)] 87)).alloc (.cells #[.string ⟨#[]⟩, .int .i64 0, .int .i64 0, .slice none 0 0] 63)).alloc (.cells #[.string name, .int .i64 low, .int .i64 next, .slice none 0 0] 63)) = W0 at hb0 h3 hs0 ⊢
  refine (toSns_any _ seen W0 (H.out.1.below hb0) H.out.2).mono ?_
  rintro e w1 ⟨v1, rfl, hO, hb1⟩
  obtain ⟨A1, L1, C1, hv1⟩ : ∃ A1 L1 C1, v1 = .slice A1 L1 C1 := by
    obtain ⟨b', _, _, h2, _⟩ := hO
    exact ⟨_, _, _, h2⟩
  subst hv1
  have f1 := (hb1.block (w.heap.size + 1) (by omega)).trans h3.2.1
  have f2 := (hb1.block (w.heap.size + 1 + 1) (by omega)).trans h3.2.2
  have c0 : w1.cell? ⟨w.heap.size + 1, 0, none⟩ = some (.string ⟨#[]⟩) := by simp [World.cell?, f1]
  have c1 : w1.cell? ⟨w.heap.size + 1, 1, none⟩ = some (.int .i64 0) := by simp [World.cell?, f1]
  have c2 : w1.cell? ⟨w.heap.size + 1, 2, none⟩ = some (.int .i64 0) := by simp [World.cell?, f1]
  have c3 : w1.cell? ⟨w.heap.size + 1, 3, none⟩ = some (.slice none 0 0) := by simp [World.cell?, f1]
  have d0 : w1.cell? ⟨w.heap.size + 1 + 1, 0, none⟩ = some (.string name) := by simp [World.cell?, f2]
  have d1 : w1.cell? ⟨w.heap.size + 1 + 1, 1, none⟩ = some (.int .i64 low) := by simp [World.cell?, f2]
  have d2 : w1.cell? ⟨w.heap.size + 1 + 1, 2, none⟩ = some (.int .i64 next) := by simp [World.cell?, f2]
  have d3 : w1.cell? ⟨w.heap.size + 1 + 1, 3, none⟩ = some (.slice none 0 0) := by simp [World.cell?, f2]
  have z1 : ∀ o, w1.frozen? ⟨w.heap.size + 1, o, none⟩ = false := fun o => by simp [World.frozen?, f1]
  have z2 : ∀ o, w1.frozen? ⟨w.heap.size + 1 + 1, o, none⟩ = false := fun o => by simp [World.frozen?, f2]
  have HD : Hid (Below w.heap.size w w1 ∧ OwnSn (w.heap.size + 3) w1 (.slice A1 L1 C1) seen) := ⟨hb0.trans (hb1.mono (by omega)), by rw [← hs0]; exact hO⟩
  clear f1 f2 hb0 hb1 hO h3
  go_wp2
  have st : ∀ (W : World) (c i : Nat) (x : Value), w.heap.size ≤ c → c < w.heap.size + 3 → (Below w.heap.size w W ∧ OwnSn (w.heap.size + 3) W (.slice A1 L1 C1) seen) → (Below w.heap.size w (W.setCell ⟨c, i, none⟩ x) ∧ OwnSn (w.heap.size + 3) (W.setCell ⟨c, i, none⟩ x) (.slice A1 L1 C1) seen) := fun W c i x g1 g2 ⟨k1, k2⟩ => ⟨k1.setCell g1 x, k2.setAt g2 i x⟩
  have hF := (st _ (w.heap.size + 1) 3 (.slice A1 L1 C1) (by omega) (by omega) (st _ (w.heap.size + 1) 2 (.int .i64 next) (by omega) (by omega) (st _ (w.heap.size + 1) 1 (.int .i64 low) (by omega) (by omega) (st _ (w.heap.size + 1) 0 (.string name) (by omega) (by omega) (st _ (w.heap.size + 1 + 1) 3 (.slice A1 L1 C1) (by omega) (by omega) HD.out)))))
  exact bodyPost_ret (v := .agg #[.string name, .int .i64 low, .int .i64 next, .slice A1 L1 C1]) (by simp [results, Tryz.results56, go_sem, c0, c1, c2, c3]) rfl ⟨_, rfl, hF.2.mono (by omega), hF.1⟩
theorem toPt_any (r : Ptn) (u : Value) (w : World) (h : RPt w u r) (hP : BdPt 1048576 r) :
    Calls Tryz.prog 56 #[.agg #[.string r.name, .int .i64 r.low, .int .i64 r.next, u]] w fun e w' => ∃ u', e = .returned (.agg #[.string r.name, .int .i64 r.low, .int .i64 r.next, u']) ∧ RPt w' u' r ∧ Below w.heap.size w w' :=
  (toPt_own r u w h hP).mono fun _ _ ⟨u', he, hO, hb⟩ => ⟨u', he, ⟨hO.row hP.2, h.z_name⟩, hb⟩
end Go.Proofs.YtkgkahlhekecmaaGreat
namespace Go.Proofs.YtkgkahlhekecmaaGreat
open Go.ChangeShapes Go.WideShapes Go.ChangeAt Go.RowKit
theorem infoPt : (Tryz.prog.info? 63).map (fun i => (i.zero, i.size, i.bytes)) = some (some (.agg #[.string ⟨#[]⟩, .int .i64 0, .int .i64 0, .slice none 0 0]), 4, 56) := by kernel_rfl
theorem run_make_Pt (n : Nat) (hn : n ≤ 1048576) (w : World) : (Instr.makeSlice 33 (.int .i64 (n : Int)) (.int .i64 (n : Int))).run Tryz.prog w = .ok (.slice (some ⟨w.heap.size, 0, none⟩) n n) (w.alloc (.cells (madeCells #[.string ⟨#[]⟩, .int .i64 0, .int .i64 0, .slice none 0 0] (n * 4)) 63)) := by
  obtain ⟨i0, hi, hz0, hz1, hz2⟩ := info_parts infoPt
  have h := run_make (P := Tryz.prog) w 33 63 i0 (.agg #[.string ⟨#[]⟩, .int .i64 0, .int .i64 0, .slice none 0 0]) Tryz.underlying33 hi hz0 .i64 .i64 (n : Int) (n : Int) (by omega) (by omega) (by rw [hz2]; omega) (by omega)
  rw [hz1] at h
  simpa [Value.cells] using h
/-- The block of a list's memory. -/
def blkS (v : Value) : Nat := match v with
  | .slice (some a) _ _ => a.block
  | _ => 0
/-- What a row holds of one at place i. -/
def FPt (B : Nat) (W : World) (f : Nat → Value) (i : Nat) (g : Ptn) : Prop :=
  f (i * 4) = .string g.name ∧ f (i * 4 + 1) = .int .i64 g.low ∧ f (i * 4 + 2) = .int .i64 g.next ∧ OwnSn B W (f (i * 4 + 3)) g.seen
def OwnsPt (B : Nat) (W : World) (v : Value) (rs : List Ptn) : Prop := ∃ (b : Nat) (f : Nat → Value), B ≤ b ∧ v = .slice (some ⟨b, 0, none⟩) rs.length rs.length ∧ W.rowIs b 63 (rs.length * 4) f ∧ (∀ (i : Nat) (g : Ptn), rs[i]? = some g → FPt (b + 1) W f i g) ∧ (∀ i j : Nat, i < j → j < rs.length → blkS (f (i * 4 + 3)) < blkS (f (j * 4 + 3)))
theorem OwnsPt.row {B : Nat} {W : World} {v : Value} {rs : List Ptn} (h : OwnsPt B W v rs) (hG : BdsPt 1048576 rs) : RowPt W v rs := by
  obtain ⟨b, f, h1, h2, h3, h4⟩ := h
  have hl := hG.1
  refine ⟨⟨_, _, h2, fun _ => ⟨b, 0, rfl, fun i g hi => ?_⟩⟩, by omega⟩
  have hlt := (List.getElem?_eq_some_iff.1 hi).1
  obtain ⟨e0, e1, e2, e3⟩ := h4.1 i g hi
  have c0 := h3.cell (i := i * 4) (by omega)
  have c1 := h3.cell (i := i * 4 + 1) (by omega)
  have c2 := h3.cell (i := i * 4 + 2) (by omega)
  have c3 := h3.cell (i := i * 4 + 3) (by omega)
  rw [e0] at c0
  rw [e1] at c1
  rw [e2] at c2
  rw [Nat.zero_add]
  have hB := hG.2 i g hi
  exact ⟨_, ⟨c0, c1, c2, c3⟩, ⟨e3.row hB.2, Nat.le_trans hB.1 (by omega)⟩⟩
theorem OwnsPt.below {B : Nat} {W W' : World} {v : Value} {rs : List Ptn} (h : OwnsPt B W v rs) (hb : Below W.heap.size W W') : OwnsPt B W' v rs := by
  obtain ⟨b, f, h1, h2, h3, h4⟩ := h
  refine ⟨b, f, h1, h2, h3.of_block (hb.block b h3.lt), fun i g hi => ?_, h4.2⟩
  obtain ⟨e0, e1, e2, e3⟩ := h4.1 i g hi
  exact ⟨e0, e1, e2, e3.below hb⟩
theorem OwnsPt.setAt {B c : Nat} {W : World} {v : Value} {rs : List Ptn} (h : OwnsPt B W v rs) (hc : c < B) (i : Nat) (x : Value) : OwnsPt B (W.setCell ⟨c, i, none⟩ x) v rs := by
  obtain ⟨b, f, h1, h2, h3, h4⟩ := h
  refine ⟨b, f, h1, h2, h3.setOther (show b ≠ c by omega) x, fun j g hj => ?_, h4.2⟩
  obtain ⟨e0, e1, e2, e3⟩ := h4.1 j g hj
  exact ⟨e0, e1, e2, e3.setAt (by omega) i x⟩
theorem OwnsPt.mono {B C : Nat} {W : World} {v : Value} {rs : List Ptn} (h : OwnsPt B W v rs) (hC : C ≤ B) : OwnsPt C W v rs := by
  obtain ⟨b, f, h1, h2⟩ := h
  exact ⟨b, f, by omega, h2⟩
theorem FPt.sets {B : Nat} {W : World} {f : Nat → Value} {n : Nat} {k : Nat} {g : Ptn} {u : Value} {t : Nat} (hR : W.rowIs B t n f) (hO : OwnSn (B + 1) W u g.seen) :
    ∃ f' : Nat → Value, ((((W.setCell ⟨B, k * 4, none⟩ (.string g.name)).setCell ⟨B, k * 4 + 1, none⟩ (.int .i64 g.low)).setCell ⟨B, k * 4 + 2, none⟩ (.int .i64 g.next)).setCell ⟨B, k * 4 + 3, none⟩ (u)).rowIs B t n f' ∧ FPt (B + 1) ((((W.setCell ⟨B, k * 4, none⟩ (.string g.name)).setCell ⟨B, k * 4 + 1, none⟩ (.int .i64 g.low)).setCell ⟨B, k * 4 + 2, none⟩ (.int .i64 g.next)).setCell ⟨B, k * 4 + 3, none⟩ (u)) f' k g ∧ (∀ (j : Nat) (q : Ptn), j ≠ k → FPt (B + 1) W f j q → FPt (B + 1) ((((W.setCell ⟨B, k * 4, none⟩ (.string g.name)).setCell ⟨B, k * 4 + 1, none⟩ (.int .i64 g.low)).setCell ⟨B, k * 4 + 2, none⟩ (.int .i64 g.next)).setCell ⟨B, k * 4 + 3, none⟩ (u)) f' j q) ∧ (∀ j : Nat, j ≠ k → f' (j * 4 + 3) = f (j * 4 + 3)) ∧ f' (k * 4 + 3) = u := by
  have own : ∀ {a : Value} {q : Ptn}, OwnSn (B + 1) W a q.seen → OwnSn (B + 1) ((((W.setCell ⟨B, k * 4, none⟩ (.string g.name)).setCell ⟨B, k * 4 + 1, none⟩ (.int .i64 g.low)).setCell ⟨B, k * 4 + 2, none⟩ (.int .i64 g.next)).setCell ⟨B, k * 4 + 3, none⟩ (u)) a q.seen := fun h => ((((h.setAt (Nat.lt_succ_self B) _ _).setAt (Nat.lt_succ_self B) _ _).setAt (Nat.lt_succ_self B) _ _).setAt (Nat.lt_succ_self B) _ _)
  refine ⟨_, ((((hR.set (k * 4) (.string g.name)).set (k * 4 + 1) (.int .i64 g.low)).set (k * 4 + 2) (.int .i64 g.next)).set (k * 4 + 3) (u)), ?_, ?_, fun j hj => ?_, ?_⟩
  · refine ⟨?_, ?_, ?_, ?_⟩ <;> dsimp only
    · rw [if_neg (show ¬ k * 4 = k * 4 + 3 by omega), if_neg (show ¬ k * 4 = k * 4 + 2 by omega), if_neg (show ¬ k * 4 = k * 4 + 1 by omega), if_pos rfl]
    · rw [if_neg (show ¬ k * 4 + 1 = k * 4 + 3 by omega), if_neg (show ¬ k * 4 + 1 = k * 4 + 2 by omega), if_pos rfl]
    · rw [if_neg (show ¬ k * 4 + 2 = k * 4 + 3 by omega), if_pos rfl]
    · rw [if_pos rfl]
      exact own hO
  · intro j q hj hq
    obtain ⟨e0, e1, e2, e3⟩ := hq
    refine ⟨?_, ?_, ?_, ?_⟩ <;> dsimp only
    · rw [if_neg (show ¬ j * 4 = k * 4 + 3 by omega), if_neg (show ¬ j * 4 = k * 4 + 2 by omega), if_neg (show ¬ j * 4 = k * 4 + 1 by omega), if_neg (show ¬ j * 4 = k * 4 by omega)]
      exact e0
    · rw [if_neg (show ¬ j * 4 + 1 = k * 4 + 3 by omega), if_neg (show ¬ j * 4 + 1 = k * 4 + 2 by omega), if_neg (show ¬ j * 4 + 1 = k * 4 + 1 by omega), if_neg (show ¬ j * 4 + 1 = k * 4 by omega)]
      exact e1
    · rw [if_neg (show ¬ j * 4 + 2 = k * 4 + 3 by omega), if_neg (show ¬ j * 4 + 2 = k * 4 + 2 by omega), if_neg (show ¬ j * 4 + 2 = k * 4 + 1 by omega), if_neg (show ¬ j * 4 + 2 = k * 4 by omega)]
      exact e2
    · rw [if_neg (show ¬ j * 4 + 3 = k * 4 + 3 by omega), if_neg (show ¬ j * 4 + 3 = k * 4 + 2 by omega), if_neg (show ¬ j * 4 + 3 = k * 4 + 1 by omega), if_neg (show ¬ j * 4 + 3 = k * 4 by omega)]
      exact own e3
  · rw [if_neg (show ¬ j * 4 + 3 = k * 4 + 3 by omega), if_neg (show ¬ j * 4 + 3 = k * 4 + 2 by omega), if_neg (show ¬ j * 4 + 3 = k * 4 + 1 by omega), if_neg (show ¬ j * 4 + 3 = k * 4 by omega)]
  · rw [if_pos rfl]
set_option maxHeartbeats 2000000 in
theorem tosPt_any (v : Value) (rs : List Ptn) (w : World) (h : RowPt w v rs) (hG : BdsPt 1048576 rs) :
    Calls Tryz.prog 24 #[v] w fun e w' => ∃ v', e = .returned v' ∧ OwnsPt w.heap.size w' v' rs ∧ Below w.heap.size w w' := by
  have hlen := hG.1
  obtain ⟨a, cap, rfl⟩ := h.val
  have H : Hid (RowPt w (.slice a rs.length cap) rs ∧ BdsPt 1048576 rs) := ⟨h, hG⟩
  clear h hG
  obtain ⟨M, hM, hMs⟩ : ∃ M : Array Value, madeCells #[.string ⟨#[]⟩, .int .i64 0, .int .i64 0, .slice none 0 0] (rs.length * 4) = M ∧ M.size = rs.length * 4 := ⟨_, rfl, size_madeCells _ _⟩
  have hmk := run_make_Pt rs.length hlen
  rw [hM] at hmk
  obtain ⟨f0, hf0⟩ := fl_row w M 63 (rs.length * 4) hMs
  have HF0 : Hid ((w.alloc (.cells M 63)).rowIs w.heap.size 63 (rs.length * 4) f0) := hf0
  clear hM hMs hf0
  go_enter Tryz.func24, Tryz.ntmps24
  go_wp2
  go_loopw [4] (fun i wr => ∃ (k : Nat) (f : Nat → Value), i = .int .i64 (k : Int) ∧ k ≤ rs.length ∧ wr.rowIs w.heap.size 63 (rs.length * 4) f ∧ (∀ (j : Nat) (g : Ptn), j < k → rs[j]? = some g → FPt (w.heap.size + 1) wr f j g) ∧ Below w.heap.size w wr ∧ (∀ i j : Nat, i < j → j < k → blkS (f (i * 4 + 3)) < blkS (f (j * 4 + 3))) ∧ (∀ j : Nat, j < k → blkS (f (j * 4 + 3)) < wr.heap.size)) (fun i _ => rs.length - (intOf i).toNat)
  case atStart => exact ⟨0, f0, rfl, by omega, HF0.out, fun j e hj => by omega, (Below.refl _ _).alloc (Nat.le_refl _) _, fun i j _ hj => by omega, fun j hj => by omega⟩
  case round =>
    obtain ⟨k, f, rfl, hk, hR, hA, hb, hap, hbl⟩ := hrel
    by_cases hlt : k < rs.length
    · have hlt' : (k : Int) < (rs.length : Int) := by omega
      obtain ⟨b, o, cap', g, u, ee, hs, ⟨q0, q1, q2, q3⟩, hS⟩ := (H.out.1.below hb).at hlt
      simp only [Value.slice.injEq, true_and] at ee
      obtain ⟨rfl, rfl⟩ := ee
      obtain ⟨n0, c0, rfl⟩ := hS.ls.val
      have HS : Hid (rs[k]? = some g ∧ RPt wr (.slice n0 g.seen.length c0) g ∧ wr.rowIs w.heap.size 63 (rs.length * 4) f ∧ (∀ (j : Nat) (g : Ptn), j < k → rs[j]? = some g → FPt (w.heap.size + 1) wr f j g) ∧ Below w.heap.size w wr) := ⟨hs, hS, hR, hA, hb⟩
      have HAP : Hid ((∀ i j : Nat, i < j → j < k → blkS (f (i * 4 + 3)) < blkS (f (j * 4 + 3))) ∧ (∀ j : Nat, j < k → blkS (f (j * 4 + 3)) < wr.heap.size)) := ⟨hap, hbl⟩
      clear hs hS hR hA hb hap hbl
      go_wp2_with fail
      refine (toPt_own g _ _ HS.out.2.1 (H.out.2.2 k g HS.out.1)).mono ?_
      rintro ee w1 ⟨u', rfl, hO, hb1⟩
      have hlt0 := HS.out.2.2.1.lt
      obtain ⟨A1, L1, C1, hv1⟩ : ∃ A' L' C', u' = .slice A' L' C' := by
        obtain ⟨b', _, _, h2, _⟩ := hO
        exact ⟨_, _, _, h2⟩
      have hnb : wr.heap.size ≤ blkS u' ∧ blkS u' < w1.heap.size := by
        obtain ⟨b', _, h1, h2, h3, _⟩ := hO
        rw [h2]
        exact ⟨h1, h3.lt⟩
      subst hv1
      have hR1 : w1.rowIs w.heap.size 63 (rs.length * 4) f := HS.out.2.2.1.of_block (hb1.block _ hlt0)
      have hfz := hR1.frozen
      have k0 := hR1.cell (i := k * 4) (by omega)
      have k1 := hR1.cell (i := k * 4 + 1) (by omega)
      have k2 := hR1.cell (i := k * 4 + 2) (by omega)
      have k3 := hR1.cell (i := k * 4 + 3) (by omega)
      have hA1 : ∀ (j : Nat) (g : Ptn), j < k → rs[j]? = some g → FPt (w.heap.size + 1) w1 f j g := fun j e hj he => by
        obtain ⟨e0, e1, e2, e3⟩ := HS.out.2.2.2.1 j e hj he
        exact ⟨e0, e1, e2, e3.below hb1⟩
      have H1 : Hid (rs[k]? = some g ∧ w1.rowIs w.heap.size 63 (rs.length * 4) f ∧ (∀ (j : Nat) (g : Ptn), j < k → rs[j]? = some g → FPt (w.heap.size + 1) w1 f j g) ∧ Below w.heap.size w w1 ∧ OwnSn (w.heap.size + 1) w1 (.slice A1 L1 C1) g.seen) := ⟨HS.out.1, hR1, hA1, HS.out.2.2.2.2.trans (hb1.mono HS.out.2.2.2.2.size), hO.mono hlt0⟩
      have HNB : Hid ((wr.heap.size ≤ blkS (.slice A1 L1 C1) ∧ blkS (.slice A1 L1 C1) < w1.heap.size) ∧ wr.heap.size ≤ w1.heap.size) := ⟨hnb, hb1.size⟩
      clear HS hR1 hA1 hb1 hO hnb
      go_wp2
      go_roundw
      case rel =>
        obtain ⟨f', r1, r2, r3, r4, r5⟩ := FPt.sets (k := k) H1.out.2.1 H1.out.2.2.2.2
        refine ⟨k + 1, f', by go_num, by omega, r1, fun j t hj ht => ?_, ((((H1.out.2.2.2.1.setCell (Nat.le_refl _) _).setCell (Nat.le_refl _) _).setCell (Nat.le_refl _) _).setCell (Nat.le_refl _) _), fun i j hij hj => ?_, fun j hj => ?_⟩
        rotate_left
        · have h1 := HNB.out
          by_cases e1 : j = k
          · rw [e1, r5, r4 i (by omega)]
            have := HAP.out.2 i (by omega)
            omega
          · rw [r4 i (by omega), r4 j e1]
            exact HAP.out.1 i j hij (by omega)
        · have h1 := HNB.out
          simp only [World.size_setCell]
          by_cases e1 : j = k
          · rw [e1, r5]
            omega
          · rw [r4 j e1]
            have := HAP.out.2 j (by omega)
            omega
        by_cases e1 : j = k
        · subst e1
          rw [H1.out.1] at ht
          cases ht
          exact r2
        · exact r3 j t e1 (H1.out.2.2.1 j t (by omega) ht)
      case measure => simp [intOf]; omega
    · obtain rfl : k = rs.length := by omega
      have HS : Hid (wr.rowIs w.heap.size 63 (rs.length * 4) f ∧ (∀ (j : Nat) (g : Ptn), j < rs.length → rs[j]? = some g → FPt (w.heap.size + 1) wr f j g) ∧ Below w.heap.size w wr ∧ (∀ i j : Nat, i < j → j < rs.length → blkS (f (i * 4 + 3)) < blkS (f (j * 4 + 3)))) := ⟨hR, hA, hb, hap⟩
      clear hR hA hb hap hbl
      go_wp2
      go_ret
      exact ⟨_, rfl, ⟨w.heap.size, f, Nat.le_refl _, rfl, HS.out.1, fun i e hi => HS.out.2.1 i e (List.getElem?_eq_some_iff.1 hi).1 hi, HS.out.2.2.2⟩, HS.out.2.2.1⟩
end Go.Proofs.YtkgkahlhekecmaaGreat
namespace Go.Proofs.YtkgkahlhekecmaaGreat
open Go.ChangeShapes Go.WideShapes Go.ChangeAt Go.RowKit
theorem infoCs : (Tryz.prog.info? 106).map (fun i => (i.zero, i.size, i.bytes)) = some (some (.agg #[.string ⟨#[]⟩, .string ⟨#[]⟩, .string ⟨#[]⟩]), 3, 48) := by kernel_rfl
theorem run_make_Cs (n : Nat) (hn : n ≤ 1048576) (w : World) : (Instr.makeSlice 34 (.int .i64 (n : Int)) (.int .i64 (n : Int))).run Tryz.prog w = .ok (.slice (some ⟨w.heap.size, 0, none⟩) n n) (w.alloc (.cells (madeCells #[.string ⟨#[]⟩, .string ⟨#[]⟩, .string ⟨#[]⟩] (n * 3)) 106)) := by
  obtain ⟨i0, hi, hz0, hz1, hz2⟩ := info_parts infoCs
  have h := run_make (P := Tryz.prog) w 34 106 i0 (.agg #[.string ⟨#[]⟩, .string ⟨#[]⟩, .string ⟨#[]⟩]) Tryz.underlying34 hi hz0 .i64 .i64 (n : Int) (n : Int) (by omega) (by omega) (by rw [hz2]; omega) (by omega)
  rw [hz1] at h
  simpa [Value.cells] using h
set_option maxHeartbeats 1000000 in
theorem toCs_any (g : Crs) (w : World) :
    Calls Tryz.prog 57 #[.agg #[.string g.partner, .string g.theirs, .string g.own]] w fun e w' => e = .returned (.agg #[.string g.partner, .string g.theirs, .string g.own]) ∧ Below w.heap.size w w' := by
  obtain ⟨partner, theirs, own⟩ := g
  dsimp only
  go_enter Tryz.func57, Tryz.ntmps57
  go_wp2
  exact bodyPost_ret (v := .agg #[.string partner, .string theirs, .string own]) (by simp [results, Tryz.results57, go_sem]) rfl ⟨rfl, (((Below.refl _ _).alloc (Nat.le_refl _) _).alloc (by simp) _).alloc (by simp; omega) _⟩
/-- A list in a block of its own, not below B. -/
def OwnCs (B : Nat) (W : World) (v : Value) (rs : List Crs) : Prop := ∃ (b : Nat) (f : Nat → Value), B ≤ b ∧ v = .slice (some ⟨b, 0, none⟩) rs.length rs.length ∧ W.rowIs b 106 (rs.length * 3) f ∧ ∀ (i : Nat) (g : Crs), rs[i]? = some g → f (i * 3) = .string g.partner ∧ f (i * 3 + 1) = .string g.theirs ∧ f (i * 3 + 2) = .string g.own
theorem OwnCs.lst {B : Nat} {W : World} {v : Value} {rs : List Crs} (h : OwnCs B W v rs) (hG : BdCs 1048576 rs) : ∃ b, B ≤ b ∧ LCs b W v rs := by
  obtain ⟨b, f, h1, h2, h3, h4⟩ := h
  have hl := hG.len
  exact ⟨b, h1, ⟨_, _, h2, fun _ => ⟨rfl, _, f, h3, Nat.le_refl _, h4⟩⟩, by omega, fun i g hi => by have := hG.2 i g hi; omega⟩
theorem OwnCs.row {B : Nat} {W : World} {v : Value} {rs : List Crs} (h : OwnCs B W v rs) (hG : BdCs 1048576 rs) : RowCs W v rs := by
  obtain ⟨b, _, h⟩ := h.lst hG
  exact h.row
theorem OwnCs.below {B : Nat} {W W' : World} {v : Value} {rs : List Crs} (h : OwnCs B W v rs) (hb : Below W.heap.size W W') : OwnCs B W' v rs := by
  obtain ⟨b, f, h1, h2, h3, h4⟩ := h
  exact ⟨b, f, h1, h2, h3.of_block (hb.block b h3.lt), h4⟩
theorem OwnCs.setAt {B c : Nat} {W : World} {v : Value} {rs : List Crs} (h : OwnCs B W v rs) (hc : c < B) (i : Nat) (x : Value) : OwnCs B (W.setCell ⟨c, i, none⟩ x) v rs := by
  obtain ⟨b, f, h1, h2, h3, h4⟩ := h
  exact ⟨b, f, h1, h2, h3.setOther (show b ≠ c by omega) x, h4⟩
theorem OwnCs.mono {B C : Nat} {W : World} {v : Value} {rs : List Crs} (h : OwnCs B W v rs) (hC : C ≤ B) : OwnCs C W v rs := by
  obtain ⟨b, f, h1, h2⟩ := h
  exact ⟨b, f, by omega, h2⟩
set_option maxHeartbeats 2000000 in
theorem toCss_any (v : Value) (rs : List Crs) (w : World) (h : RowCs w v rs) (hG : BdCs 1048576 rs) :
    Calls Tryz.prog 25 #[v] w fun e w' => ∃ v', e = .returned v' ∧ OwnCs w.heap.size w' v' rs ∧ Below w.heap.size w w' := by
  have hlen := hG.len
  obtain ⟨a, cap, rfl⟩ := h.val
  have H : Hid (RowCs w (.slice a rs.length cap) rs ∧ BdCs 1048576 rs) := ⟨h, hG⟩
  clear h hG
  obtain ⟨M, hM, hMs⟩ : ∃ M : Array Value, madeCells #[.string ⟨#[]⟩, .string ⟨#[]⟩, .string ⟨#[]⟩] (rs.length * 3) = M ∧ M.size = rs.length * 3 := ⟨_, rfl, size_madeCells _ _⟩
  have hmk := run_make_Cs rs.length hlen
  rw [hM] at hmk
  obtain ⟨f0, hf0⟩ := fl_row w M 106 (rs.length * 3) hMs
  have HF0 : Hid ((w.alloc (.cells M 106)).rowIs w.heap.size 106 (rs.length * 3) f0) := hf0
  clear hM hMs hf0
  go_enter Tryz.func25, Tryz.ntmps25
  go_wp2
  go_loopw [4] (fun i wr => ∃ (k : Nat) (f : Nat → Value), i = .int .i64 (k : Int) ∧ k ≤ rs.length ∧ wr.rowIs w.heap.size 106 (rs.length * 3) f ∧ (∀ (j : Nat) (g : Crs), j < k → rs[j]? = some g → f (j * 3) = .string g.partner ∧ f (j * 3 + 1) = .string g.theirs ∧ f (j * 3 + 2) = .string g.own) ∧ Below w.heap.size w wr) (fun i _ => rs.length - (intOf i).toNat)
  case atStart => exact ⟨0, f0, rfl, by omega, HF0.out, fun j e hj => by omega, (Below.refl _ _).alloc (Nat.le_refl _) _⟩
  case round =>
    obtain ⟨k, f, rfl, hk, hR, hA, hb⟩ := hrel
    by_cases hlt : k < rs.length
    · have hlt' : (k : Int) < (rs.length : Int) := by omega
      obtain ⟨b, o, cap', g, ee, hs, ⟨q0, q1, q2⟩, hsz⟩ := (H.out.1.below hb).at hlt
      simp only [Value.slice.injEq, true_and] at ee
      obtain ⟨rfl, rfl⟩ := ee
      have HS : Hid (rs[k]? = some g ∧ wr.rowIs w.heap.size 106 (rs.length * 3) f ∧ (∀ (j : Nat) (g : Crs), j < k → rs[j]? = some g → f (j * 3) = .string g.partner ∧ f (j * 3 + 1) = .string g.theirs ∧ f (j * 3 + 2) = .string g.own) ∧ Below w.heap.size w wr) := ⟨hs, hR, hA, hb⟩
      clear hs hR hA hb
      go_wp2_with fail
      refine (toCs_any g _).mono ?_
      rintro ee w1 ⟨rfl, hb1⟩
      have hlt0 := HS.out.2.1.lt
      have hR1 : w1.rowIs w.heap.size 106 (rs.length * 3) f := HS.out.2.1.of_block (hb1.block _ hlt0)
      have hfz := hR1.frozen
      have k0 := hR1.cell (i := k * 3) (by omega)
      have k1 := hR1.cell (i := k * 3 + 1) (by omega)
      have k2 := hR1.cell (i := k * 3 + 2) (by omega)
      have H1 : Hid (rs[k]? = some g ∧ w1.rowIs w.heap.size 106 (rs.length * 3) f ∧ (∀ (j : Nat) (g : Crs), j < k → rs[j]? = some g → f (j * 3) = .string g.partner ∧ f (j * 3 + 1) = .string g.theirs ∧ f (j * 3 + 2) = .string g.own) ∧ Below w.heap.size w w1) := ⟨HS.out.1, hR1, HS.out.2.2.1, HS.out.2.2.2.trans (hb1.mono HS.out.2.2.2.size)⟩
      clear HS hR1 hb1
      go_wp2
      go_roundw
      case rel =>
        refine ⟨k + 1, _, by go_num, by omega, (((H1.out.2.1.set (k * 3) (.string g.partner)).set (k * 3 + 1) (.string g.theirs)).set (k * 3 + 2) (.string g.own)), fun j t hj ht => ?_, (((H1.out.2.2.2.setCell (Nat.le_refl _) _).setCell (Nat.le_refl _) _).setCell (Nat.le_refl _) _)⟩
        by_cases e1 : j = k
        · subst e1
          rw [H1.out.1] at ht
          cases ht
          refine ⟨?_, ?_, ?_⟩
          · rw [if_neg (by omega), if_neg (by omega), if_pos rfl]
          · rw [if_neg (by omega), if_pos rfl]
          · rw [if_pos rfl]
        · obtain ⟨r0, r1, r2⟩ := H1.out.2.2.1 j t (by omega) ht
          refine ⟨?_, ?_, ?_⟩
          all_goals rw [if_neg (by omega), if_neg (by omega), if_neg (by omega)]
          all_goals assumption
      case measure => simp [intOf]; omega
    · obtain rfl : k = rs.length := by omega
      have HS : Hid (wr.rowIs w.heap.size 106 (rs.length * 3) f ∧ (∀ (j : Nat) (g : Crs), j < rs.length → rs[j]? = some g → f (j * 3) = .string g.partner ∧ f (j * 3 + 1) = .string g.theirs ∧ f (j * 3 + 2) = .string g.own) ∧ Below w.heap.size w wr) := ⟨hR, hA, hb⟩
      clear hR hA hb
      go_wp2
      go_ret
      exact ⟨_, rfl, ⟨w.heap.size, f, Nat.le_refl _, rfl, HS.out.1, fun i e hi => HS.out.2.1 i e (List.getElem?_eq_some_iff.1 hi).1 hi⟩, HS.out.2.2⟩
end Go.Proofs.YtkgkahlhekecmaaGreat
namespace Go.Proofs.YtkgkahlhekecmaaGreat
open Go.ChangeShapes Go.WideShapes Go.ChangeAt Go.RowKit
theorem infoSt : (Tryz.prog.info? 145).map (fun i => (i.zero, i.size, i.bytes)) = some (some (.agg #[.string ⟨#[]⟩, .int .i64 0]), 2, 24) := by kernel_rfl
theorem run_make_St (n : Nat) (hn : n ≤ 1048576) (w : World) : (Instr.makeSlice 35 (.int .i64 (n : Int)) (.int .i64 (n : Int))).run Tryz.prog w = .ok (.slice (some ⟨w.heap.size, 0, none⟩) n n) (w.alloc (.cells (madeCells #[.string ⟨#[]⟩, .int .i64 0] (n * 2)) 145)) := by
  obtain ⟨i0, hi, hz0, hz1, hz2⟩ := info_parts infoSt
  have h := run_make (P := Tryz.prog) w 35 145 i0 (.agg #[.string ⟨#[]⟩, .int .i64 0]) Tryz.underlying35 hi hz0 .i64 .i64 (n : Int) (n : Int) (by omega) (by omega) (by rw [hz2]; omega) (by omega)
  rw [hz1] at h
  simpa [Value.cells] using h
set_option maxHeartbeats 1000000 in
theorem toSt_any (g : Stk) (w : World) :
    Calls Tryz.prog 97 #[.agg #[.string g.item, .int .i64 g.hand]] w fun e w' => e = .returned (.agg #[.string g.item, .int .i64 g.hand]) ∧ Below w.heap.size w w' := by
  obtain ⟨item, hand⟩ := g
  dsimp only
  go_enter Tryz.func97, Tryz.ntmps97
  go_wp2
  exact bodyPost_ret (v := .agg #[.string item, .int .i64 hand]) (by simp [results, Tryz.results97, go_sem]) rfl ⟨rfl, (((Below.refl _ _).alloc (Nat.le_refl _) _).alloc (by simp) _).alloc (by simp; omega) _⟩
/-- A list in a block of its own, not below B. -/
def OwnSt (B : Nat) (W : World) (v : Value) (rs : List Stk) : Prop := ∃ (b : Nat) (f : Nat → Value), B ≤ b ∧ v = .slice (some ⟨b, 0, none⟩) rs.length rs.length ∧ W.rowIs b 145 (rs.length * 2) f ∧ ∀ (i : Nat) (g : Stk), rs[i]? = some g → f (i * 2) = .string g.item ∧ f (i * 2 + 1) = .int .i64 g.hand
theorem OwnSt.lst {B : Nat} {W : World} {v : Value} {rs : List Stk} (h : OwnSt B W v rs) (hG : BdSt 1048576 rs) : ∃ b, B ≤ b ∧ LSt b W v rs := by
  obtain ⟨b, f, h1, h2, h3, h4⟩ := h
  have hl := hG.len
  exact ⟨b, h1, ⟨_, _, h2, fun _ => ⟨rfl, _, f, h3, Nat.le_refl _, h4⟩⟩, by omega, fun i g hi => by have := hG.2 i g hi; omega⟩
theorem OwnSt.row {B : Nat} {W : World} {v : Value} {rs : List Stk} (h : OwnSt B W v rs) (hG : BdSt 1048576 rs) : RowSt W v rs := by
  obtain ⟨b, _, h⟩ := h.lst hG
  exact h.row
theorem OwnSt.below {B : Nat} {W W' : World} {v : Value} {rs : List Stk} (h : OwnSt B W v rs) (hb : Below W.heap.size W W') : OwnSt B W' v rs := by
  obtain ⟨b, f, h1, h2, h3, h4⟩ := h
  exact ⟨b, f, h1, h2, h3.of_block (hb.block b h3.lt), h4⟩
theorem OwnSt.setAt {B c : Nat} {W : World} {v : Value} {rs : List Stk} (h : OwnSt B W v rs) (hc : c < B) (i : Nat) (x : Value) : OwnSt B (W.setCell ⟨c, i, none⟩ x) v rs := by
  obtain ⟨b, f, h1, h2, h3, h4⟩ := h
  exact ⟨b, f, h1, h2, h3.setOther (show b ≠ c by omega) x, h4⟩
theorem OwnSt.mono {B C : Nat} {W : World} {v : Value} {rs : List Stk} (h : OwnSt B W v rs) (hC : C ≤ B) : OwnSt C W v rs := by
  obtain ⟨b, f, h1, h2⟩ := h
  exact ⟨b, f, by omega, h2⟩
set_option maxHeartbeats 2000000 in
theorem toSts_any (v : Value) (rs : List Stk) (w : World) (h : RowSt w v rs) (hG : BdSt 1048576 rs) :
    Calls Tryz.prog 58 #[v] w fun e w' => ∃ v', e = .returned v' ∧ OwnSt w.heap.size w' v' rs ∧ Below w.heap.size w w' := by
  have hlen := hG.len
  obtain ⟨a, cap, rfl⟩ := h.val
  have H : Hid (RowSt w (.slice a rs.length cap) rs ∧ BdSt 1048576 rs) := ⟨h, hG⟩
  clear h hG
  obtain ⟨M, hM, hMs⟩ : ∃ M : Array Value, madeCells #[.string ⟨#[]⟩, .int .i64 0] (rs.length * 2) = M ∧ M.size = rs.length * 2 := ⟨_, rfl, size_madeCells _ _⟩
  have hmk := run_make_St rs.length hlen
  rw [hM] at hmk
  obtain ⟨f0, hf0⟩ := fl_row w M 145 (rs.length * 2) hMs
  have HF0 : Hid ((w.alloc (.cells M 145)).rowIs w.heap.size 145 (rs.length * 2) f0) := hf0
  clear hM hMs hf0
  go_enter Tryz.func58, Tryz.ntmps58
  go_wp2
  go_loopw [4] (fun i wr => ∃ (k : Nat) (f : Nat → Value), i = .int .i64 (k : Int) ∧ k ≤ rs.length ∧ wr.rowIs w.heap.size 145 (rs.length * 2) f ∧ (∀ (j : Nat) (g : Stk), j < k → rs[j]? = some g → f (j * 2) = .string g.item ∧ f (j * 2 + 1) = .int .i64 g.hand) ∧ Below w.heap.size w wr) (fun i _ => rs.length - (intOf i).toNat)
  case atStart => exact ⟨0, f0, rfl, by omega, HF0.out, fun j e hj => by omega, (Below.refl _ _).alloc (Nat.le_refl _) _⟩
  case round =>
    obtain ⟨k, f, rfl, hk, hR, hA, hb⟩ := hrel
    by_cases hlt : k < rs.length
    · have hlt' : (k : Int) < (rs.length : Int) := by omega
      obtain ⟨b, o, cap', g, ee, hs, ⟨q0, q1⟩, hsz⟩ := (H.out.1.below hb).at hlt
      simp only [Value.slice.injEq, true_and] at ee
      obtain ⟨rfl, rfl⟩ := ee
      have HS : Hid (rs[k]? = some g ∧ wr.rowIs w.heap.size 145 (rs.length * 2) f ∧ (∀ (j : Nat) (g : Stk), j < k → rs[j]? = some g → f (j * 2) = .string g.item ∧ f (j * 2 + 1) = .int .i64 g.hand) ∧ Below w.heap.size w wr) := ⟨hs, hR, hA, hb⟩
      clear hs hR hA hb
      go_wp2_with fail
      refine (toSt_any g _).mono ?_
      rintro ee w1 ⟨rfl, hb1⟩
      have hlt0 := HS.out.2.1.lt
      have hR1 : w1.rowIs w.heap.size 145 (rs.length * 2) f := HS.out.2.1.of_block (hb1.block _ hlt0)
      have hfz := hR1.frozen
      have k0 := hR1.cell (i := k * 2) (by omega)
      have k1 := hR1.cell (i := k * 2 + 1) (by omega)
      have H1 : Hid (rs[k]? = some g ∧ w1.rowIs w.heap.size 145 (rs.length * 2) f ∧ (∀ (j : Nat) (g : Stk), j < k → rs[j]? = some g → f (j * 2) = .string g.item ∧ f (j * 2 + 1) = .int .i64 g.hand) ∧ Below w.heap.size w w1) := ⟨HS.out.1, hR1, HS.out.2.2.1, HS.out.2.2.2.trans (hb1.mono HS.out.2.2.2.size)⟩
      clear HS hR1 hb1
      go_wp2
      go_roundw
      case rel =>
        refine ⟨k + 1, _, by go_num, by omega, ((H1.out.2.1.set (k * 2) (.string g.item)).set (k * 2 + 1) (.int .i64 g.hand)), fun j t hj ht => ?_, ((H1.out.2.2.2.setCell (Nat.le_refl _) _).setCell (Nat.le_refl _) _)⟩
        by_cases e1 : j = k
        · subst e1
          rw [H1.out.1] at ht
          cases ht
          refine ⟨?_, ?_⟩
          · rw [if_neg (by omega), if_pos rfl]
          · rw [if_pos rfl]
        · obtain ⟨r0, r1⟩ := H1.out.2.2.1 j t (by omega) ht
          refine ⟨?_, ?_⟩
          all_goals rw [if_neg (by omega), if_neg (by omega)]
          all_goals assumption
      case measure => simp [intOf]; omega
    · obtain rfl : k = rs.length := by omega
      have HS : Hid (wr.rowIs w.heap.size 145 (rs.length * 2) f ∧ (∀ (j : Nat) (g : Stk), j < rs.length → rs[j]? = some g → f (j * 2) = .string g.item ∧ f (j * 2 + 1) = .int .i64 g.hand) ∧ Below w.heap.size w wr) := ⟨hR, hA, hb⟩
      clear hR hA hb
      go_wp2
      go_ret
      exact ⟨_, rfl, ⟨w.heap.size, f, Nat.le_refl _, rfl, HS.out.1, fun i e hi => HS.out.2.1 i e (List.getElem?_eq_some_iff.1 hi).1 hi⟩, HS.out.2.2⟩
end Go.Proofs.YtkgkahlhekecmaaGreat
namespace Go.Proofs.YtkgkahlhekecmaaGreat
open Go.ChangeShapes Go.WideShapes Go.ChangeAt Go.RowKit
theorem infoOl : (Tryz.prog.info? 151).map (fun i => (i.zero, i.size, i.bytes)) = some (some (.agg #[.string ⟨#[]⟩, .string ⟨#[]⟩, .int .i64 0, .string ⟨#[]⟩, .int .i64 0, .int .i64 0, .int .i64 0, .int .i64 0]), 8, 88) := by kernel_rfl
theorem run_make_Ol (n : Nat) (hn : n ≤ 1048576) (w : World) : (Instr.makeSlice 36 (.int .i64 (n : Int)) (.int .i64 (n : Int))).run Tryz.prog w = .ok (.slice (some ⟨w.heap.size, 0, none⟩) n n) (w.alloc (.cells (madeCells #[.string ⟨#[]⟩, .string ⟨#[]⟩, .int .i64 0, .string ⟨#[]⟩, .int .i64 0, .int .i64 0, .int .i64 0, .int .i64 0] (n * 8)) 151)) := by
  obtain ⟨i0, hi, hz0, hz1, hz2⟩ := info_parts infoOl
  have h := run_make (P := Tryz.prog) w 36 151 i0 (.agg #[.string ⟨#[]⟩, .string ⟨#[]⟩, .int .i64 0, .string ⟨#[]⟩, .int .i64 0, .int .i64 0, .int .i64 0, .int .i64 0]) Tryz.underlying36 hi hz0 .i64 .i64 (n : Int) (n : Int) (by omega) (by omega) (by rw [hz2]; omega) (by omega)
  rw [hz1] at h
  simpa [Value.cells] using h
set_option maxHeartbeats 1000000 in
theorem toOl_any (g : OLn) (w : World) :
    Calls Tryz.prog 98 #[.agg #[.string g.partner, .string g.ref, .int .i64 g.no, .string g.item, .int .i64 g.ordered, .int .i64 g.sent, .int .i64 g.got, .int .i64 g.cut]] w fun e w' => e = .returned (.agg #[.string g.partner, .string g.ref, .int .i64 g.no, .string g.item, .int .i64 g.ordered, .int .i64 g.sent, .int .i64 g.got, .int .i64 g.cut]) ∧ Below w.heap.size w w' := by
  obtain ⟨partner, ref, no, item, ordered, sent, got, cut⟩ := g
  dsimp only
  go_enter Tryz.func98, Tryz.ntmps98
  go_wp2
  exact bodyPost_ret (v := .agg #[.string partner, .string ref, .int .i64 no, .string item, .int .i64 ordered, .int .i64 sent, .int .i64 got, .int .i64 cut]) (by simp [results, Tryz.results98, go_sem]) rfl ⟨rfl, (((Below.refl _ _).alloc (Nat.le_refl _) _).alloc (by simp) _).alloc (by simp; omega) _⟩
/-- A list in a block of its own, not below B. -/
def OwnOl (B : Nat) (W : World) (v : Value) (rs : List OLn) : Prop := ∃ (b : Nat) (f : Nat → Value), B ≤ b ∧ v = .slice (some ⟨b, 0, none⟩) rs.length rs.length ∧ W.rowIs b 151 (rs.length * 8) f ∧ ∀ (i : Nat) (g : OLn), rs[i]? = some g → f (i * 8) = .string g.partner ∧ f (i * 8 + 1) = .string g.ref ∧ f (i * 8 + 2) = .int .i64 g.no ∧ f (i * 8 + 3) = .string g.item ∧ f (i * 8 + 4) = .int .i64 g.ordered ∧ f (i * 8 + 5) = .int .i64 g.sent ∧ f (i * 8 + 6) = .int .i64 g.got ∧ f (i * 8 + 7) = .int .i64 g.cut
theorem OwnOl.lst {B : Nat} {W : World} {v : Value} {rs : List OLn} (h : OwnOl B W v rs) (hG : BdOl 1048576 rs) : ∃ b, B ≤ b ∧ LOl b W v rs := by
  obtain ⟨b, f, h1, h2, h3, h4⟩ := h
  have hl := hG.len
  exact ⟨b, h1, ⟨_, _, h2, fun _ => ⟨rfl, _, f, h3, Nat.le_refl _, h4⟩⟩, by omega, fun i g hi => by have := hG.2 i g hi; omega⟩
theorem OwnOl.row {B : Nat} {W : World} {v : Value} {rs : List OLn} (h : OwnOl B W v rs) (hG : BdOl 1048576 rs) : RowOl W v rs := by
  obtain ⟨b, _, h⟩ := h.lst hG
  exact h.row
theorem OwnOl.below {B : Nat} {W W' : World} {v : Value} {rs : List OLn} (h : OwnOl B W v rs) (hb : Below W.heap.size W W') : OwnOl B W' v rs := by
  obtain ⟨b, f, h1, h2, h3, h4⟩ := h
  exact ⟨b, f, h1, h2, h3.of_block (hb.block b h3.lt), h4⟩
theorem OwnOl.setAt {B c : Nat} {W : World} {v : Value} {rs : List OLn} (h : OwnOl B W v rs) (hc : c < B) (i : Nat) (x : Value) : OwnOl B (W.setCell ⟨c, i, none⟩ x) v rs := by
  obtain ⟨b, f, h1, h2, h3, h4⟩ := h
  exact ⟨b, f, h1, h2, h3.setOther (show b ≠ c by omega) x, h4⟩
theorem OwnOl.mono {B C : Nat} {W : World} {v : Value} {rs : List OLn} (h : OwnOl B W v rs) (hC : C ≤ B) : OwnOl C W v rs := by
  obtain ⟨b, f, h1, h2⟩ := h
  exact ⟨b, f, by omega, h2⟩
set_option maxHeartbeats 2000000 in
theorem toOls_any (v : Value) (rs : List OLn) (w : World) (h : RowOl w v rs) (hG : BdOl 1048576 rs) :
    Calls Tryz.prog 59 #[v] w fun e w' => ∃ v', e = .returned v' ∧ OwnOl w.heap.size w' v' rs ∧ Below w.heap.size w w' := by
  have hlen := hG.len
  obtain ⟨a, cap, rfl⟩ := h.val
  have H : Hid (RowOl w (.slice a rs.length cap) rs ∧ BdOl 1048576 rs) := ⟨h, hG⟩
  clear h hG
  obtain ⟨M, hM, hMs⟩ : ∃ M : Array Value, madeCells #[.string ⟨#[]⟩, .string ⟨#[]⟩, .int .i64 0, .string ⟨#[]⟩, .int .i64 0, .int .i64 0, .int .i64 0, .int .i64 0] (rs.length * 8) = M ∧ M.size = rs.length * 8 := ⟨_, rfl, size_madeCells _ _⟩
  have hmk := run_make_Ol rs.length hlen
  rw [hM] at hmk
  obtain ⟨f0, hf0⟩ := fl_row w M 151 (rs.length * 8) hMs
  have HF0 : Hid ((w.alloc (.cells M 151)).rowIs w.heap.size 151 (rs.length * 8) f0) := hf0
  clear hM hMs hf0
  go_enter Tryz.func59, Tryz.ntmps59
  go_wp2
  go_loopw [4] (fun i wr => ∃ (k : Nat) (f : Nat → Value), i = .int .i64 (k : Int) ∧ k ≤ rs.length ∧ wr.rowIs w.heap.size 151 (rs.length * 8) f ∧ (∀ (j : Nat) (g : OLn), j < k → rs[j]? = some g → f (j * 8) = .string g.partner ∧ f (j * 8 + 1) = .string g.ref ∧ f (j * 8 + 2) = .int .i64 g.no ∧ f (j * 8 + 3) = .string g.item ∧ f (j * 8 + 4) = .int .i64 g.ordered ∧ f (j * 8 + 5) = .int .i64 g.sent ∧ f (j * 8 + 6) = .int .i64 g.got ∧ f (j * 8 + 7) = .int .i64 g.cut) ∧ Below w.heap.size w wr) (fun i _ => rs.length - (intOf i).toNat)
  case atStart => exact ⟨0, f0, rfl, by omega, HF0.out, fun j e hj => by omega, (Below.refl _ _).alloc (Nat.le_refl _) _⟩
  case round =>
    obtain ⟨k, f, rfl, hk, hR, hA, hb⟩ := hrel
    by_cases hlt : k < rs.length
    · have hlt' : (k : Int) < (rs.length : Int) := by omega
      obtain ⟨b, o, cap', g, ee, hs, ⟨q0, q1, q2, q3, q4, q5, q6, q7⟩, hsz⟩ := (H.out.1.below hb).at hlt
      simp only [Value.slice.injEq, true_and] at ee
      obtain ⟨rfl, rfl⟩ := ee
      have HS : Hid (rs[k]? = some g ∧ wr.rowIs w.heap.size 151 (rs.length * 8) f ∧ (∀ (j : Nat) (g : OLn), j < k → rs[j]? = some g → f (j * 8) = .string g.partner ∧ f (j * 8 + 1) = .string g.ref ∧ f (j * 8 + 2) = .int .i64 g.no ∧ f (j * 8 + 3) = .string g.item ∧ f (j * 8 + 4) = .int .i64 g.ordered ∧ f (j * 8 + 5) = .int .i64 g.sent ∧ f (j * 8 + 6) = .int .i64 g.got ∧ f (j * 8 + 7) = .int .i64 g.cut) ∧ Below w.heap.size w wr) := ⟨hs, hR, hA, hb⟩
      clear hs hR hA hb
      go_wp2_with fail
      refine (toOl_any g _).mono ?_
      rintro ee w1 ⟨rfl, hb1⟩
      have hlt0 := HS.out.2.1.lt
      have hR1 : w1.rowIs w.heap.size 151 (rs.length * 8) f := HS.out.2.1.of_block (hb1.block _ hlt0)
      have hfz := hR1.frozen
      have k0 := hR1.cell (i := k * 8) (by omega)
      have k1 := hR1.cell (i := k * 8 + 1) (by omega)
      have k2 := hR1.cell (i := k * 8 + 2) (by omega)
      have k3 := hR1.cell (i := k * 8 + 3) (by omega)
      have k4 := hR1.cell (i := k * 8 + 4) (by omega)
      have k5 := hR1.cell (i := k * 8 + 5) (by omega)
      have k6 := hR1.cell (i := k * 8 + 6) (by omega)
      have k7 := hR1.cell (i := k * 8 + 7) (by omega)
      have H1 : Hid (rs[k]? = some g ∧ w1.rowIs w.heap.size 151 (rs.length * 8) f ∧ (∀ (j : Nat) (g : OLn), j < k → rs[j]? = some g → f (j * 8) = .string g.partner ∧ f (j * 8 + 1) = .string g.ref ∧ f (j * 8 + 2) = .int .i64 g.no ∧ f (j * 8 + 3) = .string g.item ∧ f (j * 8 + 4) = .int .i64 g.ordered ∧ f (j * 8 + 5) = .int .i64 g.sent ∧ f (j * 8 + 6) = .int .i64 g.got ∧ f (j * 8 + 7) = .int .i64 g.cut) ∧ Below w.heap.size w w1) := ⟨HS.out.1, hR1, HS.out.2.2.1, HS.out.2.2.2.trans (hb1.mono HS.out.2.2.2.size)⟩
      clear HS hR1 hb1
      go_wp2
      go_roundw
      case rel =>
        refine ⟨k + 1, _, by go_num, by omega, ((((((((H1.out.2.1.set (k * 8) (.string g.partner)).set (k * 8 + 1) (.string g.ref)).set (k * 8 + 2) (.int .i64 g.no)).set (k * 8 + 3) (.string g.item)).set (k * 8 + 4) (.int .i64 g.ordered)).set (k * 8 + 5) (.int .i64 g.sent)).set (k * 8 + 6) (.int .i64 g.got)).set (k * 8 + 7) (.int .i64 g.cut)), fun j t hj ht => ?_, ((((((((H1.out.2.2.2.setCell (Nat.le_refl _) _).setCell (Nat.le_refl _) _).setCell (Nat.le_refl _) _).setCell (Nat.le_refl _) _).setCell (Nat.le_refl _) _).setCell (Nat.le_refl _) _).setCell (Nat.le_refl _) _).setCell (Nat.le_refl _) _)⟩
        by_cases e1 : j = k
        · subst e1
          rw [H1.out.1] at ht
          cases ht
          refine ⟨?_, ?_, ?_, ?_, ?_, ?_, ?_, ?_⟩
          · rw [if_neg (by omega), if_neg (by omega), if_neg (by omega), if_neg (by omega), if_neg (by omega), if_neg (by omega), if_neg (by omega), if_pos rfl]
          · rw [if_neg (by omega), if_neg (by omega), if_neg (by omega), if_neg (by omega), if_neg (by omega), if_neg (by omega), if_pos rfl]
          · rw [if_neg (by omega), if_neg (by omega), if_neg (by omega), if_neg (by omega), if_neg (by omega), if_pos rfl]
          · rw [if_neg (by omega), if_neg (by omega), if_neg (by omega), if_neg (by omega), if_pos rfl]
          · rw [if_neg (by omega), if_neg (by omega), if_neg (by omega), if_pos rfl]
          · rw [if_neg (by omega), if_neg (by omega), if_pos rfl]
          · rw [if_neg (by omega), if_pos rfl]
          · rw [if_pos rfl]
        · obtain ⟨r0, r1, r2, r3, r4, r5, r6, r7⟩ := H1.out.2.2.1 j t (by omega) ht
          refine ⟨?_, ?_, ?_, ?_, ?_, ?_, ?_, ?_⟩
          all_goals rw [if_neg (by omega), if_neg (by omega), if_neg (by omega), if_neg (by omega), if_neg (by omega), if_neg (by omega), if_neg (by omega), if_neg (by omega)]
          all_goals assumption
      case measure => simp [intOf]; omega
    · obtain rfl : k = rs.length := by omega
      have HS : Hid (wr.rowIs w.heap.size 151 (rs.length * 8) f ∧ (∀ (j : Nat) (g : OLn), j < rs.length → rs[j]? = some g → f (j * 8) = .string g.partner ∧ f (j * 8 + 1) = .string g.ref ∧ f (j * 8 + 2) = .int .i64 g.no ∧ f (j * 8 + 3) = .string g.item ∧ f (j * 8 + 4) = .int .i64 g.ordered ∧ f (j * 8 + 5) = .int .i64 g.sent ∧ f (j * 8 + 6) = .int .i64 g.got ∧ f (j * 8 + 7) = .int .i64 g.cut) ∧ Below w.heap.size w wr) := ⟨hR, hA, hb⟩
      clear hR hA hb
      go_wp2
      go_ret
      exact ⟨_, rfl, ⟨w.heap.size, f, Nat.le_refl _, rfl, HS.out.1, fun i e hi => HS.out.2.1 i e (List.getElem?_eq_some_iff.1 hi).1 hi⟩, HS.out.2.2⟩
end Go.Proofs.YtkgkahlhekecmaaGreat
