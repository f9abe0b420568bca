/- Texts of ours put together: ToPt, ToPts. -/
import Derived.Test.YtagajindaipaeaaG02
import Derived.Test.YtagajindaipaeaaG11
namespace Go.Proofs.Ytagajindaipaeaa
open Go.ChangeShapes Go.WideShapes Go.ChangeAt Go.RowKit
set_option maxHeartbeats 4000000 in
theorem toPt_own (r : Ptn) (u : Value) (w : World) (h : RPt w u r) (hP : BdPt 1048576 r) :
    Calls Try.prog 77 #[.agg #[.string r.name, .int .i64 r.low, .int .i64 r.next, u]] w fun e w' => ∃ u', e = .returned (.agg #[.string r.name, .int .i64 r.low, .int .i64 r.next, u']) ∧ OwnSn w.heap.size w' u' r.seen ∧ Below w.heap.size w w' := by
  obtain ⟨name, low, next, seen⟩ := r
  obtain ⟨a, cap, rfl⟩ := h.ls.val
  dsimp only at h ⊢
  have H : Hid (RowSn w (.slice a seen.length cap) seen ∧ BdSn 1048576 seen) := ⟨h.ls, hP.2⟩
  clear h hP
  go_enter Try.func77, Try.ntmps77
  go_wp2_with fail
  have hb0 : Below w.heap.size w (((w.alloc (.cells #[.string name, .int .i64 low, .int .i64 next, (.slice a seen.length cap)] 99)).alloc (.cells #[.string ⟨#[]⟩, .int .i64 0, .int .i64 0, .slice none 0 0] 73)).alloc (.cells #[.string name, .int .i64 low, .int .i64 next, .slice none 0 0] 73)) := (((Below.refl _ _).alloc (Nat.le_refl _) _).alloc (by simp) _).alloc (by simp; omega) _
  have h3 := fl_three w (.cells #[.string name, .int .i64 low, .int .i64 next, (.slice a seen.length cap)] 99) (.cells #[.string ⟨#[]⟩, .int .i64 0, .int .i64 0, .slice none 0 0] 73) (.cells #[.string name, .int .i64 low, .int .i64 next, .slice none 0 0] 73)
  have hs0 : (((w.alloc (.cells #[.string name, .int .i64 low, .int .i64 next, (.slice a seen.length cap)] 99)).alloc (.cells #[.string ⟨#[]⟩, .int .i64 0, .int .i64 0, .slice none 0 0] 73)).alloc (.cells #[.string name, .int .i64 low, .int .i64 next, .slice none 0 0] 73)).heap.size = w.heap.size + 3 := by simp
  generalize (((w.alloc (.cells #[.string name, .int .i64 low, .int .i64 next, (.slice a seen.length cap)] 99)).alloc (.cells #[.string ⟨#[]⟩, .int .i64 0, .int .i64 0, .slice none 0 0] 73)).alloc (.cells #[.string name, .int .i64 low, .int .i64 next, .slice none 0 0] 73)) = W0 at hb0 h3 hs0 ⊢
  refine (toSns_any _ seen W0 (H.out.1.below hb0) H.out.2).mono ?_
  rintro e w1 ⟨v1, rfl, hO, hb1⟩
  obtain ⟨A1, L1, C1, hv1⟩ : ∃ A1 L1 C1, v1 = .slice A1 L1 C1 := by
    obtain ⟨b', _, _, h2, _⟩ := hO
    exact ⟨_, _, _, h2⟩
  subst hv1
  have f1 := (hb1.block (w.heap.size + 1) (by omega)).trans h3.2.1
  have f2 := (hb1.block (w.heap.size + 1 + 1) (by omega)).trans h3.2.2
  have c0 : w1.cell? ⟨w.heap.size + 1, 0, none⟩ = some (.string ⟨#[]⟩) := by simp [World.cell?, f1]
  have c1 : w1.cell? ⟨w.heap.size + 1, 1, none⟩ = some (.int .i64 0) := by simp [World.cell?, f1]
  have c2 : w1.cell? ⟨w.heap.size + 1, 2, none⟩ = some (.int .i64 0) := by simp [World.cell?, f1]
  have c3 : w1.cell? ⟨w.heap.size + 1, 3, none⟩ = some (.slice none 0 0) := by simp [World.cell?, f1]
  have d0 : w1.cell? ⟨w.heap.size + 1 + 1, 0, none⟩ = some (.string name) := by simp [World.cell?, f2]
  have d1 : w1.cell? ⟨w.heap.size + 1 + 1, 1, none⟩ = some (.int .i64 low) := by simp [World.cell?, f2]
  have d2 : w1.cell? ⟨w.heap.size + 1 + 1, 2, none⟩ = some (.int .i64 next) := by simp [World.cell?, f2]
  have d3 : w1.cell? ⟨w.heap.size + 1 + 1, 3, none⟩ = some (.slice none 0 0) := by simp [World.cell?, f2]
  have z1 : ∀ o, w1.frozen? ⟨w.heap.size + 1, o, none⟩ = false := fun o => by simp [World.frozen?, f1]
  have z2 : ∀ o, w1.frozen? ⟨w.heap.size + 1 + 1, o, none⟩ = false := fun o => by simp [World.frozen?, f2]
  have HD : Hid (Below w.heap.size w w1 ∧ OwnSn (w.heap.size + 3) w1 (.slice A1 L1 C1) seen) := ⟨hb0.trans (hb1.mono (by omega)), by rw [← hs0]; exact hO⟩
  clear f1 f2 hb0 hb1 hO h3
  go_wp2
  have st : ∀ (W : World) (c i : Nat) (x : Value), w.heap.size ≤ c → c < w.heap.size + 3 → (Below w.heap.size w W ∧ OwnSn (w.heap.size + 3) W (.slice A1 L1 C1) seen) → (Below w.heap.size w (W.setCell ⟨c, i, none⟩ x) ∧ OwnSn (w.heap.size + 3) (W.setCell ⟨c, i, none⟩ x) (.slice A1 L1 C1) seen) := fun W c i x g1 g2 ⟨k1, k2⟩ => ⟨k1.setCell g1 x, k2.setAt g2 i x⟩
  have hF := (st _ (w.heap.size + 1) 3 (.slice A1 L1 C1) (by omega) (by omega) (st _ (w.heap.size + 1) 2 (.int .i64 next) (by omega) (by omega) (st _ (w.heap.size + 1) 1 (.int .i64 low) (by omega) (by omega) (st _ (w.heap.size + 1) 0 (.string name) (by omega) (by omega) (st _ (w.heap.size + 1 + 1) 3 (.slice A1 L1 C1) (by omega) (by omega) HD.out)))))
  exact bodyPost_ret (v := .agg #[.string name, .int .i64 low, .int .i64 next, .slice A1 L1 C1]) (by simp [results, Try.results77, go_sem, c0, c1, c2, c3]) rfl ⟨_, rfl, hF.2.mono (by omega), hF.1⟩
theorem toPt_any (r : Ptn) (u : Value) (w : World) (h : RPt w u r) (hP : BdPt 1048576 r) :
    Calls Try.prog 77 #[.agg #[.string r.name, .int .i64 r.low, .int .i64 r.next, u]] w fun e w' => ∃ u', e = .returned (.agg #[.string r.name, .int .i64 r.low, .int .i64 r.next, u']) ∧ RPt w' u' r ∧ Below w.heap.size w w' :=
  (toPt_own r u w h hP).mono fun _ _ ⟨u', he, hO, hb⟩ => ⟨u', he, ⟨hO.row hP.2, h.z_name⟩, hb⟩
end Go.Proofs.Ytagajindaipaeaa
namespace Go.Proofs.Ytagajindaipaeaa
open Go.ChangeShapes Go.WideShapes Go.ChangeAt Go.RowKit
theorem infoPt : (Try.prog.info? 73).map (fun i => (i.zero, i.size, i.bytes)) = some (some (.agg #[.string ⟨#[]⟩, .int .i64 0, .int .i64 0, .slice none 0 0]), 4, 56) := by kernel_rfl
theorem run_make_Pt (n : Nat) (hn : n ≤ 1048576) (w : World) : (Instr.makeSlice 22 (.int .i64 (n : Int)) (.int .i64 (n : Int))).run Try.prog w = .ok (.slice (some ⟨w.heap.size, 0, none⟩) n n) (w.alloc (.cells (madeCells #[.string ⟨#[]⟩, .int .i64 0, .int .i64 0, .slice none 0 0] (n * 4)) 73)) := by
  obtain ⟨i0, hi, hz0, hz1, hz2⟩ := info_parts infoPt
  have h := run_make (P := Try.prog) w 22 73 i0 (.agg #[.string ⟨#[]⟩, .int .i64 0, .int .i64 0, .slice none 0 0]) Try.underlying22 hi hz0 .i64 .i64 (n : Int) (n : Int) (by omega) (by omega) (by rw [hz2]; omega) (by omega)
  rw [hz1] at h
  simpa [Value.cells] using h
/-- What a row holds of one at place i. -/
def FPt (B : Nat) (W : World) (f : Nat → Value) (i : Nat) (g : Ptn) : Prop :=
  f (i * 4) = .string g.name ∧ f (i * 4 + 1) = .int .i64 g.low ∧ f (i * 4 + 2) = .int .i64 g.next ∧ OwnSn B W (f (i * 4 + 3)) g.seen
def OwnsPt (B : Nat) (W : World) (v : Value) (rs : List Ptn) : Prop := ∃ (b : Nat) (f : Nat → Value), B ≤ b ∧ v = .slice (some ⟨b, 0, none⟩) rs.length rs.length ∧ W.rowIs b 73 (rs.length * 4) f ∧ ∀ (i : Nat) (g : Ptn), rs[i]? = some g → FPt (b + 1) W f i g
theorem OwnsPt.row {B : Nat} {W : World} {v : Value} {rs : List Ptn} (h : OwnsPt B W v rs) (hG : BdsPt 1048576 rs) : RowPt W v rs := by
  obtain ⟨b, f, h1, h2, h3, h4⟩ := h
  have hl := hG.1
  refine ⟨⟨_, _, h2, fun _ => ⟨b, 0, rfl, fun i g hi => ?_⟩⟩, by omega⟩
  have hlt := (List.getElem?_eq_some_iff.1 hi).1
  obtain ⟨e0, e1, e2, e3⟩ := h4 i g hi
  have c0 := h3.cell (i := i * 4) (by omega)
  have c1 := h3.cell (i := i * 4 + 1) (by omega)
  have c2 := h3.cell (i := i * 4 + 2) (by omega)
  have c3 := h3.cell (i := i * 4 + 3) (by omega)
  rw [e0] at c0
  rw [e1] at c1
  rw [e2] at c2
  rw [Nat.zero_add]
  have hB := hG.2 i g hi
  exact ⟨_, ⟨c0, c1, c2, c3⟩, ⟨e3.row hB.2, Nat.le_trans hB.1 (by omega)⟩⟩
theorem OwnsPt.below {B : Nat} {W W' : World} {v : Value} {rs : List Ptn} (h : OwnsPt B W v rs) (hb : Below W.heap.size W W') : OwnsPt B W' v rs := by
  obtain ⟨b, f, h1, h2, h3, h4⟩ := h
  refine ⟨b, f, h1, h2, h3.of_block (hb.block b h3.lt), fun i g hi => ?_⟩
  obtain ⟨e0, e1, e2, e3⟩ := h4 i g hi
  exact ⟨e0, e1, e2, e3.below hb⟩
theorem OwnsPt.setAt {B c : Nat} {W : World} {v : Value} {rs : List Ptn} (h : OwnsPt B W v rs) (hc : c < B) (i : Nat) (x : Value) : OwnsPt B (W.setCell ⟨c, i, none⟩ x) v rs := by
  obtain ⟨b, f, h1, h2, h3, h4⟩ := h
  refine ⟨b, f, h1, h2, h3.setOther (show b ≠ c by omega) x, fun j g hj => ?_⟩
  obtain ⟨e0, e1, e2, e3⟩ := h4 j g hj
  exact ⟨e0, e1, e2, e3.setAt (by omega) i x⟩
theorem OwnsPt.mono {B C : Nat} {W : World} {v : Value} {rs : List Ptn} (h : OwnsPt B W v rs) (hC : C ≤ B) : OwnsPt C W v rs := by
  obtain ⟨b, f, h1, h2⟩ := h
  exact ⟨b, f, by omega, h2⟩
theorem FPt.sets {B : Nat} {W : World} {f : Nat → Value} {n : Nat} {k : Nat} {g : Ptn} {u : Value} {t : Nat} (hR : W.rowIs B t n f) (hO : OwnSn (B + 1) W u g.seen) :
    ∃ f' : Nat → Value, ((((W.setCell ⟨B, k * 4, none⟩ (.string g.name)).setCell ⟨B, k * 4 + 1, none⟩ (.int .i64 g.low)).setCell ⟨B, k * 4 + 2, none⟩ (.int .i64 g.next)).setCell ⟨B, k * 4 + 3, none⟩ (u)).rowIs B t n f' ∧ FPt (B + 1) ((((W.setCell ⟨B, k * 4, none⟩ (.string g.name)).setCell ⟨B, k * 4 + 1, none⟩ (.int .i64 g.low)).setCell ⟨B, k * 4 + 2, none⟩ (.int .i64 g.next)).setCell ⟨B, k * 4 + 3, none⟩ (u)) f' k g ∧ ∀ (j : Nat) (q : Ptn), j ≠ k → FPt (B + 1) W f j q → FPt (B + 1) ((((W.setCell ⟨B, k * 4, none⟩ (.string g.name)).setCell ⟨B, k * 4 + 1, none⟩ (.int .i64 g.low)).setCell ⟨B, k * 4 + 2, none⟩ (.int .i64 g.next)).setCell ⟨B, k * 4 + 3, none⟩ (u)) f' j q := by
  have own : ∀ {a : Value} {q : Ptn}, OwnSn (B + 1) W a q.seen → OwnSn (B + 1) ((((W.setCell ⟨B, k * 4, none⟩ (.string g.name)).setCell ⟨B, k * 4 + 1, none⟩ (.int .i64 g.low)).setCell ⟨B, k * 4 + 2, none⟩ (.int .i64 g.next)).setCell ⟨B, k * 4 + 3, none⟩ (u)) a q.seen := fun h => ((((h.setAt (Nat.lt_succ_self B) _ _).setAt (Nat.lt_succ_self B) _ _).setAt (Nat.lt_succ_self B) _ _).setAt (Nat.lt_succ_self B) _ _)
  refine ⟨_, ((((hR.set (k * 4) (.string g.name)).set (k * 4 + 1) (.int .i64 g.low)).set (k * 4 + 2) (.int .i64 g.next)).set (k * 4 + 3) (u)), ?_, ?_⟩
  · refine ⟨?_, ?_, ?_, ?_⟩ <;> dsimp only
    · rw [if_neg (show ¬ k * 4 = k * 4 + 3 by omega), if_neg (show ¬ k * 4 = k * 4 + 2 by omega), if_neg (show ¬ k * 4 = k * 4 + 1 by omega), if_pos rfl]
    · rw [if_neg (show ¬ k * 4 + 1 = k * 4 + 3 by omega), if_neg (show ¬ k * 4 + 1 = k * 4 + 2 by omega), if_pos rfl]
    · rw [if_neg (show ¬ k * 4 + 2 = k * 4 + 3 by omega), if_pos rfl]
    · rw [if_pos rfl]
      exact own hO
  · intro j q hj hq
    obtain ⟨e0, e1, e2, e3⟩ := hq
    refine ⟨?_, ?_, ?_, ?_⟩ <;> dsimp only
    · rw [if_neg (show ¬ j * 4 = k * 4 + 3 by omega), if_neg (show ¬ j * 4 = k * 4 + 2 by omega), if_neg (show ¬ j * 4 = k * 4 + 1 by omega), if_neg (show ¬ j * 4 = k * 4 by omega)]
      exact e0
    · rw [if_neg (show ¬ j * 4 + 1 = k * 4 + 3 by omega), if_neg (show ¬ j * 4 + 1 = k * 4 + 2 by omega), if_neg (show ¬ j * 4 + 1 = k * 4 + 1 by omega), if_neg (show ¬ j * 4 + 1 = k * 4 by omega)]
      exact e1
    · rw [if_neg (show ¬ j * 4 + 2 = k * 4 + 3 by omega), if_neg (show ¬ j * 4 + 2 = k * 4 + 2 by omega), if_neg (show ¬ j * 4 + 2 = k * 4 + 1 by omega), if_neg (show ¬ j * 4 + 2 = k * 4 by omega)]
      exact e2
    · rw [if_neg (show ¬ j * 4 + 3 = k * 4 + 3 by omega), if_neg (show ¬ j * 4 + 3 = k * 4 + 2 by omega), if_neg (show ¬ j * 4 + 3 = k * 4 + 1 by omega), if_neg (show ¬ j * 4 + 3 = k * 4 by omega)]
      exact own e3
set_option maxHeartbeats 2000000 in
theorem tosPt_any (v : Value) (rs : List Ptn) (w : World) (h : RowPt w v rs) (hG : BdsPt 1048576 rs) :
    Calls Try.prog 42 #[v] w fun e w' => ∃ v', e = .returned v' ∧ OwnsPt w.heap.size w' v' rs ∧ Below w.heap.size w w' := by
  have hlen := hG.1
  obtain ⟨a, cap, rfl⟩ := h.val
  have H : Hid (RowPt w (.slice a rs.length cap) rs ∧ BdsPt 1048576 rs) := ⟨h, hG⟩
  clear h hG
  obtain ⟨M, hM, hMs⟩ : ∃ M : Array Value, madeCells #[.string ⟨#[]⟩, .int .i64 0, .int .i64 0, .slice none 0 0] (rs.length * 4) = M ∧ M.size = rs.length * 4 := ⟨_, rfl, size_madeCells _ _⟩
  have hmk := run_make_Pt rs.length hlen
  rw [hM] at hmk
  obtain ⟨f0, hf0⟩ := fl_row w M 73 (rs.length * 4) hMs
  have HF0 : Hid ((w.alloc (.cells M 73)).rowIs w.heap.size 73 (rs.length * 4) f0) := hf0
  clear hM hMs hf0
  go_enter Try.func42, Try.ntmps42
  go_wp2
  go_loopw [4] (fun i wr => ∃ (k : Nat) (f : Nat → Value), i = .int .i64 (k : Int) ∧ k ≤ rs.length ∧ wr.rowIs w.heap.size 73 (rs.length * 4) f ∧ (∀ (j : Nat) (g : Ptn), j < k → rs[j]? = some g → FPt (w.heap.size + 1) wr f j g) ∧ Below w.heap.size w wr) (fun i _ => rs.length - (intOf i).toNat)
  case atStart => exact ⟨0, f0, rfl, by omega, HF0.out, fun j e hj => by omega, (Below.refl _ _).alloc (Nat.le_refl _) _⟩
  case round =>
    obtain ⟨k, f, rfl, hk, hR, hA, hb⟩ := hrel
    by_cases hlt : k < rs.length
    · have hlt' : (k : Int) < (rs.length : Int) := by omega
      obtain ⟨b, o, cap', g, u, ee, hs, ⟨q0, q1, q2, q3⟩, hS⟩ := (H.out.1.below hb).at hlt
      simp only [Value.slice.injEq, true_and] at ee
      obtain ⟨rfl, rfl⟩ := ee
      obtain ⟨n0, c0, rfl⟩ := hS.ls.val
      have HS : Hid (rs[k]? = some g ∧ RPt wr (.slice n0 g.seen.length c0) g ∧ wr.rowIs w.heap.size 73 (rs.length * 4) f ∧ (∀ (j : Nat) (g : Ptn), j < k → rs[j]? = some g → FPt (w.heap.size + 1) wr f j g) ∧ Below w.heap.size w wr) := ⟨hs, hS, hR, hA, hb⟩
      clear hs hS hR hA hb
      go_wp2_with fail
      refine (toPt_own g _ _ HS.out.2.1 (H.out.2.2 k g HS.out.1)).mono ?_
      rintro ee w1 ⟨u', rfl, hO, hb1⟩
      have hlt0 := HS.out.2.2.1.lt
      obtain ⟨A1, L1, C1, hv1⟩ : ∃ A' L' C', u' = .slice A' L' C' := by
        obtain ⟨b', _, _, h2, _⟩ := hO
        exact ⟨_, _, _, h2⟩
      subst hv1
      have hR1 : w1.rowIs w.heap.size 73 (rs.length * 4) f := HS.out.2.2.1.of_block (hb1.block _ hlt0)
      have hfz := hR1.frozen
      have k0 := hR1.cell (i := k * 4) (by omega)
      have k1 := hR1.cell (i := k * 4 + 1) (by omega)
      have k2 := hR1.cell (i := k * 4 + 2) (by omega)
      have k3 := hR1.cell (i := k * 4 + 3) (by omega)
      have hA1 : ∀ (j : Nat) (g : Ptn), j < k → rs[j]? = some g → FPt (w.heap.size + 1) w1 f j g := fun j e hj he => by
        obtain ⟨e0, e1, e2, e3⟩ := HS.out.2.2.2.1 j e hj he
        exact ⟨e0, e1, e2, e3.below hb1⟩
      have H1 : Hid (rs[k]? = some g ∧ w1.rowIs w.heap.size 73 (rs.length * 4) f ∧ (∀ (j : Nat) (g : Ptn), j < k → rs[j]? = some g → FPt (w.heap.size + 1) w1 f j g) ∧ Below w.heap.size w w1 ∧ OwnSn (w.heap.size + 1) w1 (.slice A1 L1 C1) g.seen) := ⟨HS.out.1, hR1, hA1, HS.out.2.2.2.2.trans (hb1.mono HS.out.2.2.2.2.size), hO.mono hlt0⟩
      clear HS hR1 hA1 hb1 hO
      go_wp2
      go_roundw
      case rel =>
        obtain ⟨f', r1, r2, r3⟩ := FPt.sets (k := k) H1.out.2.1 H1.out.2.2.2.2
        refine ⟨k + 1, f', by go_num, by omega, r1, fun j t hj ht => ?_, ((((H1.out.2.2.2.1.setCell (Nat.le_refl _) _).setCell (Nat.le_refl _) _).setCell (Nat.le_refl _) _).setCell (Nat.le_refl _) _)⟩
        by_cases e1 : j = k
        · subst e1
          rw [H1.out.1] at ht
          cases ht
          exact r2
        · exact r3 j t e1 (H1.out.2.2.1 j t (by omega) ht)
      case measure => simp [intOf]; omega
    · obtain rfl : k = rs.length := by omega
      have HS : Hid (wr.rowIs w.heap.size 73 (rs.length * 4) f ∧ (∀ (j : Nat) (g : Ptn), j < rs.length → rs[j]? = some g → FPt (w.heap.size + 1) wr f j g) ∧ Below w.heap.size w wr) := ⟨hR, hA, hb⟩
      clear hR hA hb
      go_wp2
      go_ret
      exact ⟨_, rfl, ⟨w.heap.size, f, Nat.le_refl _, rfl, HS.out.1, fun i e hi => HS.out.2.1 i e (List.getElem?_eq_some_iff.1 hi).1 hi⟩, HS.out.2.2⟩
end Go.Proofs.Ytagajindaipaeaa
