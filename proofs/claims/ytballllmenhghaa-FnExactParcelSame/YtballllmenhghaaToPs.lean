/- The copies of papers and of a parcel: they read as what they were made of, and nothing that was there is written. -/
import Derived.Test.YtballllmenhghaaRowPs
import Derived.Test.YtballllmenhghaaToL
namespace Go.Proofs.Ytballllmenhghaa
open Go.ChangeShapes Go.WideShapes Go.ChangeAt Go.RowKit
theorem infoPp : (Try.prog.info? 37).map (fun i => (i.zero, i.size, i.bytes)) = some (some (.agg #[.int .i64 0, .string ⟨#[]⟩, .string ⟨#[]⟩, .int .i64 0, .slice none 0 0, .slice none 0 0]), 6, 96) := by kernel_rfl
theorem run_make_pp (n : Nat) (hn : n ≤ 1048576) (w : World) : (Instr.makeSlice 27 (.int .i64 (n : Int)) (.int .i64 (n : Int))).run Try.prog w = .ok (.slice (some ⟨w.heap.size, 0, none⟩) n n) (w.alloc (.cells (madeCells #[.int .i64 0, .string ⟨#[]⟩, .string ⟨#[]⟩, .int .i64 0, .slice none 0 0, .slice none 0 0] (n * 6)) 37)) := by
  obtain ⟨i0, hi, hz0, hz1, hz2⟩ := info_parts infoPp
  have h := run_make (P := Try.prog) w 27 37 i0 (.agg #[.int .i64 0, .string ⟨#[]⟩, .string ⟨#[]⟩, .int .i64 0, .slice none 0 0, .slice none 0 0]) Try.underlying27 hi hz0 .i64 .i64 (n : Int) (n : Int) (by omega) (by omega) (by rw [hz2]; omega) (by omega)
  rw [hz1] at h
  simpa [Value.cells] using h
/-- What a row holds of a paper at place i. -/
def PapF (B : Nat) (W : World) (f : Nat → Value) (i : Nat) (g : Pap) : Prop :=
  f (i * 6) = .int .i64 g.kind ∧ f (i * 6 + 1) = .string g.ref ∧ f (i * 6 + 2) = .string g.other ∧ f (i * 6 + 3) = .int .i64 g.day ∧ OwnP B W (f (i * 6 + 4)) (f (i * 6 + 5)) g
/-- A list of papers in blocks of its own, not below B. -/
def OwnPs (B : Nat) (W : World) (v : Value) (ps : List Pap) : Prop := ∃ (b : Nat) (f : Nat → Value), B ≤ b ∧ v = .slice (some ⟨b, 0, none⟩) ps.length ps.length ∧ W.rowIs b 37 (ps.length * 6) f ∧ ∀ (i : Nat) (g : Pap), ps[i]? = some g → PapF (b + 1) W f i g
theorem OwnPs.row {B : Nat} {W : World} {v : Value} {ps : List Pap} (h : OwnPs B W v ps) (hG : BdPs 1048576 ps) : RowPs W v ps := by
  obtain ⟨b, f, h1, h2, h3, h4⟩ := h
  have hl := hG.1
  refine ⟨⟨_, _, h2, fun _ => ⟨b, 0, rfl, fun i g hi => ?_⟩⟩, by omega⟩
  have hlt := (List.getElem?_eq_some_iff.1 hi).1
  obtain ⟨e0, e1, e2, e3, e4⟩ := h4 i g hi
  have c0 := h3.cell (i := i * 6) (by omega)
  have c1 := h3.cell (i := i * 6 + 1) (by omega)
  have c2 := h3.cell (i := i * 6 + 2) (by omega)
  have c3 := h3.cell (i := i * 6 + 3) (by omega)
  have c4 := h3.cell (i := i * 6 + 4) (by omega)
  have c5 := h3.cell (i := i * 6 + 5) (by omega)
  rw [e0] at c0; rw [e1] at c1; rw [e2] at c2; rw [e3] at c3
  rw [Nat.zero_add]
  exact ⟨_, _, ⟨c0, c1, c2, c3, c4, c5⟩, e4.row (hG.2 i g hi)⟩
theorem OwnPs.below {B : Nat} {W W' : World} {v : Value} {ps : List Pap} (h : OwnPs B W v ps) (hb : Below W.heap.size W W') : OwnPs B W' v ps := by
  obtain ⟨b, f, h1, h2, h3, h4⟩ := h
  refine ⟨b, f, h1, h2, h3.of_block (hb.block b h3.lt), fun i g hi => ?_⟩
  obtain ⟨e0, e1, e2, e3, e4⟩ := h4 i g hi
  exact ⟨e0, e1, e2, e3, e4.below hb⟩
theorem OwnPs.setAt {B c : Nat} {W : World} {v : Value} {ps : List Pap} (h : OwnPs B W v ps) (hc : c < B) (i : Nat) (x : Value) : OwnPs B (W.setCell ⟨c, i, none⟩ x) v ps := by
  obtain ⟨b, f, h1, h2, h3, h4⟩ := h
  refine ⟨b, f, h1, h2, h3.setOther (show b ≠ c by omega) x, fun j g hj => ?_⟩
  obtain ⟨e0, e1, e2, e3, e4⟩ := h4 j g hj
  exact ⟨e0, e1, e2, e3, e4.setAt (by omega) i x⟩
theorem OwnPs.mono {B C : Nat} {W : World} {v : Value} {ps : List Pap} (h : OwnPs B W v ps) (hC : C ≤ B) : OwnPs C W v ps := by
  obtain ⟨b, f, h1, h2⟩ := h
  exact ⟨b, f, by omega, h2⟩
/-- Six stores into a row's place k. -/
theorem PapF.set6 {B : Nat} {W : World} {f : Nat → Value} {n : Nat} {k : Nat} {g : Pap} {vn vl : Value} {t : Nat} (hR : W.rowIs B t n f) (hO : OwnP (B + 1) W vn vl g) :
    ∃ f' : Nat → Value, ((((((W.setCell ⟨B, k * 6, none⟩ (.int .i64 g.kind)).setCell ⟨B, k * 6 + 1, none⟩ (.string g.ref)).setCell ⟨B, k * 6 + 2, none⟩ (.string g.other)).setCell ⟨B, k * 6 + 3, none⟩ (.int .i64 g.day)).setCell ⟨B, k * 6 + 4, none⟩ vn).setCell ⟨B, k * 6 + 5, none⟩ vl).rowIs B t n f' ∧
      PapF (B + 1) ((((((W.setCell ⟨B, k * 6, none⟩ (.int .i64 g.kind)).setCell ⟨B, k * 6 + 1, none⟩ (.string g.ref)).setCell ⟨B, k * 6 + 2, none⟩ (.string g.other)).setCell ⟨B, k * 6 + 3, none⟩ (.int .i64 g.day)).setCell ⟨B, k * 6 + 4, none⟩ vn).setCell ⟨B, k * 6 + 5, none⟩ vl) f' k g ∧
      ∀ (j : Nat) (q : Pap), j ≠ k → PapF (B + 1) W f j q → PapF (B + 1) ((((((W.setCell ⟨B, k * 6, none⟩ (.int .i64 g.kind)).setCell ⟨B, k * 6 + 1, none⟩ (.string g.ref)).setCell ⟨B, k * 6 + 2, none⟩ (.string g.other)).setCell ⟨B, k * 6 + 3, none⟩ (.int .i64 g.day)).setCell ⟨B, k * 6 + 4, none⟩ vn).setCell ⟨B, k * 6 + 5, none⟩ vl) f' j q := by
  have own : ∀ {a b : Value} {q : Pap}, OwnP (B + 1) W a b q → OwnP (B + 1) ((((((W.setCell ⟨B, k * 6, none⟩ (.int .i64 g.kind)).setCell ⟨B, k * 6 + 1, none⟩ (.string g.ref)).setCell ⟨B, k * 6 + 2, none⟩ (.string g.other)).setCell ⟨B, k * 6 + 3, none⟩ (.int .i64 g.day)).setCell ⟨B, k * 6 + 4, none⟩ vn).setCell ⟨B, k * 6 + 5, none⟩ vl) a b q := fun h => (((((h.setAt (Nat.lt_succ_self B) _ _).setAt (Nat.lt_succ_self B) _ _).setAt (Nat.lt_succ_self B) _ _).setAt (Nat.lt_succ_self B) _ _).setAt (Nat.lt_succ_self B) _ _).setAt (Nat.lt_succ_self B) _ _
  refine ⟨_, (((((hR.set (k * 6) (.int .i64 g.kind)).set (k * 6 + 1) (.string g.ref)).set (k * 6 + 2) (.string g.other)).set (k * 6 + 3) (.int .i64 g.day)).set (k * 6 + 4) vn).set (k * 6 + 5) vl, ?_, ?_⟩
  · refine ⟨?_, ?_, ?_, ?_, ?_⟩ <;> dsimp only
    · rw [if_neg (by omega), if_neg (by omega), if_neg (by omega), if_neg (by omega), if_neg (by omega), if_pos rfl]
    · rw [if_neg (by omega), if_neg (by omega), if_neg (by omega), if_neg (by omega), if_pos rfl]
    · rw [if_neg (by omega), if_neg (by omega), if_neg (by omega), if_pos rfl]
    · rw [if_neg (by omega), if_neg (by omega), if_pos rfl]
    · rw [if_neg (show ¬ k * 6 + 4 = k * 6 + 5 by omega), if_pos rfl, if_pos rfl]
      exact own hO
  · intro j q hj hq
    obtain ⟨e0, e1, e2, e3, e4⟩ := hq
    refine ⟨?_, ?_, ?_, ?_, ?_⟩ <;> dsimp only
    · rw [if_neg (by omega), if_neg (by omega), if_neg (by omega), if_neg (by omega), if_neg (by omega), if_neg (by omega)]; exact e0
    · rw [if_neg (by omega), if_neg (by omega), if_neg (by omega), if_neg (by omega), if_neg (by omega), if_neg (by omega)]; exact e1
    · rw [if_neg (by omega), if_neg (by omega), if_neg (by omega), if_neg (by omega), if_neg (by omega), if_neg (by omega)]; exact e2
    · rw [if_neg (by omega), if_neg (by omega), if_neg (by omega), if_neg (by omega), if_neg (by omega), if_neg (by omega)]; exact e3
    · rw [if_neg (show ¬ j * 6 + 4 = k * 6 + 5 by omega), if_neg (show ¬ j * 6 + 4 = k * 6 + 4 by omega), if_neg (show ¬ j * 6 + 4 = k * 6 + 3 by omega), if_neg (show ¬ j * 6 + 4 = k * 6 + 2 by omega), if_neg (show ¬ j * 6 + 4 = k * 6 + 1 by omega), if_neg (show ¬ j * 6 + 4 = k * 6 by omega), if_neg (show ¬ j * 6 + 5 = k * 6 + 5 by omega), if_neg (show ¬ j * 6 + 5 = k * 6 + 4 by omega), if_neg (show ¬ j * 6 + 5 = k * 6 + 3 by omega), if_neg (show ¬ j * 6 + 5 = k * 6 + 2 by omega), if_neg (show ¬ j * 6 + 5 = k * 6 + 1 by omega), if_neg (show ¬ j * 6 + 5 = k * 6 by omega)]
      exact own e4
set_option maxHeartbeats 2000000 in
theorem toPs_any (v : Value) (ps : List Pap) (w : World) (h : RowPs w v ps) (hG : BdPs 1048576 ps) :
    Calls Try.prog 11 #[v] w fun e w' => ∃ v', e = .returned v' ∧ OwnPs w.heap.size w' v' ps ∧ Below w.heap.size w w' := by
  have hlen := hG.1
  obtain ⟨a, cap, rfl⟩ := h.val
  have H : Hid (RowPs w (.slice a ps.length cap) ps ∧ BdPs 1048576 ps) := ⟨h, hG⟩
  clear h hG
  obtain ⟨M, hM, hMs⟩ : ∃ M : Array Value, madeCells #[.int .i64 0, .string ⟨#[]⟩, .string ⟨#[]⟩, .int .i64 0, .slice none 0 0, .slice none 0 0] (ps.length * 6) = M ∧ M.size = ps.length * 6 := ⟨_, rfl, size_madeCells _ _⟩
  have hmk := run_make_pp ps.length hlen
  rw [hM] at hmk
  obtain ⟨f0, hf0⟩ := rowIs_anyL w M 37 (ps.length * 6) hMs
  have HF0 : Hid ((w.alloc (.cells M 37)).rowIs w.heap.size 37 (ps.length * 6) f0) := hf0
  clear hM hMs hf0
  go_enter Try.func11, Try.ntmps11
  go_wp2
  go_loopw [4] (fun i wr => ∃ (k : Nat) (f : Nat → Value), i = .int .i64 (k : Int) ∧ k ≤ ps.length ∧ wr.rowIs w.heap.size 37 (ps.length * 6) f ∧ (∀ (j : Nat) (g : Pap), j < k → ps[j]? = some g → PapF (w.heap.size + 1) wr f j g) ∧ Below w.heap.size w wr) (fun i _ => ps.length - (intOf i).toNat)
  case atStart => exact ⟨0, f0, rfl, by omega, HF0.out, fun j e hj => by omega, (Below.refl _ _).alloc (Nat.le_refl _) _⟩
  case round =>
    obtain ⟨k, f, rfl, hk, hR, hA, hb⟩ := hrel
    by_cases hlt : k < ps.length
    · have hlt' : (k : Int) < (ps.length : Int) := by omega
      obtain ⟨b, o, cap', g, vn, vl, ee, hs, ⟨q0, q1, q2, q3, q4, q5⟩, hS⟩ := (H.out.1.below hb).at hlt
      simp only [Value.slice.injEq, true_and] at ee
      obtain ⟨rfl, rfl⟩ := ee
      obtain ⟨n0, c0, rfl⟩ := hS.ns.val
      obtain ⟨n1, c1, rfl⟩ := hS.ls.val
      have HS : Hid (ps[k]? = some g ∧ PapR wr (.slice n0 g.notes.length c0) (.slice n1 g.lines.length c1) g ∧ wr.rowIs w.heap.size 37 (ps.length * 6) f ∧ (∀ (j : Nat) (g : Pap), j < k → ps[j]? = some g → PapF (w.heap.size + 1) wr f j g) ∧ Below w.heap.size w wr) := ⟨hs, hS, hR, hA, hb⟩
      clear hs hS hR hA hb
      go_wp2_with fail
      refine (toP_own g _ _ _ HS.out.2.1 (H.out.2.2 k g HS.out.1)).mono ?_
      rintro ee w1 ⟨vn', vl', rfl, hO, hb1⟩
      have hlt0 := HS.out.2.2.1.lt
      obtain ⟨A1, L1, C1, hv1⟩ : ∃ A' L' C', vn' = .slice A' L' C' := by
        obtain ⟨⟨b', _, h2, _⟩, _⟩ := hO
        exact ⟨_, _, _, h2⟩
      obtain ⟨A2, L2, C2, hv2⟩ : ∃ A' L' C', vl' = .slice A' L' C' := by
        obtain ⟨_, b', _, _, h2, _⟩ := hO
        exact ⟨_, _, _, h2⟩
      subst hv1 hv2
      have hR1 : w1.rowIs w.heap.size 37 (ps.length * 6) f := HS.out.2.2.1.of_block (hb1.block _ hlt0)
      have hfz := hR1.frozen
      have k0 := hR1.cell (i := k * 6) (by omega)
      have k1 := hR1.cell (i := k * 6 + 1) (by omega)
      have k2 := hR1.cell (i := k * 6 + 2) (by omega)
      have k3 := hR1.cell (i := k * 6 + 3) (by omega)
      have k4 := hR1.cell (i := k * 6 + 4) (by omega)
      have k5 := hR1.cell (i := k * 6 + 5) (by omega)
      have hA1 : ∀ (j : Nat) (g : Pap), j < k → ps[j]? = some g → PapF (w.heap.size + 1) w1 f j g := fun j e hj he => by
        obtain ⟨e0, e1, e2, e3, e4⟩ := HS.out.2.2.2.1 j e hj he
        exact ⟨e0, e1, e2, e3, e4.below hb1⟩
      have H1 : Hid (ps[k]? = some g ∧ w1.rowIs w.heap.size 37 (ps.length * 6) f ∧ (∀ (j : Nat) (g : Pap), j < k → ps[j]? = some g → PapF (w.heap.size + 1) w1 f j g) ∧ Below w.heap.size w w1 ∧ OwnP (w.heap.size + 1) w1 (.slice A1 L1 C1) (.slice A2 L2 C2) g) := ⟨HS.out.1, hR1, hA1, HS.out.2.2.2.2.trans (hb1.mono HS.out.2.2.2.2.size), hO.mono hlt0⟩
      clear HS hR1 hA1 hb1 hO
      go_wp2
      go_roundw
      case rel =>
        obtain ⟨f', r1, r2, r3⟩ := PapF.set6 (k := k) H1.out.2.1 H1.out.2.2.2.2
        refine ⟨k + 1, f', by go_num, by omega, r1, fun j t hj ht => ?_, (((((H1.out.2.2.2.1.setCell (Nat.le_refl _) _).setCell (Nat.le_refl _) _).setCell (Nat.le_refl _) _).setCell (Nat.le_refl _) _).setCell (Nat.le_refl _) _).setCell (Nat.le_refl _) _⟩
        by_cases e1 : j = k
        · subst e1
          rw [H1.out.1] at ht
          cases ht
          exact r2
        · exact r3 j t e1 (H1.out.2.2.1 j t (by omega) ht)
      case measure => simp [intOf]; omega
    · obtain rfl : k = ps.length := by omega
      have HS : Hid (wr.rowIs w.heap.size 37 (ps.length * 6) f ∧ (∀ (j : Nat) (g : Pap), j < ps.length → ps[j]? = some g → PapF (w.heap.size + 1) wr f j g) ∧ Below w.heap.size w wr) := ⟨hR, hA, hb⟩
      clear hR hA hb
      go_wp2
      go_ret
      exact ⟨_, rfl, ⟨w.heap.size, f, Nat.le_refl _, rfl, HS.out.1, fun i e hi => HS.out.2.1 i e (List.getElem?_eq_some_iff.1 hi).1 hi⟩, HS.out.2.2⟩
set_option maxHeartbeats 4000000 in
theorem toPc_own (p : Pcl) (v : Value) (w : World) (h : PclR w v p) (hP : BdPc 1048576 p) :
    Calls Try.prog 6 #[.agg #[.string p.frm, .string p.to, .int .i64 p.num, v]] w fun e w' => ∃ v', e = .returned (.agg #[.string p.frm, .string p.to, .int .i64 p.num, v']) ∧ OwnPs w.heap.size w' v' p.papers ∧ Below w.heap.size w w' := by
  obtain ⟨frm, to, num, ps⟩ := p
  obtain ⟨a, cap, rfl⟩ := h.ps.val
  dsimp only at h ⊢
  have H : Hid (RowPs w (.slice a ps.length cap) ps ∧ BdPs 1048576 ps) := ⟨h.ps, hP.2.2⟩
  clear h hP
  go_enter Try.func6, Try.ntmps6
  go_wp2_with fail
  have hb0 : Below w.heap.size w (((w.alloc (.cells #[.string frm, .string to, .int .i64 num, .slice a ps.length cap] 24)).alloc (.cells #[.string ⟨#[]⟩, .string ⟨#[]⟩, .int .i64 0, .slice none 0 0] 29)).alloc (.cells #[.string frm, .string to, .int .i64 num, .slice none 0 0] 29)) := (((Below.refl _ _).alloc (Nat.le_refl _) _).alloc (by simp) _).alloc (by simp; omega) _
  have h3 := three w (.cells #[.string frm, .string to, .int .i64 num, .slice a ps.length cap] 24) (.cells #[.string ⟨#[]⟩, .string ⟨#[]⟩, .int .i64 0, .slice none 0 0] 29) (.cells #[.string frm, .string to, .int .i64 num, .slice none 0 0] 29)
  have hs0 : ((((w.alloc (.cells #[.string frm, .string to, .int .i64 num, .slice a ps.length cap] 24)).alloc (.cells #[.string ⟨#[]⟩, .string ⟨#[]⟩, .int .i64 0, .slice none 0 0] 29)).alloc (.cells #[.string frm, .string to, .int .i64 num, .slice none 0 0] 29))).heap.size = w.heap.size + 3 := by simp
  generalize (((w.alloc (.cells #[.string frm, .string to, .int .i64 num, .slice a ps.length cap] 24)).alloc (.cells #[.string ⟨#[]⟩, .string ⟨#[]⟩, .int .i64 0, .slice none 0 0] 29)).alloc (.cells #[.string frm, .string to, .int .i64 num, .slice none 0 0] 29)) = W0 at hb0 h3 hs0 ⊢
  refine (toPs_any _ ps W0 (H.out.1.below hb0) H.out.2).mono ?_
  rintro e w1 ⟨v1, rfl, hO, hb1⟩
  obtain ⟨A1, L1, C1, hv1⟩ : ∃ A1 L1 C1, v1 = .slice A1 L1 C1 := by
    obtain ⟨b', _, _, h2, _⟩ := hO
    exact ⟨_, _, _, h2⟩
  subst hv1
  have f1 := (hb1.block (w.heap.size + 1) (by omega)).trans h3.2.1
  have f2 := (hb1.block (w.heap.size + 1 + 1) (by omega)).trans h3.2.2
  have c0 : w1.cell? ⟨w.heap.size + 1, 0, none⟩ = some (.string ⟨#[]⟩) := by simp [World.cell?, f1]
  have c1 : w1.cell? ⟨w.heap.size + 1, 1, none⟩ = some (.string ⟨#[]⟩) := by simp [World.cell?, f1]
  have c2 : w1.cell? ⟨w.heap.size + 1, 2, none⟩ = some (.int .i64 0) := by simp [World.cell?, f1]
  have c3 : w1.cell? ⟨w.heap.size + 1, 3, none⟩ = some (.slice none 0 0) := by simp [World.cell?, f1]
  have d0 : w1.cell? ⟨w.heap.size + 1 + 1, 0, none⟩ = some (.string frm) := by simp [World.cell?, f2]
  have d1 : w1.cell? ⟨w.heap.size + 1 + 1, 1, none⟩ = some (.string to) := by simp [World.cell?, f2]
  have d2 : w1.cell? ⟨w.heap.size + 1 + 1, 2, none⟩ = some (.int .i64 num) := by simp [World.cell?, f2]
  have d3 : w1.cell? ⟨w.heap.size + 1 + 1, 3, none⟩ = some (.slice none 0 0) := by simp [World.cell?, f2]
  have z1 : ∀ o, w1.frozen? ⟨w.heap.size + 1, o, none⟩ = false := fun o => by simp [World.frozen?, f1]
  have z2 : ∀ o, w1.frozen? ⟨w.heap.size + 1 + 1, o, none⟩ = false := fun o => by simp [World.frozen?, f2]
  have HD : Hid (Below w.heap.size w w1 ∧ OwnPs (w.heap.size + 3) w1 (.slice A1 L1 C1) ps) := ⟨hb0.trans (hb1.mono (by omega)), by rw [← hs0]; exact hO⟩
  clear f1 f2 hb0 hb1 hO h3
  go_wp2
  have st : ∀ (W : World) (c i : Nat) (x : Value), w.heap.size ≤ c → c < w.heap.size + 3 → (Below w.heap.size w W ∧ OwnPs (w.heap.size + 3) W (.slice A1 L1 C1) ps) → (Below w.heap.size w (W.setCell ⟨c, i, none⟩ x) ∧ OwnPs (w.heap.size + 3) (W.setCell ⟨c, i, none⟩ x) (.slice A1 L1 C1) ps) := fun W c i x g1 g2 ⟨k1, k2⟩ => ⟨k1.setCell g1 x, k2.setAt g2 i x⟩
  have hF := st _ (w.heap.size + 1) 3 (.slice A1 L1 C1) (by omega) (by omega) (st _ (w.heap.size + 1) 2 (.int .i64 num) (by omega) (by omega) (st _ (w.heap.size + 1) 1 (.string to) (by omega) (by omega) (st _ (w.heap.size + 1) 0 (.string frm) (by omega) (by omega) (st _ (w.heap.size + 1 + 1) 3 (.slice A1 L1 C1) (by omega) (by omega) HD.out))))
  exact bodyPost_ret (v := .agg #[.string frm, .string to, .int .i64 num, .slice A1 L1 C1]) (by simp [results, Try.results6, go_sem, c0, c1, c2, c3]) rfl ⟨_, rfl, hF.2.mono (by omega), hF.1⟩
theorem toPc_any (p : Pcl) (v : Value) (w : World) (h : PclR w v p) (hP : BdPc 1048576 p) :
    Calls Try.prog 6 #[.agg #[.string p.frm, .string p.to, .int .i64 p.num, v]] w fun e w' => ∃ v', e = .returned (.agg #[.string p.frm, .string p.to, .int .i64 p.num, v']) ∧ PclR w' v' p ∧ Below w.heap.size w w' :=
  (toPc_own p v w h hP).mono fun _ _ ⟨v', he, hO, hb⟩ => ⟨v', he, ⟨hO.row hP.2.2, h.fz, h.tz⟩, hb⟩
end Go.Proofs.Ytballllmenhghaa
