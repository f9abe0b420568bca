/- The copies of Diff: they read as what they were made of, and nothing that was there is written. -/
import Derived.Test.YtoccmgoglkdcpaaDoorRowDf
namespace Go.Proofs.YtoccmgoglkdcpaaDoor
open Go.ChangeShapes Go.WideShapes Go.ChangeAt Go.RowKit
theorem infoDf : (Tryd.prog.info? 70).map (fun i => (i.zero, i.size, i.bytes)) = some (some (.agg #[.int .i64 0, .string ⟨#[]⟩, .string ⟨#[]⟩, .int .i64 0, .string ⟨#[]⟩, .int .i64 0]), 6, 72) := by kernel_rfl
theorem run_make_Df (n : Nat) (hn : n ≤ 1048576) (w : World) : (Instr.makeSlice 38 (.int .i64 (n : Int)) (.int .i64 (n : Int))).run Tryd.prog w = .ok (.slice (some ⟨w.heap.size, 0, none⟩) n n) (w.alloc (.cells (madeCells #[.int .i64 0, .string ⟨#[]⟩, .string ⟨#[]⟩, .int .i64 0, .string ⟨#[]⟩, .int .i64 0] (n * 6)) 70)) := by
  obtain ⟨i0, hi, hz0, hz1, hz2⟩ := info_parts infoDf
  have h := run_make (P := Tryd.prog) w 38 70 i0 (.agg #[.int .i64 0, .string ⟨#[]⟩, .string ⟨#[]⟩, .int .i64 0, .string ⟨#[]⟩, .int .i64 0]) Tryd.underlying38 hi hz0 .i64 .i64 (n : Int) (n : Int) (by omega) (by omega) (by rw [hz2]; omega) (by omega)
  rw [hz1] at h
  simpa [Value.cells] using h
set_option maxHeartbeats 1000000 in
theorem toDf_any (g : Dff) (w : World) :
    Calls Tryd.prog 36 #[.agg #[.int .i64 g.kind, .string g.partner, .string g.ref, .int .i64 g.no, .string g.item, .int .i64 g.qty]] w fun e w' => e = .returned (.agg #[.int .i64 g.kind, .string g.partner, .string g.ref, .int .i64 g.no, .string g.item, .int .i64 g.qty]) ∧ Below w.heap.size w w' := by
  obtain ⟨kind, partner, ref, no, item, qty⟩ := g
  dsimp only
  go_enter Tryd.func36, Tryd.ntmps36
  go_wp2
  exact bodyPost_ret (v := .agg #[.int .i64 kind, .string partner, .string ref, .int .i64 no, .string item, .int .i64 qty]) (by simp [results, Tryd.results36, go_sem]) rfl ⟨rfl, (((Below.refl _ _).alloc (Nat.le_refl _) _).alloc (by simp) _).alloc (by simp; omega) _⟩
/-- A list in a block of its own, not below B. -/
def OwnDf (B : Nat) (W : World) (v : Value) (rs : List Dff) : Prop := ∃ (b : Nat) (f : Nat → Value), B ≤ b ∧ v = .slice (some ⟨b, 0, none⟩) rs.length rs.length ∧ W.rowIs b 70 (rs.length * 6) f ∧ ∀ (i : Nat) (g : Dff), rs[i]? = some g → f (i * 6) = .int .i64 g.kind ∧ f (i * 6 + 1) = .string g.partner ∧ f (i * 6 + 2) = .string g.ref ∧ f (i * 6 + 3) = .int .i64 g.no ∧ f (i * 6 + 4) = .string g.item ∧ f (i * 6 + 5) = .int .i64 g.qty
theorem OwnDf.lst {B : Nat} {W : World} {v : Value} {rs : List Dff} (h : OwnDf B W v rs) (hG : BdDf 1048576 rs) : ∃ b, B ≤ b ∧ LDf b W v rs := by
  obtain ⟨b, f, h1, h2, h3, h4⟩ := h
  have hl := hG.len
  exact ⟨b, h1, ⟨_, _, h2, fun _ => ⟨rfl, _, f, h3, Nat.le_refl _, h4⟩⟩, by omega, fun i g hi => by have := hG.2 i g hi; omega⟩
theorem OwnDf.row {B : Nat} {W : World} {v : Value} {rs : List Dff} (h : OwnDf B W v rs) (hG : BdDf 1048576 rs) : RowDf W v rs := by
  obtain ⟨b, _, h⟩ := h.lst hG
  exact h.row
theorem OwnDf.below {B : Nat} {W W' : World} {v : Value} {rs : List Dff} (h : OwnDf B W v rs) (hb : Below W.heap.size W W') : OwnDf B W' v rs := by
  obtain ⟨b, f, h1, h2, h3, h4⟩ := h
  exact ⟨b, f, h1, h2, h3.of_block (hb.block b h3.lt), h4⟩
theorem OwnDf.setAt {B c : Nat} {W : World} {v : Value} {rs : List Dff} (h : OwnDf B W v rs) (hc : c < B) (i : Nat) (x : Value) : OwnDf B (W.setCell ⟨c, i, none⟩ x) v rs := by
  obtain ⟨b, f, h1, h2, h3, h4⟩ := h
  exact ⟨b, f, h1, h2, h3.setOther (show b ≠ c by omega) x, h4⟩
theorem OwnDf.mono {B C : Nat} {W : World} {v : Value} {rs : List Dff} (h : OwnDf B W v rs) (hC : C ≤ B) : OwnDf C W v rs := by
  obtain ⟨b, f, h1, h2⟩ := h
  exact ⟨b, f, by omega, h2⟩
set_option maxHeartbeats 2000000 in
theorem toDfs_any (v : Value) (rs : List Dff) (w : World) (h : RowDf w v rs) (hG : BdDf 1048576 rs) :
    Calls Tryd.prog 13 #[v] w fun e w' => ∃ v', e = .returned v' ∧ OwnDf w.heap.size w' v' rs ∧ Below w.heap.size w w' := by
  have hlen := hG.len
  obtain ⟨a, cap, rfl⟩ := h.val
  have H : Hid (RowDf w (.slice a rs.length cap) rs ∧ BdDf 1048576 rs) := ⟨h, hG⟩
  clear h hG
  obtain ⟨M, hM, hMs⟩ : ∃ M : Array Value, madeCells #[.int .i64 0, .string ⟨#[]⟩, .string ⟨#[]⟩, .int .i64 0, .string ⟨#[]⟩, .int .i64 0] (rs.length * 6) = M ∧ M.size = rs.length * 6 := ⟨_, rfl, size_madeCells _ _⟩
  have hmk := run_make_Df rs.length hlen
  rw [hM] at hmk
  obtain ⟨f0, hf0⟩ := fl_row w M 70 (rs.length * 6) hMs
  have HF0 : Hid ((w.alloc (.cells M 70)).rowIs w.heap.size 70 (rs.length * 6) f0) := hf0
  clear hM hMs hf0
  go_enter Tryd.func13, Tryd.ntmps13
  go_wp2
  go_loopw [4] (fun i wr => ∃ (k : Nat) (f : Nat → Value), i = .int .i64 (k : Int) ∧ k ≤ rs.length ∧ wr.rowIs w.heap.size 70 (rs.length * 6) f ∧ (∀ (j : Nat) (g : Dff), j < k → rs[j]? = some g → f (j * 6) = .int .i64 g.kind ∧ f (j * 6 + 1) = .string g.partner ∧ f (j * 6 + 2) = .string g.ref ∧ f (j * 6 + 3) = .int .i64 g.no ∧ f (j * 6 + 4) = .string g.item ∧ f (j * 6 + 5) = .int .i64 g.qty) ∧ Below w.heap.size w wr) (fun i _ => rs.length - (intOf i).toNat)
  case atStart => exact ⟨0, f0, rfl, by omega, HF0.out, fun j e hj => by omega, (Below.refl _ _).alloc (Nat.le_refl _) _⟩
  case round =>
    obtain ⟨k, f, rfl, hk, hR, hA, hb⟩ := hrel
    by_cases hlt : k < rs.length
    · have hlt' : (k : Int) < (rs.length : Int) := by omega
      obtain ⟨b, o, cap', g, ee, hs, ⟨q0, q1, q2, q3, q4, q5⟩, hsz⟩ := (H.out.1.below hb).at hlt
      simp only [Value.slice.injEq, true_and] at ee
      obtain ⟨rfl, rfl⟩ := ee
      have HS : Hid (rs[k]? = some g ∧ wr.rowIs w.heap.size 70 (rs.length * 6) f ∧ (∀ (j : Nat) (g : Dff), j < k → rs[j]? = some g → f (j * 6) = .int .i64 g.kind ∧ f (j * 6 + 1) = .string g.partner ∧ f (j * 6 + 2) = .string g.ref ∧ f (j * 6 + 3) = .int .i64 g.no ∧ f (j * 6 + 4) = .string g.item ∧ f (j * 6 + 5) = .int .i64 g.qty) ∧ Below w.heap.size w wr) := ⟨hs, hR, hA, hb⟩
      clear hs hR hA hb
      go_wp2_with fail
      refine (toDf_any g _).mono ?_
      rintro ee w1 ⟨rfl, hb1⟩
      have hlt0 := HS.out.2.1.lt
      have hR1 : w1.rowIs w.heap.size 70 (rs.length * 6) f := HS.out.2.1.of_block (hb1.block _ hlt0)
      have hfz := hR1.frozen
      have k0 := hR1.cell (i := k * 6) (by omega)
      have k1 := hR1.cell (i := k * 6 + 1) (by omega)
      have k2 := hR1.cell (i := k * 6 + 2) (by omega)
      have k3 := hR1.cell (i := k * 6 + 3) (by omega)
      have k4 := hR1.cell (i := k * 6 + 4) (by omega)
      have k5 := hR1.cell (i := k * 6 + 5) (by omega)
      have H1 : Hid (rs[k]? = some g ∧ w1.rowIs w.heap.size 70 (rs.length * 6) f ∧ (∀ (j : Nat) (g : Dff), j < k → rs[j]? = some g → f (j * 6) = .int .i64 g.kind ∧ f (j * 6 + 1) = .string g.partner ∧ f (j * 6 + 2) = .string g.ref ∧ f (j * 6 + 3) = .int .i64 g.no ∧ f (j * 6 + 4) = .string g.item ∧ f (j * 6 + 5) = .int .i64 g.qty) ∧ Below w.heap.size w w1) := ⟨HS.out.1, hR1, HS.out.2.2.1, HS.out.2.2.2.trans (hb1.mono HS.out.2.2.2.size)⟩
      clear HS hR1 hb1
      go_wp2
      go_roundw
      case rel =>
        refine ⟨k + 1, _, by go_num, by omega, ((((((H1.out.2.1.set (k * 6) (.int .i64 g.kind)).set (k * 6 + 1) (.string g.partner)).set (k * 6 + 2) (.string g.ref)).set (k * 6 + 3) (.int .i64 g.no)).set (k * 6 + 4) (.string g.item)).set (k * 6 + 5) (.int .i64 g.qty)), fun j t hj ht => ?_, ((((((H1.out.2.2.2.setCell (Nat.le_refl _) _).setCell (Nat.le_refl _) _).setCell (Nat.le_refl _) _).setCell (Nat.le_refl _) _).setCell (Nat.le_refl _) _).setCell (Nat.le_refl _) _)⟩
        by_cases e1 : j = k
        · subst e1
          rw [H1.out.1] at ht
          cases ht
          refine ⟨?_, ?_, ?_, ?_, ?_, ?_⟩
          · rw [if_neg (by omega), if_neg (by omega), if_neg (by omega), if_neg (by omega), if_neg (by omega), if_pos rfl]
          · rw [if_neg (by omega), if_neg (by omega), if_neg (by omega), if_neg (by omega), if_pos rfl]
          · rw [if_neg (by omega), if_neg (by omega), if_neg (by omega), if_pos rfl]
          · rw [if_neg (by omega), if_neg (by omega), if_pos rfl]
          · rw [if_neg (by omega), if_pos rfl]
          · rw [if_pos rfl]
        · obtain ⟨r0, r1, r2, r3, r4, r5⟩ := H1.out.2.2.1 j t (by omega) ht
          refine ⟨?_, ?_, ?_, ?_, ?_, ?_⟩
          all_goals rw [if_neg (by omega), if_neg (by omega), if_neg (by omega), if_neg (by omega), if_neg (by omega), if_neg (by omega)]
          all_goals assumption
      case measure => simp [intOf]; omega
    · obtain rfl : k = rs.length := by omega
      have HS : Hid (wr.rowIs w.heap.size 70 (rs.length * 6) f ∧ (∀ (j : Nat) (g : Dff), j < rs.length → rs[j]? = some g → f (j * 6) = .int .i64 g.kind ∧ f (j * 6 + 1) = .string g.partner ∧ f (j * 6 + 2) = .string g.ref ∧ f (j * 6 + 3) = .int .i64 g.no ∧ f (j * 6 + 4) = .string g.item ∧ f (j * 6 + 5) = .int .i64 g.qty) ∧ Below w.heap.size w wr) := ⟨hR, hA, hb⟩
      clear hR hA hb
      go_wp2
      go_ret
      exact ⟨_, rfl, ⟨w.heap.size, f, Nat.le_refl _, rfl, HS.out.1, fun i e hi => HS.out.2.1 i e (List.getElem?_eq_some_iff.1 hi).1 hi⟩, HS.out.2.2⟩
end Go.Proofs.YtoccmgoglkdcpaaDoor
