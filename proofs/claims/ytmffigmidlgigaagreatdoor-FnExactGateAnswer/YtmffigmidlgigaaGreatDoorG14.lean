/- Texts of ours put together: ToOu. -/
import Derived.Test.YtmffigmidlgigaaGreatDoorG05
namespace Go.Proofs.YtmffigmidlgigaaGreatDoor
open Go.ChangeShapes Go.WideShapes Go.ChangeAt Go.RowKit
theorem infoOu : (Tryz.prog.info? 114).map (fun i => (i.zero, i.size, i.bytes)) = some (some (.agg #[.string ⟨#[]⟩, .int .i64 0, .string ⟨#[]⟩, .int .i64 0, .int .i64 0]), 5, 56) := by kernel_rfl
theorem run_make_Ou (n : Nat) (hn : n ≤ 1048576) (w : World) : (Instr.makeSlice 45 (.int .i64 (n : Int)) (.int .i64 (n : Int))).run Tryz.prog w = .ok (.slice (some ⟨w.heap.size, 0, none⟩) n n) (w.alloc (.cells (madeCells #[.string ⟨#[]⟩, .int .i64 0, .string ⟨#[]⟩, .int .i64 0, .int .i64 0] (n * 5)) 114)) := by
  obtain ⟨i0, hi, hz0, hz1, hz2⟩ := info_parts infoOu
  have h := run_make (P := Tryz.prog) w 45 114 i0 (.agg #[.string ⟨#[]⟩, .int .i64 0, .string ⟨#[]⟩, .int .i64 0, .int .i64 0]) Tryz.underlying45 hi hz0 .i64 .i64 (n : Int) (n : Int) (by omega) (by omega) (by rw [hz2]; omega) (by omega)
  rw [hz1] at h
  simpa [Value.cells] using h
set_option maxHeartbeats 1000000 in
theorem toOu_any (g : OutR) (w : World) :
    Calls Tryz.prog 64 #[.agg #[.string g.partner, .int .i64 g.number, .string g.text, .int .i64 g.tries, .int .i64 g.due]] w fun e w' => e = .returned (.agg #[.string g.partner, .int .i64 g.number, .string g.text, .int .i64 g.tries, .int .i64 g.due]) ∧ Below w.heap.size w w' := by
  obtain ⟨partner, number, text, tries, due⟩ := g
  dsimp only
  go_enter Tryz.func64, Tryz.ntmps64
  go_wp2
  exact bodyPost_ret (v := .agg #[.string partner, .int .i64 number, .string text, .int .i64 tries, .int .i64 due]) (by simp [results, Tryz.results64, go_sem]) rfl ⟨rfl, (((Below.refl _ _).alloc (Nat.le_refl _) _).alloc (by simp) _).alloc (by simp; omega) _⟩
/-- A list in a block of its own, not below B. -/
def OwnOu (B : Nat) (W : World) (v : Value) (rs : List OutR) : Prop := ∃ (b : Nat) (f : Nat → Value), B ≤ b ∧ v = .slice (some ⟨b, 0, none⟩) rs.length rs.length ∧ W.rowIs b 114 (rs.length * 5) f ∧ ∀ (i : Nat) (g : OutR), rs[i]? = some g → f (i * 5) = .string g.partner ∧ f (i * 5 + 1) = .int .i64 g.number ∧ f (i * 5 + 2) = .string g.text ∧ f (i * 5 + 3) = .int .i64 g.tries ∧ f (i * 5 + 4) = .int .i64 g.due
theorem OwnOu.lst {B : Nat} {W : World} {v : Value} {rs : List OutR} (h : OwnOu B W v rs) (hG : BdOu 1048576 rs) : ∃ b, B ≤ b ∧ LOu b W v rs := by
  obtain ⟨b, f, h1, h2, h3, h4⟩ := h
  have hl := hG.len
  exact ⟨b, h1, ⟨_, _, h2, fun _ => ⟨rfl, _, f, h3, Nat.le_refl _, h4⟩⟩, by omega, fun i g hi => by have := hG.2 i g hi; omega⟩
theorem OwnOu.row {B : Nat} {W : World} {v : Value} {rs : List OutR} (h : OwnOu B W v rs) (hG : BdOu 1048576 rs) : RowOu W v rs := by
  obtain ⟨b, _, h⟩ := h.lst hG
  exact h.row
theorem OwnOu.below {B : Nat} {W W' : World} {v : Value} {rs : List OutR} (h : OwnOu B W v rs) (hb : Below W.heap.size W W') : OwnOu B W' v rs := by
  obtain ⟨b, f, h1, h2, h3, h4⟩ := h
  exact ⟨b, f, h1, h2, h3.of_block (hb.block b h3.lt), h4⟩
theorem OwnOu.setAt {B c : Nat} {W : World} {v : Value} {rs : List OutR} (h : OwnOu B W v rs) (hc : c < B) (i : Nat) (x : Value) : OwnOu B (W.setCell ⟨c, i, none⟩ x) v rs := by
  obtain ⟨b, f, h1, h2, h3, h4⟩ := h
  exact ⟨b, f, h1, h2, h3.setOther (show b ≠ c by omega) x, h4⟩
theorem OwnOu.mono {B C : Nat} {W : World} {v : Value} {rs : List OutR} (h : OwnOu B W v rs) (hC : C ≤ B) : OwnOu C W v rs := by
  obtain ⟨b, f, h1, h2⟩ := h
  exact ⟨b, f, by omega, h2⟩
set_option maxHeartbeats 2000000 in
theorem toOus_any (v : Value) (rs : List OutR) (w : World) (h : RowOu w v rs) (hG : BdOu 1048576 rs) :
    Calls Tryz.prog 26 #[v] w fun e w' => ∃ v', e = .returned v' ∧ OwnOu w.heap.size w' v' rs ∧ Below w.heap.size w w' := by
  have hlen := hG.len
  obtain ⟨a, cap, rfl⟩ := h.val
  have H : Hid (RowOu w (.slice a rs.length cap) rs ∧ BdOu 1048576 rs) := ⟨h, hG⟩
  clear h hG
  obtain ⟨M, hM, hMs⟩ : ∃ M : Array Value, madeCells #[.string ⟨#[]⟩, .int .i64 0, .string ⟨#[]⟩, .int .i64 0, .int .i64 0] (rs.length * 5) = M ∧ M.size = rs.length * 5 := ⟨_, rfl, size_madeCells _ _⟩
  have hmk := run_make_Ou rs.length hlen
  rw [hM] at hmk
  obtain ⟨f0, hf0⟩ := fl_row w M 114 (rs.length * 5) hMs
  have HF0 : Hid ((w.alloc (.cells M 114)).rowIs w.heap.size 114 (rs.length * 5) f0) := hf0
  clear hM hMs hf0
  go_enter Tryz.func26, Tryz.ntmps26
  go_wp2
  go_loopw [4] (fun i wr => ∃ (k : Nat) (f : Nat → Value), i = .int .i64 (k : Int) ∧ k ≤ rs.length ∧ wr.rowIs w.heap.size 114 (rs.length * 5) f ∧ (∀ (j : Nat) (g : OutR), j < k → rs[j]? = some g → f (j * 5) = .string g.partner ∧ f (j * 5 + 1) = .int .i64 g.number ∧ f (j * 5 + 2) = .string g.text ∧ f (j * 5 + 3) = .int .i64 g.tries ∧ f (j * 5 + 4) = .int .i64 g.due) ∧ Below w.heap.size w wr) (fun i _ => rs.length - (intOf i).toNat)
  case atStart => exact ⟨0, f0, rfl, by omega, HF0.out, fun j e hj => by omega, (Below.refl _ _).alloc (Nat.le_refl _) _⟩
  case round =>
    obtain ⟨k, f, rfl, hk, hR, hA, hb⟩ := hrel
    by_cases hlt : k < rs.length
    · have hlt' : (k : Int) < (rs.length : Int) := by omega
      obtain ⟨b, o, cap', g, ee, hs, ⟨q0, q1, q2, q3, q4⟩, hsz⟩ := (H.out.1.below hb).at hlt
      simp only [Value.slice.injEq, true_and] at ee
      obtain ⟨rfl, rfl⟩ := ee
      have HS : Hid (rs[k]? = some g ∧ wr.rowIs w.heap.size 114 (rs.length * 5) f ∧ (∀ (j : Nat) (g : OutR), j < k → rs[j]? = some g → f (j * 5) = .string g.partner ∧ f (j * 5 + 1) = .int .i64 g.number ∧ f (j * 5 + 2) = .string g.text ∧ f (j * 5 + 3) = .int .i64 g.tries ∧ f (j * 5 + 4) = .int .i64 g.due) ∧ Below w.heap.size w wr) := ⟨hs, hR, hA, hb⟩
      clear hs hR hA hb
      go_wp2_with fail
      refine (toOu_any g _).mono ?_
      rintro ee w1 ⟨rfl, hb1⟩
      have hlt0 := HS.out.2.1.lt
      have hR1 : w1.rowIs w.heap.size 114 (rs.length * 5) f := HS.out.2.1.of_block (hb1.block _ hlt0)
      have hfz := hR1.frozen
      have k0 := hR1.cell (i := k * 5) (by omega)
      have k1 := hR1.cell (i := k * 5 + 1) (by omega)
      have k2 := hR1.cell (i := k * 5 + 2) (by omega)
      have k3 := hR1.cell (i := k * 5 + 3) (by omega)
      have k4 := hR1.cell (i := k * 5 + 4) (by omega)
      have H1 : Hid (rs[k]? = some g ∧ w1.rowIs w.heap.size 114 (rs.length * 5) f ∧ (∀ (j : Nat) (g : OutR), j < k → rs[j]? = some g → f (j * 5) = .string g.partner ∧ f (j * 5 + 1) = .int .i64 g.number ∧ f (j * 5 + 2) = .string g.text ∧ f (j * 5 + 3) = .int .i64 g.tries ∧ f (j * 5 + 4) = .int .i64 g.due) ∧ Below w.heap.size w w1) := ⟨HS.out.1, hR1, HS.out.2.2.1, HS.out.2.2.2.trans (hb1.mono HS.out.2.2.2.size)⟩
      clear HS hR1 hb1
      go_wp2
      go_roundw
      case rel =>
        refine ⟨k + 1, _, by go_num, by omega, (((((H1.out.2.1.set (k * 5) (.string g.partner)).set (k * 5 + 1) (.int .i64 g.number)).set (k * 5 + 2) (.string g.text)).set (k * 5 + 3) (.int .i64 g.tries)).set (k * 5 + 4) (.int .i64 g.due)), fun j t hj ht => ?_, (((((H1.out.2.2.2.setCell (Nat.le_refl _) _).setCell (Nat.le_refl _) _).setCell (Nat.le_refl _) _).setCell (Nat.le_refl _) _).setCell (Nat.le_refl _) _)⟩
        by_cases e1 : j = k
        · subst e1
          rw [H1.out.1] at ht
          cases ht
          refine ⟨?_, ?_, ?_, ?_, ?_⟩
          · rw [if_neg (by omega), if_neg (by omega), if_neg (by omega), if_neg (by omega), if_pos rfl]
          · rw [if_neg (by omega), if_neg (by omega), if_neg (by omega), if_pos rfl]
          · rw [if_neg (by omega), if_neg (by omega), if_pos rfl]
          · rw [if_neg (by omega), if_pos rfl]
          · rw [if_pos rfl]
        · obtain ⟨r0, r1, r2, r3, r4⟩ := H1.out.2.2.1 j t (by omega) ht
          refine ⟨?_, ?_, ?_, ?_, ?_⟩
          all_goals rw [if_neg (by omega), if_neg (by omega), if_neg (by omega), if_neg (by omega), if_neg (by omega)]
          all_goals assumption
      case measure => simp [intOf]; omega
    · obtain rfl : k = rs.length := by omega
      have HS : Hid (wr.rowIs w.heap.size 114 (rs.length * 5) f ∧ (∀ (j : Nat) (g : OutR), j < rs.length → rs[j]? = some g → f (j * 5) = .string g.partner ∧ f (j * 5 + 1) = .int .i64 g.number ∧ f (j * 5 + 2) = .string g.text ∧ f (j * 5 + 3) = .int .i64 g.tries ∧ f (j * 5 + 4) = .int .i64 g.due) ∧ Below w.heap.size w wr) := ⟨hR, hA, hb⟩
      clear hR hA hb
      go_wp2
      go_ret
      exact ⟨_, rfl, ⟨w.heap.size, f, Nat.le_refl _, rfl, HS.out.1, fun i e hi => HS.out.2.1 i e (List.getElem?_eq_some_iff.1 hi).1 hi⟩, HS.out.2.2⟩
end Go.Proofs.YtmffigmidlgigaaGreatDoor
