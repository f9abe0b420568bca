/- The copies of Cross: they read as what they were made of, and nothing that was there is written. -/
import Derived.Test.YtkpmkahloommoaaRowCs
namespace Go.Proofs.Ytkpmkahloommoaa
open Go.ChangeShapes Go.WideShapes Go.ChangeAt Go.RowKit
theorem infoCs : (Try.prog.info? 33).map (fun i => (i.zero, i.size, i.bytes)) = some (some (.agg #[.string ⟨#[]⟩, .string ⟨#[]⟩, .string ⟨#[]⟩]), 3, 48) := by kernel_rfl
theorem run_make_Cs (n : Nat) (hn : n ≤ 1048576) (w : World) : (Instr.makeSlice 25 (.int .i64 (n : Int)) (.int .i64 (n : Int))).run Try.prog w = .ok (.slice (some ⟨w.heap.size, 0, none⟩) n n) (w.alloc (.cells (madeCells #[.string ⟨#[]⟩, .string ⟨#[]⟩, .string ⟨#[]⟩] (n * 3)) 33)) := by
  obtain ⟨i0, hi, hz0, hz1, hz2⟩ := info_parts infoCs
  have h := run_make (P := Try.prog) w 25 33 i0 (.agg #[.string ⟨#[]⟩, .string ⟨#[]⟩, .string ⟨#[]⟩]) Try.underlying25 hi hz0 .i64 .i64 (n : Int) (n : Int) (by omega) (by omega) (by rw [hz2]; omega) (by omega)
  rw [hz1] at h
  simpa [Value.cells] using h
set_option maxHeartbeats 1000000 in
theorem toCs_any (g : Crs) (w : World) :
    Calls Try.prog 11 #[.agg #[.string g.partner, .string g.theirs, .string g.own]] w fun e w' => e = .returned (.agg #[.string g.partner, .string g.theirs, .string g.own]) ∧ Below w.heap.size w w' := by
  obtain ⟨partner, theirs, own⟩ := g
  dsimp only
  go_enter Try.func11, Try.ntmps11
  go_wp2
  exact bodyPost_ret (v := .agg #[.string partner, .string theirs, .string own]) (by simp [results, Try.results11, go_sem]) rfl ⟨rfl, (((Below.refl _ _).alloc (Nat.le_refl _) _).alloc (by simp) _).alloc (by simp; omega) _⟩
/-- A list in a block of its own, not below B. -/
def OwnCs (B : Nat) (W : World) (v : Value) (rs : List Crs) : Prop := ∃ (b : Nat) (f : Nat → Value), B ≤ b ∧ v = .slice (some ⟨b, 0, none⟩) rs.length rs.length ∧ W.rowIs b 33 (rs.length * 3) f ∧ ∀ (i : Nat) (g : Crs), rs[i]? = some g → f (i * 3) = .string g.partner ∧ f (i * 3 + 1) = .string g.theirs ∧ f (i * 3 + 2) = .string g.own
theorem OwnCs.lst {B : Nat} {W : World} {v : Value} {rs : List Crs} (h : OwnCs B W v rs) (hG : BdCs 1048576 rs) : ∃ b, B ≤ b ∧ LCs b W v rs := by
  obtain ⟨b, f, h1, h2, h3, h4⟩ := h
  have hl := hG.len
  exact ⟨b, h1, ⟨_, _, h2, fun _ => ⟨rfl, _, f, h3, Nat.le_refl _, h4⟩⟩, by omega, fun i g hi => by have := hG.2 i g hi; omega⟩
theorem OwnCs.row {B : Nat} {W : World} {v : Value} {rs : List Crs} (h : OwnCs B W v rs) (hG : BdCs 1048576 rs) : RowCs W v rs := by
  obtain ⟨b, _, h⟩ := h.lst hG
  exact h.row
theorem OwnCs.below {B : Nat} {W W' : World} {v : Value} {rs : List Crs} (h : OwnCs B W v rs) (hb : Below W.heap.size W W') : OwnCs B W' v rs := by
  obtain ⟨b, f, h1, h2, h3, h4⟩ := h
  exact ⟨b, f, h1, h2, h3.of_block (hb.block b h3.lt), h4⟩
theorem OwnCs.setAt {B c : Nat} {W : World} {v : Value} {rs : List Crs} (h : OwnCs B W v rs) (hc : c < B) (i : Nat) (x : Value) : OwnCs B (W.setCell ⟨c, i, none⟩ x) v rs := by
  obtain ⟨b, f, h1, h2, h3, h4⟩ := h
  exact ⟨b, f, h1, h2, h3.setOther (show b ≠ c by omega) x, h4⟩
theorem OwnCs.mono {B C : Nat} {W : World} {v : Value} {rs : List Crs} (h : OwnCs B W v rs) (hC : C ≤ B) : OwnCs C W v rs := by
  obtain ⟨b, f, h1, h2⟩ := h
  exact ⟨b, f, by omega, h2⟩
set_option maxHeartbeats 2000000 in
theorem toCss_any (v : Value) (rs : List Crs) (w : World) (h : RowCs w v rs) (hG : BdCs 1048576 rs) :
    Calls Try.prog 6 #[v] w fun e w' => ∃ v', e = .returned v' ∧ OwnCs w.heap.size w' v' rs ∧ Below w.heap.size w w' := by
  have hlen := hG.len
  obtain ⟨a, cap, rfl⟩ := h.val
  have H : Hid (RowCs w (.slice a rs.length cap) rs ∧ BdCs 1048576 rs) := ⟨h, hG⟩
  clear h hG
  obtain ⟨M, hM, hMs⟩ : ∃ M : Array Value, madeCells #[.string ⟨#[]⟩, .string ⟨#[]⟩, .string ⟨#[]⟩] (rs.length * 3) = M ∧ M.size = rs.length * 3 := ⟨_, rfl, size_madeCells _ _⟩
  have hmk := run_make_Cs rs.length hlen
  rw [hM] at hmk
  obtain ⟨f0, hf0⟩ := fl_row w M 33 (rs.length * 3) hMs
  have HF0 : Hid ((w.alloc (.cells M 33)).rowIs w.heap.size 33 (rs.length * 3) f0) := hf0
  clear hM hMs hf0
  go_enter Try.func6, Try.ntmps6
  go_wp2
  go_loopw [4] (fun i wr => ∃ (k : Nat) (f : Nat → Value), i = .int .i64 (k : Int) ∧ k ≤ rs.length ∧ wr.rowIs w.heap.size 33 (rs.length * 3) f ∧ (∀ (j : Nat) (g : Crs), j < k → rs[j]? = some g → f (j * 3) = .string g.partner ∧ f (j * 3 + 1) = .string g.theirs ∧ f (j * 3 + 2) = .string g.own) ∧ Below w.heap.size w wr) (fun i _ => rs.length - (intOf i).toNat)
  case atStart => exact ⟨0, f0, rfl, by omega, HF0.out, fun j e hj => by omega, (Below.refl _ _).alloc (Nat.le_refl _) _⟩
  case round =>
    obtain ⟨k, f, rfl, hk, hR, hA, hb⟩ := hrel
    by_cases hlt : k < rs.length
    · have hlt' : (k : Int) < (rs.length : Int) := by omega
      obtain ⟨b, o, cap', g, ee, hs, ⟨q0, q1, q2⟩, hsz⟩ := (H.out.1.below hb).at hlt
      simp only [Value.slice.injEq, true_and] at ee
      obtain ⟨rfl, rfl⟩ := ee
      have HS : Hid (rs[k]? = some g ∧ wr.rowIs w.heap.size 33 (rs.length * 3) f ∧ (∀ (j : Nat) (g : Crs), j < k → rs[j]? = some g → f (j * 3) = .string g.partner ∧ f (j * 3 + 1) = .string g.theirs ∧ f (j * 3 + 2) = .string g.own) ∧ Below w.heap.size w wr) := ⟨hs, hR, hA, hb⟩
      clear hs hR hA hb
      go_wp2_with fail
      refine (toCs_any g _).mono ?_
      rintro ee w1 ⟨rfl, hb1⟩
      have hlt0 := HS.out.2.1.lt
      have hR1 : w1.rowIs w.heap.size 33 (rs.length * 3) f := HS.out.2.1.of_block (hb1.block _ hlt0)
      have hfz := hR1.frozen
      have k0 := hR1.cell (i := k * 3) (by omega)
      have k1 := hR1.cell (i := k * 3 + 1) (by omega)
      have k2 := hR1.cell (i := k * 3 + 2) (by omega)
      have H1 : Hid (rs[k]? = some g ∧ w1.rowIs w.heap.size 33 (rs.length * 3) f ∧ (∀ (j : Nat) (g : Crs), j < k → rs[j]? = some g → f (j * 3) = .string g.partner ∧ f (j * 3 + 1) = .string g.theirs ∧ f (j * 3 + 2) = .string g.own) ∧ Below w.heap.size w w1) := ⟨HS.out.1, hR1, HS.out.2.2.1, HS.out.2.2.2.trans (hb1.mono HS.out.2.2.2.size)⟩
      clear HS hR1 hb1
      go_wp2
      go_roundw
      case rel =>
        refine ⟨k + 1, _, by go_num, by omega, (((H1.out.2.1.set (k * 3) (.string g.partner)).set (k * 3 + 1) (.string g.theirs)).set (k * 3 + 2) (.string g.own)), fun j t hj ht => ?_, (((H1.out.2.2.2.setCell (Nat.le_refl _) _).setCell (Nat.le_refl _) _).setCell (Nat.le_refl _) _)⟩
        by_cases e1 : j = k
        · subst e1
          rw [H1.out.1] at ht
          cases ht
          refine ⟨?_, ?_, ?_⟩
          · rw [if_neg (by omega), if_neg (by omega), if_pos rfl]
          · rw [if_neg (by omega), if_pos rfl]
          · rw [if_pos rfl]
        · obtain ⟨r0, r1, r2⟩ := H1.out.2.2.1 j t (by omega) ht
          refine ⟨?_, ?_, ?_⟩
          all_goals rw [if_neg (by omega), if_neg (by omega), if_neg (by omega)]
          all_goals assumption
      case measure => simp [intOf]; omega
    · obtain rfl : k = rs.length := by omega
      have HS : Hid (wr.rowIs w.heap.size 33 (rs.length * 3) f ∧ (∀ (j : Nat) (g : Crs), j < rs.length → rs[j]? = some g → f (j * 3) = .string g.partner ∧ f (j * 3 + 1) = .string g.theirs ∧ f (j * 3 + 2) = .string g.own) ∧ Below w.heap.size w wr) := ⟨hR, hA, hb⟩
      clear hR hA hb
      go_wp2
      go_ret
      exact ⟨_, rfl, ⟨w.heap.size, f, Nat.le_refl _, rfl, HS.out.1, fun i e hi => HS.out.2.1 i e (List.getElem?_eq_some_iff.1 hi).1 hi⟩, HS.out.2.2⟩
end Go.Proofs.Ytkpmkahloommoaa
