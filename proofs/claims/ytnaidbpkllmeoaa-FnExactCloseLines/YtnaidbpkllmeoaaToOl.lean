/- The copies of OrderLine: they read as what they were made of, and nothing that was there is written. -/
import Derived.Test.YtnaidbpkllmeoaaRowOl
namespace Go.Proofs.Ytnaidbpkllmeoaa
open Go.ChangeShapes Go.WideShapes Go.ChangeAt Go.RowKit
theorem infoOl : (Try.prog.info? 26).map (fun i => (i.zero, i.size, i.bytes)) = some (some (.agg #[.string ⟨#[]⟩, .string ⟨#[]⟩, .int .i64 0, .string ⟨#[]⟩, .int .i64 0, .int .i64 0, .int .i64 0, .int .i64 0]), 8, 88) := by kernel_rfl
theorem run_make_Ol (n : Nat) (hn : n ≤ 1048576) (w : World) : (Instr.makeSlice 34 (.int .i64 (n : Int)) (.int .i64 (n : Int))).run Try.prog w = .ok (.slice (some ⟨w.heap.size, 0, none⟩) n n) (w.alloc (.cells (madeCells #[.string ⟨#[]⟩, .string ⟨#[]⟩, .int .i64 0, .string ⟨#[]⟩, .int .i64 0, .int .i64 0, .int .i64 0, .int .i64 0] (n * 8)) 26)) := by
  obtain ⟨i0, hi, hz0, hz1, hz2⟩ := info_parts infoOl
  have h := run_make (P := Try.prog) w 34 26 i0 (.agg #[.string ⟨#[]⟩, .string ⟨#[]⟩, .int .i64 0, .string ⟨#[]⟩, .int .i64 0, .int .i64 0, .int .i64 0, .int .i64 0]) Try.underlying34 hi hz0 .i64 .i64 (n : Int) (n : Int) (by omega) (by omega) (by rw [hz2]; omega) (by omega)
  rw [hz1] at h
  simpa [Value.cells] using h
set_option maxHeartbeats 1000000 in
theorem toOl_any (g : OLn) (w : World) :
    Calls Try.prog 10 #[.agg #[.string g.partner, .string g.ref, .int .i64 g.no, .string g.item, .int .i64 g.ordered, .int .i64 g.sent, .int .i64 g.got, .int .i64 g.cut]] w fun e w' => e = .returned (.agg #[.string g.partner, .string g.ref, .int .i64 g.no, .string g.item, .int .i64 g.ordered, .int .i64 g.sent, .int .i64 g.got, .int .i64 g.cut]) ∧ Below w.heap.size w w' := by
  obtain ⟨partner, ref, no, item, ordered, sent, got, cut⟩ := g
  dsimp only
  go_enter Try.func10, Try.ntmps10
  go_wp2
  exact bodyPost_ret (v := .agg #[.string partner, .string ref, .int .i64 no, .string item, .int .i64 ordered, .int .i64 sent, .int .i64 got, .int .i64 cut]) (by simp [results, Try.results10, go_sem]) rfl ⟨rfl, (((Below.refl _ _).alloc (Nat.le_refl _) _).alloc (by simp) _).alloc (by simp; omega) _⟩
/-- A list in a block of its own, not below B. -/
def OwnOl (B : Nat) (W : World) (v : Value) (rs : List OLn) : Prop := ∃ (b : Nat) (f : Nat → Value), B ≤ b ∧ v = .slice (some ⟨b, 0, none⟩) rs.length rs.length ∧ W.rowIs b 26 (rs.length * 8) f ∧ ∀ (i : Nat) (g : OLn), rs[i]? = some g → f (i * 8) = .string g.partner ∧ f (i * 8 + 1) = .string g.ref ∧ f (i * 8 + 2) = .int .i64 g.no ∧ f (i * 8 + 3) = .string g.item ∧ f (i * 8 + 4) = .int .i64 g.ordered ∧ f (i * 8 + 5) = .int .i64 g.sent ∧ f (i * 8 + 6) = .int .i64 g.got ∧ f (i * 8 + 7) = .int .i64 g.cut
theorem OwnOl.lst {B : Nat} {W : World} {v : Value} {rs : List OLn} (h : OwnOl B W v rs) (hG : BdOl 1048576 rs) : ∃ b, B ≤ b ∧ LOl b W v rs := by
  obtain ⟨b, f, h1, h2, h3, h4⟩ := h
  have hl := hG.len
  exact ⟨b, h1, ⟨_, _, h2, fun _ => ⟨rfl, _, f, h3, Nat.le_refl _, h4⟩⟩, by omega, fun i g hi => by have := hG.2 i g hi; omega⟩
theorem OwnOl.row {B : Nat} {W : World} {v : Value} {rs : List OLn} (h : OwnOl B W v rs) (hG : BdOl 1048576 rs) : RowOl W v rs := by
  obtain ⟨b, _, h⟩ := h.lst hG
  exact h.row
theorem OwnOl.below {B : Nat} {W W' : World} {v : Value} {rs : List OLn} (h : OwnOl B W v rs) (hb : Below W.heap.size W W') : OwnOl B W' v rs := by
  obtain ⟨b, f, h1, h2, h3, h4⟩ := h
  exact ⟨b, f, h1, h2, h3.of_block (hb.block b h3.lt), h4⟩
theorem OwnOl.setAt {B c : Nat} {W : World} {v : Value} {rs : List OLn} (h : OwnOl B W v rs) (hc : c < B) (i : Nat) (x : Value) : OwnOl B (W.setCell ⟨c, i, none⟩ x) v rs := by
  obtain ⟨b, f, h1, h2, h3, h4⟩ := h
  exact ⟨b, f, h1, h2, h3.setOther (show b ≠ c by omega) x, h4⟩
theorem OwnOl.mono {B C : Nat} {W : World} {v : Value} {rs : List OLn} (h : OwnOl B W v rs) (hC : C ≤ B) : OwnOl C W v rs := by
  obtain ⟨b, f, h1, h2⟩ := h
  exact ⟨b, f, by omega, h2⟩
set_option maxHeartbeats 2000000 in
theorem toOls_any (v : Value) (rs : List OLn) (w : World) (h : RowOl w v rs) (hG : BdOl 1048576 rs) :
    Calls Try.prog 14 #[v] w fun e w' => ∃ v', e = .returned v' ∧ OwnOl w.heap.size w' v' rs ∧ Below w.heap.size w w' := by
  have hlen := hG.len
  obtain ⟨a, cap, rfl⟩ := h.val
  have H : Hid (RowOl w (.slice a rs.length cap) rs ∧ BdOl 1048576 rs) := ⟨h, hG⟩
  clear h hG
  obtain ⟨M, hM, hMs⟩ : ∃ M : Array Value, madeCells #[.string ⟨#[]⟩, .string ⟨#[]⟩, .int .i64 0, .string ⟨#[]⟩, .int .i64 0, .int .i64 0, .int .i64 0, .int .i64 0] (rs.length * 8) = M ∧ M.size = rs.length * 8 := ⟨_, rfl, size_madeCells _ _⟩
  have hmk := run_make_Ol rs.length hlen
  rw [hM] at hmk
  obtain ⟨f0, hf0⟩ := fl_row w M 26 (rs.length * 8) hMs
  have HF0 : Hid ((w.alloc (.cells M 26)).rowIs w.heap.size 26 (rs.length * 8) f0) := hf0
  clear hM hMs hf0
  go_enter Try.func14, Try.ntmps14
  go_wp2
  go_loopw [4] (fun i wr => ∃ (k : Nat) (f : Nat → Value), i = .int .i64 (k : Int) ∧ k ≤ rs.length ∧ wr.rowIs w.heap.size 26 (rs.length * 8) f ∧ (∀ (j : Nat) (g : OLn), j < k → rs[j]? = some g → f (j * 8) = .string g.partner ∧ f (j * 8 + 1) = .string g.ref ∧ f (j * 8 + 2) = .int .i64 g.no ∧ f (j * 8 + 3) = .string g.item ∧ f (j * 8 + 4) = .int .i64 g.ordered ∧ f (j * 8 + 5) = .int .i64 g.sent ∧ f (j * 8 + 6) = .int .i64 g.got ∧ f (j * 8 + 7) = .int .i64 g.cut) ∧ Below w.heap.size w wr) (fun i _ => rs.length - (intOf i).toNat)
  case atStart => exact ⟨0, f0, rfl, by omega, HF0.out, fun j e hj => by omega, (Below.refl _ _).alloc (Nat.le_refl _) _⟩
  case round =>
    obtain ⟨k, f, rfl, hk, hR, hA, hb⟩ := hrel
    by_cases hlt : k < rs.length
    · have hlt' : (k : Int) < (rs.length : Int) := by omega
      obtain ⟨b, o, cap', g, ee, hs, ⟨q0, q1, q2, q3, q4, q5, q6, q7⟩, hsz⟩ := (H.out.1.below hb).at hlt
      simp only [Value.slice.injEq, true_and] at ee
      obtain ⟨rfl, rfl⟩ := ee
      have HS : Hid (rs[k]? = some g ∧ wr.rowIs w.heap.size 26 (rs.length * 8) f ∧ (∀ (j : Nat) (g : OLn), j < k → rs[j]? = some g → f (j * 8) = .string g.partner ∧ f (j * 8 + 1) = .string g.ref ∧ f (j * 8 + 2) = .int .i64 g.no ∧ f (j * 8 + 3) = .string g.item ∧ f (j * 8 + 4) = .int .i64 g.ordered ∧ f (j * 8 + 5) = .int .i64 g.sent ∧ f (j * 8 + 6) = .int .i64 g.got ∧ f (j * 8 + 7) = .int .i64 g.cut) ∧ Below w.heap.size w wr) := ⟨hs, hR, hA, hb⟩
      clear hs hR hA hb
      go_wp2_with fail
      refine (toOl_any g _).mono ?_
      rintro ee w1 ⟨rfl, hb1⟩
      have hlt0 := HS.out.2.1.lt
      have hR1 : w1.rowIs w.heap.size 26 (rs.length * 8) f := HS.out.2.1.of_block (hb1.block _ hlt0)
      have hfz := hR1.frozen
      have k0 := hR1.cell (i := k * 8) (by omega)
      have k1 := hR1.cell (i := k * 8 + 1) (by omega)
      have k2 := hR1.cell (i := k * 8 + 2) (by omega)
      have k3 := hR1.cell (i := k * 8 + 3) (by omega)
      have k4 := hR1.cell (i := k * 8 + 4) (by omega)
      have k5 := hR1.cell (i := k * 8 + 5) (by omega)
      have k6 := hR1.cell (i := k * 8 + 6) (by omega)
      have k7 := hR1.cell (i := k * 8 + 7) (by omega)
      have H1 : Hid (rs[k]? = some g ∧ w1.rowIs w.heap.size 26 (rs.length * 8) f ∧ (∀ (j : Nat) (g : OLn), j < k → rs[j]? = some g → f (j * 8) = .string g.partner ∧ f (j * 8 + 1) = .string g.ref ∧ f (j * 8 + 2) = .int .i64 g.no ∧ f (j * 8 + 3) = .string g.item ∧ f (j * 8 + 4) = .int .i64 g.ordered ∧ f (j * 8 + 5) = .int .i64 g.sent ∧ f (j * 8 + 6) = .int .i64 g.got ∧ f (j * 8 + 7) = .int .i64 g.cut) ∧ Below w.heap.size w w1) := ⟨HS.out.1, hR1, HS.out.2.2.1, HS.out.2.2.2.trans (hb1.mono HS.out.2.2.2.size)⟩
      clear HS hR1 hb1
      go_wp2
      go_roundw
      case rel =>
        refine ⟨k + 1, _, by go_num, by omega, ((((((((H1.out.2.1.set (k * 8) (.string g.partner)).set (k * 8 + 1) (.string g.ref)).set (k * 8 + 2) (.int .i64 g.no)).set (k * 8 + 3) (.string g.item)).set (k * 8 + 4) (.int .i64 g.ordered)).set (k * 8 + 5) (.int .i64 g.sent)).set (k * 8 + 6) (.int .i64 g.got)).set (k * 8 + 7) (.int .i64 g.cut)), fun j t hj ht => ?_, ((((((((H1.out.2.2.2.setCell (Nat.le_refl _) _).setCell (Nat.le_refl _) _).setCell (Nat.le_refl _) _).setCell (Nat.le_refl _) _).setCell (Nat.le_refl _) _).setCell (Nat.le_refl _) _).setCell (Nat.le_refl _) _).setCell (Nat.le_refl _) _)⟩
        by_cases e1 : j = k
        · subst e1
          rw [H1.out.1] at ht
          cases ht
          refine ⟨?_, ?_, ?_, ?_, ?_, ?_, ?_, ?_⟩
          · rw [if_neg (by omega), if_neg (by omega), if_neg (by omega), if_neg (by omega), if_neg (by omega), if_neg (by omega), if_neg (by omega), if_pos rfl]
          · rw [if_neg (by omega), if_neg (by omega), if_neg (by omega), if_neg (by omega), if_neg (by omega), if_neg (by omega), if_pos rfl]
          · rw [if_neg (by omega), if_neg (by omega), if_neg (by omega), if_neg (by omega), if_neg (by omega), if_pos rfl]
          · rw [if_neg (by omega), if_neg (by omega), if_neg (by omega), if_neg (by omega), if_pos rfl]
          · rw [if_neg (by omega), if_neg (by omega), if_neg (by omega), if_pos rfl]
          · rw [if_neg (by omega), if_neg (by omega), if_pos rfl]
          · rw [if_neg (by omega), if_pos rfl]
          · rw [if_pos rfl]
        · obtain ⟨r0, r1, r2, r3, r4, r5, r6, r7⟩ := H1.out.2.2.1 j t (by omega) ht
          refine ⟨?_, ?_, ?_, ?_, ?_, ?_, ?_, ?_⟩
          all_goals rw [if_neg (by omega), if_neg (by omega), if_neg (by omega), if_neg (by omega), if_neg (by omega), if_neg (by omega), if_neg (by omega), if_neg (by omega)]
          all_goals assumption
      case measure => simp [intOf]; omega
    · obtain rfl : k = rs.length := by omega
      have HS : Hid (wr.rowIs w.heap.size 26 (rs.length * 8) f ∧ (∀ (j : Nat) (g : OLn), j < rs.length → rs[j]? = some g → f (j * 8) = .string g.partner ∧ f (j * 8 + 1) = .string g.ref ∧ f (j * 8 + 2) = .int .i64 g.no ∧ f (j * 8 + 3) = .string g.item ∧ f (j * 8 + 4) = .int .i64 g.ordered ∧ f (j * 8 + 5) = .int .i64 g.sent ∧ f (j * 8 + 6) = .int .i64 g.got ∧ f (j * 8 + 7) = .int .i64 g.cut) ∧ Below w.heap.size w wr) := ⟨hR, hA, hb⟩
      clear hR hA hb
      go_wp2
      go_ret
      exact ⟨_, rfl, ⟨w.heap.size, f, Nat.le_refl _, rfl, HS.out.1, fun i e hi => HS.out.2.1 i e (List.getElem?_eq_some_iff.1 hi).1 hi⟩, HS.out.2.2⟩
end Go.Proofs.Ytnaidbpkllmeoaa
