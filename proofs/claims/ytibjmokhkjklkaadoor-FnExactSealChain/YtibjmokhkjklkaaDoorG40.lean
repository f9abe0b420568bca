/- Texts of ours put together: ToEv. -/
import Derived.Test.YtibjmokhkjklkaaDoorG01
import Derived.Test.YtibjmokhkjklkaaDoorG39
namespace Go.Proofs.YtibjmokhkjklkaaDoor
open Go.ChangeShapes Go.WideShapes Go.ChangeAt Go.RowKit
theorem infoEv : (Tryd.prog.info? 40).map (fun i => (i.zero, i.size, i.bytes)) = some (some (.agg #[.int .i64 0, .string ⟨#[]⟩, .string ⟨#[]⟩, .string ⟨#[]⟩]), 4, 56) := by kernel_rfl
theorem run_make_Ev (n : Nat) (hn : n ≤ 1048576) (w : World) : (Instr.makeSlice 26 (.int .i64 (n : Int)) (.int .i64 (n : Int))).run Tryd.prog w = .ok (.slice (some ⟨w.heap.size, 0, none⟩) n n) (w.alloc (.cells (madeCells #[.int .i64 0, .string ⟨#[]⟩, .string ⟨#[]⟩, .string ⟨#[]⟩] (n * 4)) 40)) := by
  obtain ⟨i0, hi, hz0, hz1, hz2⟩ := info_parts infoEv
  have h := run_make (P := Tryd.prog) w 26 40 i0 (.agg #[.int .i64 0, .string ⟨#[]⟩, .string ⟨#[]⟩, .string ⟨#[]⟩]) Tryd.underlying26 hi hz0 .i64 .i64 (n : Int) (n : Int) (by omega) (by omega) (by rw [hz2]; omega) (by omega)
  rw [hz1] at h
  simpa [Value.cells] using h
/-- A list in a block of its own, not below B. -/
def OwnEv (B : Nat) (W : World) (v : Value) (rs : List EvR) : Prop := ∃ (b : Nat) (f : Nat → Value), B ≤ b ∧ v = .slice (some ⟨b, 0, none⟩) rs.length rs.length ∧ W.rowIs b 40 (rs.length * 4) f ∧ ∀ (i : Nat) (g : EvR), rs[i]? = some g → f (i * 4) = .int .i64 g.kind ∧ f (i * 4 + 1) = .string g.a ∧ f (i * 4 + 2) = .string g.b ∧ f (i * 4 + 3) = .string g.c
theorem OwnEv.lst {B : Nat} {W : World} {v : Value} {rs : List EvR} (h : OwnEv B W v rs) (hG : BdEv 1048576 rs) : ∃ b, B ≤ b ∧ LEv b W v rs := by
  obtain ⟨b, f, h1, h2, h3, h4⟩ := h
  have hl := hG.len
  exact ⟨b, h1, ⟨_, _, h2, fun _ => ⟨rfl, _, f, h3, Nat.le_refl _, h4⟩⟩, by omega, fun i g hi => by have := hG.2 i g hi; omega⟩
theorem OwnEv.row {B : Nat} {W : World} {v : Value} {rs : List EvR} (h : OwnEv B W v rs) (hG : BdEv 1048576 rs) : RowEv W v rs := by
  obtain ⟨b, _, h⟩ := h.lst hG
  exact h.row
theorem OwnEv.below {B : Nat} {W W' : World} {v : Value} {rs : List EvR} (h : OwnEv B W v rs) (hb : Below W.heap.size W W') : OwnEv B W' v rs := by
  obtain ⟨b, f, h1, h2, h3, h4⟩ := h
  exact ⟨b, f, h1, h2, h3.of_block (hb.block b h3.lt), h4⟩
theorem OwnEv.setAt {B c : Nat} {W : World} {v : Value} {rs : List EvR} (h : OwnEv B W v rs) (hc : c < B) (i : Nat) (x : Value) : OwnEv B (W.setCell ⟨c, i, none⟩ x) v rs := by
  obtain ⟨b, f, h1, h2, h3, h4⟩ := h
  exact ⟨b, f, h1, h2, h3.setOther (show b ≠ c by omega) x, h4⟩
theorem OwnEv.mono {B C : Nat} {W : World} {v : Value} {rs : List EvR} (h : OwnEv B W v rs) (hC : C ≤ B) : OwnEv C W v rs := by
  obtain ⟨b, f, h1, h2⟩ := h
  exact ⟨b, f, by omega, h2⟩
set_option maxHeartbeats 2000000 in
theorem toEvs_any (v : Value) (rs : List EvR) (w : World) (h : RowEv w v rs) (hG : BdEv 1048576 rs) :
    Calls Tryd.prog 8 #[v] w fun e w' => ∃ v', e = .returned v' ∧ OwnEv w.heap.size w' v' rs ∧ Below w.heap.size w w' := by
  have hlen := hG.len
  obtain ⟨a, cap, rfl⟩ := h.val
  have H : Hid (RowEv w (.slice a rs.length cap) rs ∧ BdEv 1048576 rs) := ⟨h, hG⟩
  clear h hG
  obtain ⟨M, hM, hMs⟩ : ∃ M : Array Value, madeCells #[.int .i64 0, .string ⟨#[]⟩, .string ⟨#[]⟩, .string ⟨#[]⟩] (rs.length * 4) = M ∧ M.size = rs.length * 4 := ⟨_, rfl, size_madeCells _ _⟩
  have hmk := run_make_Ev rs.length hlen
  rw [hM] at hmk
  obtain ⟨f0, hf0⟩ := fl_row w M 40 (rs.length * 4) hMs
  have HF0 : Hid ((w.alloc (.cells M 40)).rowIs w.heap.size 40 (rs.length * 4) f0) := hf0
  clear hM hMs hf0
  go_enter Tryd.func8, Tryd.ntmps8
  go_wp2
  go_loopw [4] (fun i wr => ∃ (k : Nat) (f : Nat → Value), i = .int .i64 (k : Int) ∧ k ≤ rs.length ∧ wr.rowIs w.heap.size 40 (rs.length * 4) f ∧ (∀ (j : Nat) (g : EvR), j < k → rs[j]? = some g → f (j * 4) = .int .i64 g.kind ∧ f (j * 4 + 1) = .string g.a ∧ f (j * 4 + 2) = .string g.b ∧ f (j * 4 + 3) = .string g.c) ∧ Below w.heap.size w wr) (fun i _ => rs.length - (intOf i).toNat)
  case atStart => exact ⟨0, f0, rfl, by omega, HF0.out, fun j e hj => by omega, (Below.refl _ _).alloc (Nat.le_refl _) _⟩
  case round =>
    obtain ⟨k, f, rfl, hk, hR, hA, hb⟩ := hrel
    by_cases hlt : k < rs.length
    · have hlt' : (k : Int) < (rs.length : Int) := by omega
      obtain ⟨b, o, cap', g, ee, hs, ⟨q0, q1, q2, q3⟩, hsz⟩ := (H.out.1.below hb).at hlt
      simp only [Value.slice.injEq, true_and] at ee
      obtain ⟨rfl, rfl⟩ := ee
      have HS : Hid (rs[k]? = some g ∧ wr.rowIs w.heap.size 40 (rs.length * 4) f ∧ (∀ (j : Nat) (g : EvR), j < k → rs[j]? = some g → f (j * 4) = .int .i64 g.kind ∧ f (j * 4 + 1) = .string g.a ∧ f (j * 4 + 2) = .string g.b ∧ f (j * 4 + 3) = .string g.c) ∧ Below w.heap.size w wr) := ⟨hs, hR, hA, hb⟩
      clear hs hR hA hb
      go_wp2_with fail
      refine (toEv_any g _).mono ?_
      rintro ee w1 ⟨rfl, hb1⟩
      have hlt0 := HS.out.2.1.lt
      have hR1 : w1.rowIs w.heap.size 40 (rs.length * 4) f := HS.out.2.1.of_block (hb1.block _ hlt0)
      have hfz := hR1.frozen
      have k0 := hR1.cell (i := k * 4) (by omega)
      have k1 := hR1.cell (i := k * 4 + 1) (by omega)
      have k2 := hR1.cell (i := k * 4 + 2) (by omega)
      have k3 := hR1.cell (i := k * 4 + 3) (by omega)
      have H1 : Hid (rs[k]? = some g ∧ w1.rowIs w.heap.size 40 (rs.length * 4) f ∧ (∀ (j : Nat) (g : EvR), j < k → rs[j]? = some g → f (j * 4) = .int .i64 g.kind ∧ f (j * 4 + 1) = .string g.a ∧ f (j * 4 + 2) = .string g.b ∧ f (j * 4 + 3) = .string g.c) ∧ Below w.heap.size w w1) := ⟨HS.out.1, hR1, HS.out.2.2.1, HS.out.2.2.2.trans (hb1.mono HS.out.2.2.2.size)⟩
      clear HS hR1 hb1
      go_wp2
      go_roundw
      case rel =>
        refine ⟨k + 1, _, by go_num, by omega, ((((H1.out.2.1.set (k * 4) (.int .i64 g.kind)).set (k * 4 + 1) (.string g.a)).set (k * 4 + 2) (.string g.b)).set (k * 4 + 3) (.string g.c)), fun j t hj ht => ?_, ((((H1.out.2.2.2.setCell (Nat.le_refl _) _).setCell (Nat.le_refl _) _).setCell (Nat.le_refl _) _).setCell (Nat.le_refl _) _)⟩
        by_cases e1 : j = k
        · subst e1
          rw [H1.out.1] at ht
          cases ht
          refine ⟨?_, ?_, ?_, ?_⟩
          · rw [if_neg (by omega), if_neg (by omega), if_neg (by omega), if_pos rfl]
          · rw [if_neg (by omega), if_neg (by omega), if_pos rfl]
          · rw [if_neg (by omega), if_pos rfl]
          · rw [if_pos rfl]
        · obtain ⟨r0, r1, r2, r3⟩ := H1.out.2.2.1 j t (by omega) ht
          refine ⟨?_, ?_, ?_, ?_⟩
          all_goals rw [if_neg (by omega), if_neg (by omega), if_neg (by omega), if_neg (by omega)]
          all_goals assumption
      case measure => simp [intOf]; omega
    · obtain rfl : k = rs.length := by omega
      have HS : Hid (wr.rowIs w.heap.size 40 (rs.length * 4) f ∧ (∀ (j : Nat) (g : EvR), j < rs.length → rs[j]? = some g → f (j * 4) = .int .i64 g.kind ∧ f (j * 4 + 1) = .string g.a ∧ f (j * 4 + 2) = .string g.b ∧ f (j * 4 + 3) = .string g.c) ∧ Below w.heap.size w wr) := ⟨hR, hA, hb⟩
      clear hR hA hb
      go_wp2
      go_ret
      exact ⟨_, rfl, ⟨w.heap.size, f, Nat.le_refl _, rfl, HS.out.1, fun i e hi => HS.out.2.1 i e (List.getElem?_eq_some_iff.1 hi).1 hi⟩, HS.out.2.2⟩
end Go.Proofs.YtibjmokhkjklkaaDoor
