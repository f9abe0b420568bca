/- Texts of ours put together: SzBk, ToSt. -/
import Derived.Test.YtjmkdpnoihpfoaaGreatDoorG03
import Derived.Test.YtjmkdpnoihpfoaaGreatDoorG04
import Derived.Test.YtjmkdpnoihpfoaaGreatDoorG01
namespace Go.Proofs.YtjmkdpnoihpfoaaGreatDoor
open Go.ChangeShapes Go.WideShapes Go.ChangeAt Go.RowKit
set_option maxHeartbeats 1000000 in
theorem szBk_any (b : Bk) (us ul : Value) (left : Int) (w : World) (h : RBk w us ul b) (hl : 0 ≤ left ∧ left ≤ 1048576) :
    Calls Tryz.prog 4 #[.agg #[us, ul], .int .i64 left] w fun e w' => ∃ q : Int, e = .returned (.int .i64 q) ∧ (q = -1 ∨ (0 ≤ q ∧ q ≤ left ∧ BdBk left.toNat b)) ∧ Below w.heap.size w w' := by
  obtain ⟨stocks, lines⟩ := b
  obtain ⟨a, cap, a2, cap2, rfl, rfl⟩ := h.val
  dsimp only at h ⊢
  have b0 : Below w.heap.size w (w.alloc (.cells #[.slice a stocks.length cap, .slice a2 lines.length cap2] 25)) := (Below.refl _ _).alloc (Nat.le_refl _) _
  have hbx : (w.alloc (.cells #[.slice a stocks.length cap, .slice a2 lines.length cap2] 25)).heap[w.heap.size]? = some (.cells #[.slice a stocks.length cap, .slice a2 lines.length cap2] 25) := World.alloc_heap_new _ _
  have H : Hid (RowSt (w.alloc (.cells #[.slice a stocks.length cap, .slice a2 lines.length cap2] 25)) (.slice a stocks.length cap) stocks ∧ RowOl (w.alloc (.cells #[.slice a stocks.length cap, .slice a2 lines.length cap2] 25)) (.slice a2 lines.length cap2) lines) := ⟨h.st.below b0, h.ln.below b0⟩
  clear h
  go_enter Tryz.func4, Tryz.ntmps4
  go_wp2_with fail
  refine (szSts_any _ stocks left _ H.out.1 ⟨by omega, by omega⟩).mono ?_
  rintro e w1 ⟨q, rfl, hr, hb⟩
  have HB : Hid (Below w.heap.size w w1 ∧ Below (w.alloc (.cells #[.slice a stocks.length cap, .slice a2 lines.length cap2] 25)).heap.size (w.alloc (.cells #[.slice a stocks.length cap, .slice a2 lines.length cap2] 25)) w1) := ⟨b0.trans (hb.mono (by simp)), hb⟩
  obtain ⟨y0, y1⟩ := box2 ((hb.block _ (by simp)).trans hbx)
  clear hb hbx
  rcases hr with rfl | ⟨g0, g1, g2⟩
  · go_wp2
    go_ret
    exact ⟨_, rfl, .inl rfl, HB.out.1⟩
  · have g0' : ¬ q < 0 := by omega
    have H2 : Hid (BdSt left.toNat stocks) := g2
    clear g2
    go_wp2_with fail
    refine (szOls_any _ lines q _ (H.out.2.below HB.out.2) ⟨by omega, by omega⟩).mono ?_
    rintro e w2 ⟨q2, rfl, hr2, hb2⟩
    have HC : Hid (Below w.heap.size w w2) := HB.out.1.trans (hb2.mono HB.out.1.size)
    clear hb2 y0 y1
    rcases hr2 with rfl | ⟨k0, k1, k2⟩
    · go_wp2
      go_ret
      exact ⟨_, rfl, .inl rfl, HC.out⟩
    · have k0' : ¬ q2 < 0 := by omega
      have H3 : Hid (BdOl q.toNat lines) := k2
      clear k2
      go_wp2
      go_ret
      exact ⟨_, rfl, .inr ⟨by omega, by omega, H2.out, H3.out.mono (by omega)⟩, HC.out⟩
end Go.Proofs.YtjmkdpnoihpfoaaGreatDoor
namespace Go.Proofs.YtjmkdpnoihpfoaaGreatDoor
open Go.ChangeShapes Go.WideShapes Go.ChangeAt Go.RowKit
theorem infoSt : (Tryz.prog.info? 59).map (fun i => (i.zero, i.size, i.bytes)) = some (some (.agg #[.string ⟨#[]⟩, .int .i64 0]), 2, 24) := by kernel_rfl
theorem run_make_St (n : Nat) (hn : n ≤ 1048576) (w : World) : (Instr.makeSlice 28 (.int .i64 (n : Int)) (.int .i64 (n : Int))).run Tryz.prog w = .ok (.slice (some ⟨w.heap.size, 0, none⟩) n n) (w.alloc (.cells (madeCells #[.string ⟨#[]⟩, .int .i64 0] (n * 2)) 59)) := by
  obtain ⟨i0, hi, hz0, hz1, hz2⟩ := info_parts infoSt
  have h := run_make (P := Tryz.prog) w 28 59 i0 (.agg #[.string ⟨#[]⟩, .int .i64 0]) Tryz.underlying28 hi hz0 .i64 .i64 (n : Int) (n : Int) (by omega) (by omega) (by rw [hz2]; omega) (by omega)
  rw [hz1] at h
  simpa [Value.cells] using h
set_option maxHeartbeats 1000000 in
theorem toSt_any (g : Stk) (w : World) :
    Calls Tryz.prog 31 #[.agg #[.string g.item, .int .i64 g.hand]] w fun e w' => e = .returned (.agg #[.string g.item, .int .i64 g.hand]) ∧ Below w.heap.size w w' := by
  obtain ⟨item, hand⟩ := g
  dsimp only
  go_enter Tryz.func31, Tryz.ntmps31
  go_wp2
  exact bodyPost_ret (v := .agg #[.string item, .int .i64 hand]) (by simp [results, Tryz.results31, go_sem]) rfl ⟨rfl, (((Below.refl _ _).alloc (Nat.le_refl _) _).alloc (by simp) _).alloc (by simp; omega) _⟩
/-- A list in a block of its own, not below B. -/
def OwnSt (B : Nat) (W : World) (v : Value) (rs : List Stk) : Prop := ∃ (b : Nat) (f : Nat → Value), B ≤ b ∧ v = .slice (some ⟨b, 0, none⟩) rs.length rs.length ∧ W.rowIs b 59 (rs.length * 2) f ∧ ∀ (i : Nat) (g : Stk), rs[i]? = some g → f (i * 2) = .string g.item ∧ f (i * 2 + 1) = .int .i64 g.hand
theorem OwnSt.lst {B : Nat} {W : World} {v : Value} {rs : List Stk} (h : OwnSt B W v rs) (hG : BdSt 1048576 rs) : ∃ b, B ≤ b ∧ LSt b W v rs := by
  obtain ⟨b, f, h1, h2, h3, h4⟩ := h
  have hl := hG.len
  exact ⟨b, h1, ⟨_, _, h2, fun _ => ⟨rfl, _, f, h3, Nat.le_refl _, h4⟩⟩, by omega, fun i g hi => by have := hG.2 i g hi; omega⟩
theorem OwnSt.row {B : Nat} {W : World} {v : Value} {rs : List Stk} (h : OwnSt B W v rs) (hG : BdSt 1048576 rs) : RowSt W v rs := by
  obtain ⟨b, _, h⟩ := h.lst hG
  exact h.row
theorem OwnSt.below {B : Nat} {W W' : World} {v : Value} {rs : List Stk} (h : OwnSt B W v rs) (hb : Below W.heap.size W W') : OwnSt B W' v rs := by
  obtain ⟨b, f, h1, h2, h3, h4⟩ := h
  exact ⟨b, f, h1, h2, h3.of_block (hb.block b h3.lt), h4⟩
theorem OwnSt.setAt {B c : Nat} {W : World} {v : Value} {rs : List Stk} (h : OwnSt B W v rs) (hc : c < B) (i : Nat) (x : Value) : OwnSt B (W.setCell ⟨c, i, none⟩ x) v rs := by
  obtain ⟨b, f, h1, h2, h3, h4⟩ := h
  exact ⟨b, f, h1, h2, h3.setOther (show b ≠ c by omega) x, h4⟩
theorem OwnSt.mono {B C : Nat} {W : World} {v : Value} {rs : List Stk} (h : OwnSt B W v rs) (hC : C ≤ B) : OwnSt C W v rs := by
  obtain ⟨b, f, h1, h2⟩ := h
  exact ⟨b, f, by omega, h2⟩
set_option maxHeartbeats 2000000 in
theorem toSts_any (v : Value) (rs : List Stk) (w : World) (h : RowSt w v rs) (hG : BdSt 1048576 rs) :
    Calls Tryz.prog 17 #[v] w fun e w' => ∃ v', e = .returned v' ∧ OwnSt w.heap.size w' v' rs ∧ Below w.heap.size w w' := by
  have hlen := hG.len
  obtain ⟨a, cap, rfl⟩ := h.val
  have H : Hid (RowSt w (.slice a rs.length cap) rs ∧ BdSt 1048576 rs) := ⟨h, hG⟩
  clear h hG
  obtain ⟨M, hM, hMs⟩ : ∃ M : Array Value, madeCells #[.string ⟨#[]⟩, .int .i64 0] (rs.length * 2) = M ∧ M.size = rs.length * 2 := ⟨_, rfl, size_madeCells _ _⟩
  have hmk := run_make_St rs.length hlen
  rw [hM] at hmk
  obtain ⟨f0, hf0⟩ := fl_row w M 59 (rs.length * 2) hMs
  have HF0 : Hid ((w.alloc (.cells M 59)).rowIs w.heap.size 59 (rs.length * 2) f0) := hf0
  clear hM hMs hf0
  go_enter Tryz.func17, Tryz.ntmps17
  go_wp2
  go_loopw [4] (fun i wr => ∃ (k : Nat) (f : Nat → Value), i = .int .i64 (k : Int) ∧ k ≤ rs.length ∧ wr.rowIs w.heap.size 59 (rs.length * 2) f ∧ (∀ (j : Nat) (g : Stk), j < k → rs[j]? = some g → f (j * 2) = .string g.item ∧ f (j * 2 + 1) = .int .i64 g.hand) ∧ Below w.heap.size w wr) (fun i _ => rs.length - (intOf i).toNat)
  case atStart => exact ⟨0, f0, rfl, by omega, HF0.out, fun j e hj => by omega, (Below.refl _ _).alloc (Nat.le_refl _) _⟩
  case round =>
    obtain ⟨k, f, rfl, hk, hR, hA, hb⟩ := hrel
    by_cases hlt : k < rs.length
    · have hlt' : (k : Int) < (rs.length : Int) := by omega
      obtain ⟨b, o, cap', g, ee, hs, ⟨q0, q1⟩, hsz⟩ := (H.out.1.below hb).at hlt
      simp only [Value.slice.injEq, true_and] at ee
      obtain ⟨rfl, rfl⟩ := ee
      have HS : Hid (rs[k]? = some g ∧ wr.rowIs w.heap.size 59 (rs.length * 2) f ∧ (∀ (j : Nat) (g : Stk), j < k → rs[j]? = some g → f (j * 2) = .string g.item ∧ f (j * 2 + 1) = .int .i64 g.hand) ∧ Below w.heap.size w wr) := ⟨hs, hR, hA, hb⟩
      clear hs hR hA hb
      go_wp2_with fail
      refine (toSt_any g _).mono ?_
      rintro ee w1 ⟨rfl, hb1⟩
      have hlt0 := HS.out.2.1.lt
      have hR1 : w1.rowIs w.heap.size 59 (rs.length * 2) f := HS.out.2.1.of_block (hb1.block _ hlt0)
      have hfz := hR1.frozen
      have k0 := hR1.cell (i := k * 2) (by omega)
      have k1 := hR1.cell (i := k * 2 + 1) (by omega)
      have H1 : Hid (rs[k]? = some g ∧ w1.rowIs w.heap.size 59 (rs.length * 2) f ∧ (∀ (j : Nat) (g : Stk), j < k → rs[j]? = some g → f (j * 2) = .string g.item ∧ f (j * 2 + 1) = .int .i64 g.hand) ∧ Below w.heap.size w w1) := ⟨HS.out.1, hR1, HS.out.2.2.1, HS.out.2.2.2.trans (hb1.mono HS.out.2.2.2.size)⟩
      clear HS hR1 hb1
      go_wp2
      go_roundw
      case rel =>
        refine ⟨k + 1, _, by go_num, by omega, ((H1.out.2.1.set (k * 2) (.string g.item)).set (k * 2 + 1) (.int .i64 g.hand)), fun j t hj ht => ?_, ((H1.out.2.2.2.setCell (Nat.le_refl _) _).setCell (Nat.le_refl _) _)⟩
        by_cases e1 : j = k
        · subst e1
          rw [H1.out.1] at ht
          cases ht
          refine ⟨?_, ?_⟩
          · rw [if_neg (by omega), if_pos rfl]
          · rw [if_pos rfl]
        · obtain ⟨r0, r1⟩ := H1.out.2.2.1 j t (by omega) ht
          refine ⟨?_, ?_⟩
          all_goals rw [if_neg (by omega), if_neg (by omega)]
          all_goals assumption
      case measure => simp [intOf]; omega
    · obtain rfl : k = rs.length := by omega
      have HS : Hid (wr.rowIs w.heap.size 59 (rs.length * 2) f ∧ (∀ (j : Nat) (g : Stk), j < rs.length → rs[j]? = some g → f (j * 2) = .string g.item ∧ f (j * 2 + 1) = .int .i64 g.hand) ∧ Below w.heap.size w wr) := ⟨hR, hA, hb⟩
      clear hR hA hb
      go_wp2
      go_ret
      exact ⟨_, rfl, ⟨w.heap.size, f, Nat.le_refl _, rfl, HS.out.1, fun i e hi => HS.out.2.1 i e (List.getElem?_eq_some_iff.1 hi).1 hi⟩, HS.out.2.2⟩
end Go.Proofs.YtjmkdpnoihpfoaaGreatDoor
