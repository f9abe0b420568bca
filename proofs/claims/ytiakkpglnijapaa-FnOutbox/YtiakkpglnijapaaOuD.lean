/- Contract of copyOfOuts: a list in memory of its own. -/
import Derived.Test.YtiakkpglnijapaaAppOu
import Derived.Test.YtiakkpglnijapaaOuK
namespace Go.Proofs.Ytiakkpglnijapaa
open Go.ChangeShapes Go.WideShapes Go.ChangeAt Go.RowKit
set_option maxRecDepth 20000 in
set_option maxHeartbeats 4000000 in
theorem copyOus_any (v : Value) (rs : List OutR) (w : World) (h : RowOu w v rs) (hl : rs.length ≤ 1048576) (hz : ∀ c ∈ rs, c.partner.size ≤ 1048576 ∧ c.text.size ≤ 1048576) :
    Calls Try.prog 26 #[v] w fun e w' => ∃ u b, e = .returned u ∧ w.heap.size ≤ b ∧ LOu b w' u rs ∧ Below w.heap.size w w' := by
  obtain ⟨A, C, rfl⟩ := h.val
  have HR : Hid (RowOu w (.slice A rs.length C) rs ∧ ∀ c ∈ rs, c.partner.size ≤ 1048576 ∧ c.text.size ≤ 1048576) := ⟨h, hz⟩
  clear h hz
  go_enter Try.func26, Try.ntmps26
  go_wp2_with fail
  go_loopw [3, 8] (fun lv i wr => ∃ k : Nat, i = .int .i64 (k : Int) ∧ k ≤ rs.length ∧ (∃ A C ts, ts = rs.take k ∧ lv = .slice A ts.length C ∧ wr.ownsRow w.heap.size 25 5 lv ts.length (clOus ts)) ∧ Below w.heap.size w wr) (fun _ i _ => rs.length - (intOf i).toNat)
  case atStart => exact ⟨0, rfl, by omega, ⟨none, 0, [], by simp, rfl, by simpa [clOus] using World.ownsRow_nil w w.heap.size 25 5⟩, Below.refl _ _⟩
  case round =>
    obtain ⟨k, rfl, hk, ⟨A1, C1, ts, hts, rfl, hR⟩, hb⟩ := hrel
    have HT : Hid (ts = rs.take k) := hts
    have htk : ts.length ≤ 1048576 := by rw [hts, List.length_take]; omega
    clear hts
    by_cases hlt : k < rs.length
    · have hlt' : (k : Int) < (rs.length : Int) := by omega
      obtain ⟨b, o, cap', c, e, hs, ⟨q0, q1, q2, q3, q4⟩, _⟩ := (HR.out.1.below hb).at hlt
      simp only [Value.slice.injEq, true_and] at e
      obtain ⟨rfl, rfl⟩ := e
      have hz := HR.out.2 c (List.mem_of_getElem? hs)
      obtain ⟨W1, hW1⟩ : ∃ W1, wr.alloc (.cells #[.string c.partner, .int .i64 c.number, .string c.text, .int .i64 c.tries, .int .i64 c.due] 25) = W1 := ⟨_, rfl⟩
      have ha : Below wr.heap.size wr W1 := by rw [← hW1]; exact (Below.refl _ _).alloc (Nat.le_refl _) _
      have hbx : W1.heap[wr.heap.size]? = some (.cells #[.string c.partner, .int .i64 c.number, .string c.text, .int .i64 c.tries, .int .i64 c.due] 25) := by rw [← hW1]; exact World.alloc_heap_new _ _
      obtain ⟨B, hB⟩ : ∃ B, B = wr.heap.size := ⟨_, rfl⟩
      rw [← hB] at hbx
      have hR1 : W1.ownsRow w.heap.size 25 5 (.slice A1 ts.length C1) ts.length (clOus ts) := by rw [← hW1]; exact hR.alloc _
      have HG : Hid (Below w.heap.size w W1 ∧ W1.heap[B]? = some (.cells #[.string c.partner, .int .i64 c.number, .string c.text, .int .i64 c.tries, .int .i64 c.due] 25) ∧ W1.ownsRow w.heap.size 25 5 (.slice A1 ts.length C1) ts.length (clOus ts) ∧ rs[k]? = some c) := ⟨hb.trans (ha.mono hb.size), hbx, hR1, hs⟩
      have HW1 : Hid (wr.alloc (.cells #[.string c.partner, .int .i64 c.number, .string c.text, .int .i64 c.tries, .int .i64 c.due] 25) = W1 ∧ B = wr.heap.size) := ⟨hW1, hB⟩
      clear hW1 ha hbx hR1 hR hb hs hB
      go_upto_region 5 with fail
      try rw [HW1.out.1]
      try rw [← HW1.out.2]
      clear HW1 q0 q1 q2 q3 q4
      obtain ⟨c0, c1, c2, c3, c4⟩ := box5 HG.out.2.1
      go_wp2_with fail
      refine (copyOu_any c _ (by omega)).mono ?_
      rintro e w2 ⟨rfl, hb2⟩
      have hrow2 : w2.ownsRow w.heap.size 25 5 (.slice A1 ts.length C1) ts.length (clOus ts) := by
        refine HG.out.2.2.1.kept (row := none) ⟨hb2.os, hb2.tape, hb2.output, hb2.size, fun j hj _ => hb2.block j hj⟩ ?_
        rcases HG.out.2.2.1.2 with ⟨e, _⟩ | ⟨g, cap, cur, e, _⟩
        · exact .inl (by rw [e]; rfl)
        · exact .inr (by rw [e]; simp [Value.ownBlock])
      have H2 : Hid (Below w.heap.size w w2) := HG.out.1.trans (hb2.mono HG.out.1.size)
      have hrow : (w2.alloc (.cells #[.string c.partner, .int .i64 c.number, .string c.text, .int .i64 c.tries, .int .i64 c.due] 25)).ownsRow w.heap.size 25 5 (.slice A1 ts.length C1) ts.length (clOus ts) := hrow2.alloc _
      have hat : AtOu (w2.alloc (.cells #[.string c.partner, .int .i64 c.number, .string c.text, .int .i64 c.tries, .int .i64 c.due] 25)) w2.heap.size 0 c := by
        obtain ⟨a0, a1, a2, a3, a4⟩ := box5 (World.alloc_heap_new w2 (.cells #[.string c.partner, .int .i64 c.number, .string c.text, .int .i64 c.tries, .int .i64 c.due] 25))
        exact ⟨a0, a1, a2, a3, a4⟩
      have hsz := H2.out.size
      clear hb2 hrow2 c0 c1 c2 c3 c4
      go_wp2_with (first | (at_builtin; refine wpList_appOu rfl _ _ rfl rfl rfl hrow hat (by omega) (by simp; omega) ?_; rintro v4 w4 hown4 hgrow4 ⟨A4, C4, rfl⟩))
      have e3 : rs.take (k + 1) = ts ++ [c] := by
        rw [List.take_add_one, HG.out.2.2.2, HT.out]
        rfl
      have H4 : Hid (w4.ownsRow w.heap.size 25 5 (.slice A4 (ts ++ [c]).length C4) (ts ++ [c]).length (clOus (ts ++ [c])) ∧ Below w.heap.size w w4) := by
        refine ⟨hown4, (H2.out.alloc hsz _).trans ⟨hgrow4.os, hgrow4.tape, hgrow4.output, hgrow4.size, fun q hq => hgrow4.block q (by simp; omega) (fun e => ?_)⟩⟩
        have := (hrow.lt q e.symm).1
        omega
      clear hown4 hgrow4
      go_wp2
      go_roundw
      case rel => exact ⟨k + 1, by go_num, by omega, ⟨A4, C4, ts ++ [c], e3.symm, by simp, by simpa using H4.out.1⟩, H4.out.2⟩
      case measure => simp [intOf]; omega
    · obtain rfl : k = rs.length := by omega
      have HF : Hid (wr.ownsRow w.heap.size 25 5 (.slice A1 ts.length C1) rs.length (clOus rs) ∧ Below w.heap.size w wr ∧ ts = rs) := by
        have e := HT.out
        rw [List.take_length] at e
        rw [e] at hR ⊢
        exact ⟨hR, hb, rfl⟩
      clear hR hb
      go_wp2
      go_ret
      obtain ⟨b, hb1, hL⟩ := LOu.of_owns HF.out.1 (by omega) (fun i g hi => by have := HR.out.2 g (List.mem_of_getElem? hi); omega)
      exact ⟨_, b, rfl, hb1, hL, HF.out.2.1⟩
end Go.Proofs.Ytiakkpglnijapaa
