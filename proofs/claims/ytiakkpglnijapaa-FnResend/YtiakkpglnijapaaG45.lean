/- Texts of ours put together: TkC. -/
import Derived.Test.YtiakkpglnijapaaG51
import Derived.Test.YtiakkpglnijapaaG44
import Derived.Laws.Rows
namespace Go.Proofs.Ytiakkpglnijapaa
open Go.ChangeShapes Go.WideShapes Go.ChangeAt Go.RowKit
open Go.Conc (scase rcase got heap_setChan size_setChan below_setChan)
theorem bytesI : ∃ i, Try.prog.info? 3 = some i ∧ i.bytes = 8 := by
  have h : (Try.prog.info? 3).map (·.bytes) = some 8 := by kernel_rfl
  obtain ⟨i, hi, hb⟩ := Option.map_eq_some_iff.1 h
  exact ⟨i, hi, hb⟩
theorem mkChan (n : Nat) (hn : n ≤ 1000) (W : World) : (Instr.makeChan 90 (.int .i64 (n : Int))).run Try.prog W = .ok (.chan (some W.heap.size)) (W.alloc (.chan n #[] false 0 0 false)) := by
  obtain ⟨i, hi, hb⟩ := bytesI
  exact Go.Conc.run_makeChan (P := Try.prog) (w := W) Try.underlying90 hi .i64 n (by omega) (by rw [hb]; omega)
/-- The places of what is sent on that day. -/
def dueP (d : Int) (L : List OutR) (k : Nat) : List Nat := (List.range k).filter fun i => (L[i]?).any (sntB d)
def chB (ps : List Nat) : Array Value := (ps.map fun (i : Nat) => Value.int .i64 (i : Int)).toArray
theorem dueP_succ (d : Int) (L : List OutR) (k : Nat) (c : OutR) (h : L[k]? = some c) : dueP d L (k + 1) = dueP d L k ++ (if sntB d c = true then [k] else []) := by
  unfold dueP
  rw [List.range_succ, List.filter_append]
  congr 1
  cases hs : sntB d c <;> simp [h, hs]
theorem chB_push (ps : List Nat) (k : Nat) : (chB ps).push (.int .i64 (k : Int)) = chB (ps ++ [k]) := by simp [chB]
theorem chB_size (ps : List Nat) : (chB ps).size = ps.length := by simp [chB]
theorem dueP_len (d : Int) (L : List OutR) (k : Nat) : (dueP d L k).length ≤ k := by
  unfold dueP
  have := List.length_filter_le (fun i => (L[i]?).any (sntB d)) (List.range k)
  simpa using this
set_option maxRecDepth 20000 in
set_option maxHeartbeats 4000000 in
theorem dueOn_any (v : Value) (L : List OutR) (d : Int) (w : World) (h : RowOu w v L) (hl : L.length ≤ 1000) : Calls Try.prog 41 #[v, .int .i64 d] w fun e w' => e = .returned (.chan (some w.heap.size)) ∧ w'.heap[w.heap.size]? = some (.chan L.length (chB (dueP d L L.length)) true (dueP d L L.length).length 0 false) ∧ Below w.heap.size w w' := by
  obtain ⟨A, Cp, rfl⟩ := h.val
  have hmk := mkChan L.length hl
  obtain ⟨C, hC⟩ : ∃ C, C = w.heap.size := ⟨_, rfl⟩
  have hx0 := World.alloc_heap_new w (.chan L.length #[] false 0 0 false)
  have hb0 : Below w.heap.size w (w.alloc (.chan L.length #[] false 0 0 false)) := (Below.refl _ _).alloc (Nat.le_refl _) _
  obtain ⟨W0, hW0⟩ : ∃ W0, w.alloc (.chan L.length #[] false 0 0 false) = W0 := ⟨_, rfl⟩
  rw [hW0] at hx0 hb0
  rw [← hC] at hx0
  have HW : Hid (w.alloc (.chan L.length #[] false 0 0 false) = W0 ∧ C = w.heap.size) := ⟨hW0, hC⟩
  have H0 : Hid (RowOu w (.slice A L.length Cp) L ∧ Below w.heap.size w W0 ∧ W0.heap[C]? = some (.chan L.length #[] false 0 0 false)) := ⟨h, hb0, hx0⟩
  have hCw : w.heap.size ≤ C := by omega
  clear h hx0 hb0 hW0 hC
  go_enter Try.func41, Try.ntmps41
  go_upto_region 2 with fail
  rw [HW.out.1]
  try rw [← HW.out.2]
  go_wp2_with fail
  go_loopw [13] (fun i wr => ∃ k : Nat, i = .int .i64 (k : Int) ∧ k ≤ L.length ∧ Below w.heap.size w wr ∧ wr.heap[C]? = some (.chan L.length (chB (dueP d L k)) false (dueP d L k).length 0 false)) (fun i _ => L.length - (intOf i).toNat)
  case atStart => exact ⟨0, rfl, by omega, H0.out.2.1, H0.out.2.2⟩
  case round =>
    obtain ⟨k, rfl, hk, hb, hch⟩ := hrel
    have HI : Hid (Below w.heap.size w wr ∧ wr.heap[C]? = some (.chan L.length (chB (dueP d L k)) false (dueP d L k).length 0 false)) := ⟨hb, hch⟩
    clear hb hch
    by_cases hlt : k < L.length
    · have hlt' : (k : Int) < (L.length : Int) := by omega
      obtain ⟨b, o, cap', c, e, hs, ⟨q0, q1, q2, q3, q4⟩, _⟩ := (H0.out.1.below HI.out.1).at hlt
      simp only [Value.slice.injEq, true_and] at e
      obtain ⟨rfl, rfl⟩ := e
      obtain ⟨W1, hW1⟩ : ∃ W1, wr.alloc (.cells #[.string c.partner, .int .i64 c.number, .string c.text, .int .i64 c.tries, .int .i64 c.due] 25) = W1 := ⟨_, rfl⟩
      have ha : Below wr.heap.size wr W1 := by rw [← hW1]; exact (Below.refl _ _).alloc (Nat.le_refl _) _
      have hbx : W1.heap[wr.heap.size]? = some (.cells #[.string c.partner, .int .i64 c.number, .string c.text, .int .i64 c.tries, .int .i64 c.due] 25) := by rw [← hW1]; exact World.alloc_heap_new _ _
      obtain ⟨B, hB⟩ : ∃ B, B = wr.heap.size := ⟨_, rfl⟩
      rw [← hB] at hbx
      have H1 : Hid (Below w.heap.size w W1 ∧ W1.heap[C]? = some (.chan L.length (chB (dueP d L k)) false (dueP d L k).length 0 false) ∧ L[k]? = some c) := ⟨HI.out.1.trans (ha.mono HI.out.1.size), (ha.block _ (Array.getElem?_eq_some_iff.1 HI.out.2).1).trans HI.out.2, hs⟩
      go_upto_region 5 with fail
      try rw [hW1]
      try rw [← hB]
      clear hW1 ha hB hs q0 q1 q2 q3 q4
      obtain ⟨c0, c1, c2, c3, c4⟩ := box5 hbx
      clear hbx
      obtain ⟨sn, hsn⟩ : ∃ sn, sn = sntB d c := ⟨_, rfl⟩
      have Q1 := sentOn_any c d
      rw [← hsn] at Q1
      have HSN : Hid (sn = sntB d c) := hsn
      clear hsn
      go_wp2_with fail
      refine (Q1 _).mono ?_
      rintro e w2 ⟨rfl, hb2⟩
      have H2 : Hid (Below w.heap.size w w2 ∧ w2.heap[C]? = some (.chan L.length (chB (dueP d L k)) false (dueP d L k).length 0 false)) := ⟨H1.out.1.trans (hb2.mono H1.out.1.size), (hb2.block _ (Array.getElem?_eq_some_iff.1 H1.out.2.1).1).trans H1.out.2.1⟩
      clear hb2 c0 c1 c2 c3 c4 Q1
      have HD : Hid (dueP d L (k + 1) = dueP d L k ++ (if sn = true then [k] else [])) := by rw [HSN.out]; exact dueP_succ d L k c H1.out.2.2
      cases sn with
      | false =>
        go_wp2
        go_roundw
        case rel =>
          have e : dueP d L (k + 1) = dueP d L k := by rw [HD.out]; simp
          exact ⟨k + 1, by go_num, by omega, H2.out.1, by rw [e]; exact H2.out.2⟩
        case measure => simp [intOf]; omega
      | true =>
        have hroom : (chB (dueP d L k)).size < L.length := by rw [chB_size]; have := dueP_len d L k; omega
        go_upto_region 6 with fail
        refine wp_reg ?_
        show Reg _ _ _ [0, 1, 2] _ _
        refine Reg.value rfl rfl rfl ?_
        refine Reg.value rfl rfl rfl ?_
        refine Reg.send rfl rfl rfl H2.out.2 hroom ?_
        refine Reg.done ?_
        go_simp
        have hpb := chB_push (dueP d L k) k
        have H3 : Hid (Below w.heap.size w (w2.setChan C L.length ((chB (dueP d L k)).push (.int .i64 (k : Int))) false ((dueP d L k).length + 1) 0 false) ∧ (w2.setChan C L.length ((chB (dueP d L k)).push (.int .i64 (k : Int))) false ((dueP d L k).length + 1) 0 false).heap[C]? = some (.chan L.length (chB (dueP d L (k + 1))) false (dueP d L (k + 1)).length 0 false)) := by
          refine ⟨below_setChan H2.out.1 hCw _ _ _ _ _ _, ?_⟩
          rw [heap_setChan _ _ _ _ _ _ _ _ (Array.getElem?_eq_some_iff.1 H2.out.2).1, hpb, HD.out]
          simp
        clear hpb
        go_wp2
        go_roundw
        case rel => exact ⟨k + 1, by go_num, by omega, H3.out.1, H3.out.2⟩
        case measure => simp [intOf]; omega
    · obtain rfl : k = L.length := by omega
      have hcl := fun ats ty => run_close_open (P := Try.prog) (w := wr) ats ty HI.out.2
      go_wp2
      have hb9 := below_setChan HI.out.1 hCw L.length (chB (dueP d L L.length)) true (dueP d L L.length).length 0 false
      have hh9 := heap_setChan wr C L.length (chB (dueP d L L.length)) true (dueP d L L.length).length 0 false (Array.getElem?_eq_some_iff.1 HI.out.2).1
      rw [HW.out.2] at hh9
      refine bodyPost_ret (v := .chan (some C)) (by simp [results, Try.results41, go_sem]) rfl ⟨by rw [HW.out.2], ?_, hb9⟩
      rw [HW.out.2]
      exact hh9
end Go.Proofs.Ytiakkpglnijapaa
