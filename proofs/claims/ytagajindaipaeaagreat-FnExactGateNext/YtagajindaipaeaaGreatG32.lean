/- Texts of ours put together: ChW, TkC. -/
import Derived.Test.YtagajindaipaeaaGreatG00
import Derived.Conc.LoneCalls
import Derived.Test.YtagajindaipaeaaGreatG54
import Derived.Laws.Rows
namespace Go.Proofs.YtagajindaipaeaaGreat
open Go.RowKit
open Go.Conc
/-- A region is under way. -/
def Reg (P : Program) (ops : Array Oper) (Q : Exit → Act → World → Prop) (l : List Nat) (a : Act) (w : World) : Prop :=
  ∀ (b : Frame) (k : List Item) (cs : List Frame), ∃ e a' w', Q e a' w' ∧ Arrives P (lone (b.at a (.inRegion ops l :: k)) cs w) b k cs e a' w'
section
variable {P : Program} {ops : Array Oper} {Q : Exit → Act → World → Prop} {a : Act} {w : World}
theorem Reg.of_ops {l : List Nat} (h : wpOps P ops Q l a w) : Reg P ops Q l a w := fun b k cs => wp_ops l a w h b k cs
theorem wp_reg {id : Nat} (h : Reg P ops Q (List.range ops.size) a w) : (Code.region id ops false).wp P Q a w :=
  fun b k cs => let ⟨e, a', w', q, r⟩ := h b k cs; ⟨e, a', w', q, .of_steps (.one step_region) r⟩
theorem Reg.done (h : Q .normal a w) : Reg P ops Q [] a w := fun _ _ _ => ⟨.normal, a, w, h, .one step_region_end⟩
theorem Reg.value {i : Nat} {rest : List Nat} {o : Oper} {v : Value} {w' : World} (ho : ops[i]? = some o) (hw : Region.wanted o (yielded ops a.tmps) = true) (hr : (execOp a.eval o).run P w = .ok (.value v) w') (h : Reg P ops Q rest (a.put o.dst v) w') : Reg P ops Q (i :: rest) a w := fun b k cs => by
  obtain ⟨e, a', w'', hq, harr⟩ := h b k cs
  refine ⟨e, a', w'', hq, .of_steps (.one (step_lone_go ?_)) harr⟩
  have hfin : (b.at a (.inRegion ops (i :: rest) :: k)).finish v = b.at (a.put o.dst v) (.inRegion ops rest :: k) := by rw [Frame.finish_at, ho]; rfl
  rw [stepG_op (P := P) (b := b) (k := k) (cs := cs) (w := w) (rest := rest) ho hw, ← hfin]
  simp [stepG.apply, hr]
theorem comm_es {i : Nat} {rest : List Nat} {o : Oper} {cc : Array CommCase} {sh : CommShape} (ho : ops[i]? = some o) (hw : Region.wanted o (yielded ops a.tmps) = true) (hr : (execOp a.eval o).run P w = .ok (.comm cc true sh) w) (b : Frame) (k : List Item) (cs : List Frame) :
    ∃ es, stepG P true (G (b.at a (.inRegion ops (i :: rest) :: k)) cs) w = .comm (G (b.at a (.inRegion ops (i :: rest) :: k)) cs) cc true sh w es := by
  have hb : (stepG P true (G (b.at a (.inRegion ops (i :: rest) :: k)) cs) w).bare = .comm (G (b.at a (.inRegion ops (i :: rest) :: k)) cs) cc true sh w := by
    unfold G
    rw [stepG_op (P := P) (b := b) (k := k) (cs := cs) (w := w) (rest := rest) ho hw]
    simp [stepG.apply, hr]
  generalize stepG P true (G (b.at a (.inRegion ops (i :: rest) :: k)) cs) w = s at hb
  cases s <;> simp at hb
  obtain ⟨rfl, rfl, rfl, rfl, rfl⟩ := hb
  exact ⟨_, rfl⟩
theorem Reg.send {i : Nat} {rest : List Nat} {o : Oper} {c cap s r : Nat} {buf : Array Value} {v z : Value} {tm : Bool} (ho : ops[i]? = some o) (hw : Region.wanted o (yielded ops a.tmps) = true) (hr : (execOp a.eval o).run P w = .ok (.comm #[scase c v z] true .send) w)
    (hc : w.heap[c]? = some (.chan cap buf false s r tm)) (hroom : buf.size < cap) (h : Reg P ops Q rest (a.put o.dst undef) (w.setChan c cap (buf.push v) false (s + 1) r tm)) : Reg P ops Q (i :: rest) a w := fun b k cs => by
  obtain ⟨e, a', w'', hq, harr⟩ := h b k cs
  obtain ⟨es, hs⟩ := comm_es (rest := rest) ho hw hr b k cs
  have hstep := step_lone_send_room hs hc hroom
  refine ⟨e, a', w'', hq, .of_steps (.one ?_) harr⟩
  rw [lone_eq_solo, hstep, Frame.finish_at, ho]
  rfl
theorem Reg.recv {i : Nat} {rest : List Nat} {o : Oper} {c cap s r : Nat} {buf : Array Value} {z : Value} {tm closed : Bool} (ok : Bool) (ho : ops[i]? = some o) (hw : Region.wanted o (yielded ops a.tmps) = true) (hr : (execOp a.eval o).run P w = .ok (.comm #[rcase c z] true (.recv ok)) w)
    (hc : w.heap[c]? = some (.chan cap buf closed s r tm)) (hsome : 0 < buf.size) (h : Reg P ops Q rest (a.put o.dst (got ok (buf.getD 0 undef) true)) (w.setChan c cap (buf.extract 1 buf.size) closed s (r + 1) tm)) : Reg P ops Q (i :: rest) a w := fun b k cs => by
  obtain ⟨e, a', w'', hq, harr⟩ := h b k cs
  obtain ⟨es, hs⟩ := comm_es (rest := rest) ho hw hr b k cs
  have hstep := step_lone_recv_buf ok hs hc hsome
  refine ⟨e, a', w'', hq, .of_steps (.one ?_) harr⟩
  rw [lone_eq_solo, hstep, Frame.finish_at, ho]
  rfl
theorem Reg.shut {i : Nat} {rest : List Nat} {o : Oper} {c cap s r : Nat} {z : Value} {tm : Bool} (ok : Bool) (ho : ops[i]? = some o) (hw : Region.wanted o (yielded ops a.tmps) = true) (hr : (execOp a.eval o).run P w = .ok (.comm #[rcase c z] true (.recv ok)) w)
    (hc : w.heap[c]? = some (.chan cap #[] true s r tm)) (h : Reg P ops Q rest (a.put o.dst (got ok z false)) w) : Reg P ops Q (i :: rest) a w := fun b k cs => by
  obtain ⟨e, a', w'', hq, harr⟩ := h b k cs
  obtain ⟨es, hs⟩ := comm_es (rest := rest) ho hw hr b k cs
  have hstep := step_lone_recv_shut ok hs hc
  refine ⟨e, a', w'', hq, .of_steps (.one ?_) harr⟩
  rw [lone_eq_solo, hstep, Frame.finish_at, ho]
  rfl
end
end Go.Proofs.YtagajindaipaeaaGreat
namespace Go.Proofs.YtagajindaipaeaaGreat
open Go.ChangeShapes Go.WideShapes Go.ChangeAt Go.RowKit
open Go.Conc (scase rcase got heap_setChan size_setChan below_setChan)
theorem bytesI : ∃ i, Tryz.prog.info? 3 = some i ∧ i.bytes = 8 := by
  have h : (Tryz.prog.info? 3).map (·.bytes) = some 8 := by kernel_rfl
  obtain ⟨i, hi, hb⟩ := Option.map_eq_some_iff.1 h
  exact ⟨i, hi, hb⟩
theorem mkChan (n : Nat) (hn : n ≤ 1000) (W : World) : (Instr.makeChan 220 (.int .i64 (n : Int))).run Tryz.prog W = .ok (.chan (some W.heap.size)) (W.alloc (.chan n #[] false 0 0 false)) := by
  obtain ⟨i, hi, hb⟩ := bytesI
  exact Go.Conc.run_makeChan (P := Tryz.prog) (w := W) Tryz.underlying220 hi .i64 n (by omega) (by rw [hb]; omega)
/-- The places of what is sent on that day. -/
def dueP (d : Int) (L : List OutR) (k : Nat) : List Nat := (List.range k).filter fun i => (L[i]?).any (sntB d)
def chB (ps : List Nat) : Array Value := (ps.map fun (i : Nat) => Value.int .i64 (i : Int)).toArray
theorem dueP_succ (d : Int) (L : List OutR) (k : Nat) (c : OutR) (h : L[k]? = some c) : dueP d L (k + 1) = dueP d L k ++ (if sntB d c = true then [k] else []) := by
  unfold dueP
  rw [List.range_succ, List.filter_append]
  congr 1
  cases hs : sntB d c <;> simp [h, hs]
theorem chB_push (ps : List Nat) (k : Nat) : (chB ps).push (.int .i64 (k : Int)) = chB (ps ++ [k]) := by simp [chB]
theorem chB_size (ps : List Nat) : (chB ps).size = ps.length := by simp [chB]
theorem dueP_len (d : Int) (L : List OutR) (k : Nat) : (dueP d L k).length ≤ k := by
  unfold dueP
  have := List.length_filter_le (fun i => (L[i]?).any (sntB d)) (List.range k)
  simpa using this
set_option maxRecDepth 20000 in
set_option maxHeartbeats 4000000 in
theorem dueOn_any (v : Value) (L : List OutR) (d : Int) (w : World) (h : RowOu w v L) (hl : L.length ≤ 1000) : Calls Tryz.prog 145 #[v, .int .i64 d] w fun e w' => e = .returned (.chan (some w.heap.size)) ∧ w'.heap[w.heap.size]? = some (.chan L.length (chB (dueP d L L.length)) true (dueP d L L.length).length 0 false) ∧ Below w.heap.size w w' := by
  obtain ⟨A, Cp, rfl⟩ := h.val
  have hmk := mkChan L.length hl
  obtain ⟨C, hC⟩ : ∃ C, C = w.heap.size := ⟨_, rfl⟩
  have hx0 := World.alloc_heap_new w (.chan L.length #[] false 0 0 false)
  have hb0 : Below w.heap.size w (w.alloc (.chan L.length #[] false 0 0 false)) := (Below.refl _ _).alloc (Nat.le_refl _) _
  obtain ⟨W0, hW0⟩ : ∃ W0, w.alloc (.chan L.length #[] false 0 0 false) = W0 := ⟨_, rfl⟩
  rw [hW0] at hx0 hb0
  rw [← hC] at hx0
  have HW : Hid (w.alloc (.chan L.length #[] false 0 0 false) = W0 ∧ C = w.heap.size) := ⟨hW0, hC⟩
  have H0 : Hid (RowOu w (.slice A L.length Cp) L ∧ Below w.heap.size w W0 ∧ W0.heap[C]? = some (.chan L.length #[] false 0 0 false)) := ⟨h, hb0, hx0⟩
  have hCw : w.heap.size ≤ C := by omega
  clear h hx0 hb0 hW0 hC
  go_enter Tryz.func145, Tryz.ntmps145
  go_upto_region 2 with fail
  rw [HW.out.1]
  try rw [← HW.out.2]
  go_wp2_with fail
  go_loopw [13] (fun i wr => ∃ k : Nat, i = .int .i64 (k : Int) ∧ k ≤ L.length ∧ Below w.heap.size w wr ∧ wr.heap[C]? = some (.chan L.length (chB (dueP d L k)) false (dueP d L k).length 0 false)) (fun i _ => L.length - (intOf i).toNat)
  case atStart => exact ⟨0, rfl, by omega, H0.out.2.1, H0.out.2.2⟩
  case round =>
    obtain ⟨k, rfl, hk, hb, hch⟩ := hrel
    have HI : Hid (Below w.heap.size w wr ∧ wr.heap[C]? = some (.chan L.length (chB (dueP d L k)) false (dueP d L k).length 0 false)) := ⟨hb, hch⟩
    clear hb hch
    by_cases hlt : k < L.length
    · have hlt' : (k : Int) < (L.length : Int) := by omega
      obtain ⟨b, o, cap', c, e, hs, ⟨q0, q1, q2, q3, q4⟩, _⟩ := (H0.out.1.below HI.out.1).at hlt
      simp only [Value.slice.injEq, true_and] at e
      obtain ⟨rfl, rfl⟩ := e
      obtain ⟨W1, hW1⟩ : ∃ W1, wr.alloc (.cells #[.string c.partner, .int .i64 c.number, .string c.text, .int .i64 c.tries, .int .i64 c.due] 125) = W1 := ⟨_, rfl⟩
      have ha : Below wr.heap.size wr W1 := by rw [← hW1]; exact (Below.refl _ _).alloc (Nat.le_refl _) _
      have hbx : W1.heap[wr.heap.size]? = some (.cells #[.string c.partner, .int .i64 c.number, .string c.text, .int .i64 c.tries, .int .i64 c.due] 125) := by rw [← hW1]; exact World.alloc_heap_new _ _
      obtain ⟨B, hB⟩ : ∃ B, B = wr.heap.size := ⟨_, rfl⟩
      rw [← hB] at hbx
      have H1 : Hid (Below w.heap.size w W1 ∧ W1.heap[C]? = some (.chan L.length (chB (dueP d L k)) false (dueP d L k).length 0 false) ∧ L[k]? = some c) := ⟨HI.out.1.trans (ha.mono HI.out.1.size), (ha.block _ (Array.getElem?_eq_some_iff.1 HI.out.2).1).trans HI.out.2, hs⟩
      go_upto_region 5 with fail
      try rw [hW1]
      try rw [← hB]
      clear hW1 ha hB hs q0 q1 q2 q3 q4
      obtain ⟨c0, c1, c2, c3, c4⟩ := box5 hbx
      clear hbx
      obtain ⟨sn, hsn⟩ : ∃ sn, sn = sntB d c := ⟨_, rfl⟩
      have Q1 := sentOn_any c d
      rw [← hsn] at Q1
      have HSN : Hid (sn = sntB d c) := hsn
      clear hsn
      go_wp2_with fail
      refine (Q1 _).mono ?_
      rintro e w2 ⟨rfl, hb2⟩
      have H2 : Hid (Below w.heap.size w w2 ∧ w2.heap[C]? = some (.chan L.length (chB (dueP d L k)) false (dueP d L k).length 0 false)) := ⟨H1.out.1.trans (hb2.mono H1.out.1.size), (hb2.block _ (Array.getElem?_eq_some_iff.1 H1.out.2.1).1).trans H1.out.2.1⟩
      clear hb2 c0 c1 c2 c3 c4 Q1
      have HD : Hid (dueP d L (k + 1) = dueP d L k ++ (if sn = true then [k] else [])) := by rw [HSN.out]; exact dueP_succ d L k c H1.out.2.2
      cases sn with
      | false =>
        go_wp2
        go_roundw
        case rel =>
          have e : dueP d L (k + 1) = dueP d L k := by rw [HD.out]; simp
          exact ⟨k + 1, by go_num, by omega, H2.out.1, by rw [e]; exact H2.out.2⟩
        case measure => simp [intOf]; omega
      | true =>
        have hroom : (chB (dueP d L k)).size < L.length := by rw [chB_size]; have := dueP_len d L k; omega
        go_upto_region 6 with fail
        refine wp_reg ?_
        show Reg _ _ _ [0, 1, 2] _ _
        refine Reg.value rfl rfl rfl ?_
        refine Reg.value rfl rfl rfl ?_
        refine Reg.send rfl rfl rfl H2.out.2 hroom ?_
        refine Reg.done ?_
        go_simp
        have hpb := chB_push (dueP d L k) k
        have H3 : Hid (Below w.heap.size w (w2.setChan C L.length ((chB (dueP d L k)).push (.int .i64 (k : Int))) false ((dueP d L k).length + 1) 0 false) ∧ (w2.setChan C L.length ((chB (dueP d L k)).push (.int .i64 (k : Int))) false ((dueP d L k).length + 1) 0 false).heap[C]? = some (.chan L.length (chB (dueP d L (k + 1))) false (dueP d L (k + 1)).length 0 false)) := by
          refine ⟨below_setChan H2.out.1 hCw _ _ _ _ _ _, ?_⟩
          rw [heap_setChan _ _ _ _ _ _ _ _ (Array.getElem?_eq_some_iff.1 H2.out.2).1, hpb, HD.out]
          simp
        clear hpb
        go_wp2
        go_roundw
        case rel => exact ⟨k + 1, by go_num, by omega, H3.out.1, H3.out.2⟩
        case measure => simp [intOf]; omega
    · obtain rfl : k = L.length := by omega
      have hcl := fun ats ty => run_close_open (P := Tryz.prog) (w := wr) ats ty HI.out.2
      go_wp2
      have hb9 := below_setChan HI.out.1 hCw L.length (chB (dueP d L L.length)) true (dueP d L L.length).length 0 false
      have hh9 := heap_setChan wr C L.length (chB (dueP d L L.length)) true (dueP d L L.length).length 0 false (Array.getElem?_eq_some_iff.1 HI.out.2).1
      rw [HW.out.2] at hh9
      refine bodyPost_ret (v := .chan (some C)) (by simp [results, Tryz.results145, go_sem]) rfl ⟨by rw [HW.out.2], ?_, hb9⟩
      rw [HW.out.2]
      exact hh9
end Go.Proofs.YtagajindaipaeaaGreat
