/- Texts of ours put together: GttS. -/
import Derived.Test.YtamlhbjcokkmeaaGreatDoorG26
import Derived.Test.YtamlhbjcokkmeaaGreatDoorG45
import Derived.Test.YtamlhbjcokkmeaaGreatDoorG48
import Derived.Test.YtamlhbjcokkmeaaGreatDoorG49
import Derived.Test.YtamlhbjcokkmeaaGreatDoorG50
import Derived.Deep.RegionHeld3
import Derived.Laws.Concat
namespace Go.Proofs.YtamlhbjcokkmeaaGreatDoor
open Go.ChangeShapes Go.WideShapes Go.ChangeAt Go.RowKit Go.Sort
set_option maxRecDepth 20000 in
set_option maxHeartbeats 16000000 in
theorem gateText_spec (g : Gat) (up uc us ul ud uo : Value) (w : World) (h : RGt w up uc us ul ud uo g) (hz : ∀ d ∈ g.dffs, DfB d) : Calls Tryz.prog 5 #[.agg #[.string g.name, .int .i64 g.day, up, uc, us, ul, ud, uo]] w fun e w' => e = .returned (.string (gtxT g)) ∧ Below w.heap.size w w' := by
  have HT : Hid (∀ d ∈ g.dffs, DfB d) := hz
  clear hz
  obtain ⟨a0, c0, a1, c1, a2, c2, a3, c3, a4, c4, a5, c5, rfl, rfl, rfl, rfl, rfl, rfl⟩ := h.val
  obtain ⟨W0, hW0⟩ : ∃ W0, w.alloc (.cells #[.string g.name, .int .i64 g.day, .slice a0 g.ptns.length c0, .slice a1 g.crss.length c1, .slice a2 g.book.stocks.length c2, .slice a3 g.book.lines.length c3, .slice a4 g.dffs.length c4, .slice a5 g.outs.length c5] 43) = W0 := ⟨_, rfl⟩
  have hb0 : Below w.heap.size w W0 := by rw [← hW0]; exact (Below.refl _ _).alloc (Nat.le_refl _) _
  have hbx : W0.heap[w.heap.size]? = some (.cells #[.string g.name, .int .i64 g.day, .slice a0 g.ptns.length c0, .slice a1 g.crss.length c1, .slice a2 g.book.stocks.length c2, .slice a3 g.book.lines.length c3, .slice a4 g.dffs.length c4, .slice a5 g.outs.length c5] 43) := by rw [← hW0]; exact World.alloc_heap_new _ _
  have H0 : Hid (Below w.heap.size w W0 ∧ RGt W0 (.slice a0 g.ptns.length c0) (.slice a1 g.crss.length c1) (.slice a2 g.book.stocks.length c2) (.slice a3 g.book.lines.length c3) (.slice a4 g.dffs.length c4) (.slice a5 g.outs.length c5) g ∧ W0.heap[w.heap.size]? = some (.cells #[.string g.name, .int .i64 g.day, .slice a0 g.ptns.length c0, .slice a1 g.crss.length c1, .slice a2 g.book.stocks.length c2, .slice a3 g.book.lines.length c3, .slice a4 g.dffs.length c4, .slice a5 g.outs.length c5] 43)) := ⟨hb0, h.below hb0, hbx⟩
  obtain ⟨x0, x1, x2, x3, x4, x5, x6, x7⟩ := bx8 hbx
  have hlt0 := (Array.getElem?_eq_some_iff.1 hbx).1
  clear h hb0 hbx
  go_enter Tryz.func5, Tryz.ntmps5
  go_upto_region 1 with fail
  try rw [hW0]
  clear hW0
  obtain ⟨x, hx⟩ : ∃ x, x = gtB g := ⟨_, rfl⟩
  have HX : Hid (x = gtB g) := hx
  have Q1 := fun W h => gateRight_spec g (.slice a0 g.ptns.length c0) (.slice a1 g.crss.length c1) (.slice a2 g.book.stocks.length c2) (.slice a3 g.book.lines.length c3) (.slice a4 g.dffs.length c4) (.slice a5 g.outs.length c5) W h
  rw [← hx] at Q1
  clear hx
  go_wp2_with fail
  refine (Q1 _ H0.out.2.1).mono ?_
  rintro e w1 ⟨rfl, hb1⟩
  have H1 : Hid (Below w.heap.size w w1 ∧ RGt w1 (.slice a0 g.ptns.length c0) (.slice a1 g.crss.length c1) (.slice a2 g.book.stocks.length c2) (.slice a3 g.book.lines.length c3) (.slice a4 g.dffs.length c4) (.slice a5 g.outs.length c5) g ∧ w1.heap[w.heap.size]? = some (.cells #[.string g.name, .int .i64 g.day, .slice a0 g.ptns.length c0, .slice a1 g.crss.length c1, .slice a2 g.book.stocks.length c2, .slice a3 g.book.lines.length c3, .slice a4 g.dffs.length c4, .slice a5 g.outs.length c5] 43)) := ⟨H0.out.1.trans (hb1.mono H0.out.1.size), H0.out.2.1.below hb1, (hb1.block _ hlt0).trans H0.out.2.2⟩
  have hlt1 := (Array.getElem?_eq_some_iff.1 H1.out.2.2).1
  obtain ⟨d0, d1, d2, d3, d4, d5, d6, d7⟩ := bx8 H1.out.2.2
  clear hb1 x0 x1 x2 x3 x4 x5 x6 x7 Q1
  cases x with
  | false =>
    have HN : Hid (gtxT g = ⟨#[]⟩) := gtxT_no HX.out.symm
    go_wp2
    go_ret
    exact ⟨by rw [HN.out]; rfl, H1.out.1⟩
  | true =>
    have HG : Hid (GtOk g ∧ gtxT g = txB (gtR g)) := ⟨gtOk HX.out.symm, gtxT_yes HX.out.symm⟩
    have hgl := gtL HG.out.1 HT.out
    have hdy := HG.out.1.day
    have e1 : (⟨#[100, 97, 121, 32]⟩ : ByteArray).size = 4 := rfl
    have e2 : (⟨#[10]⟩ : ByteArray).size = 1 := rfl
    obtain ⟨td, htd⟩ : ∃ td, td = decS g.day := ⟨_, rfl⟩
    obtain ⟨ts, hts⟩ : ∃ ts, ts = stkT g.book := ⟨_, rfl⟩
    obtain ⟨tl, htl⟩ : ∃ tl, tl = lnsT g.book ⟨#[]⟩ := ⟨_, rfl⟩
    obtain ⟨tf, htf⟩ : ∃ tf, tf = dfsT g.dffs := ⟨_, rfl⟩
    obtain ⟨tx, hto⟩ : ∃ tx, tx = outT g.outs := ⟨_, rfl⟩
    have z1 : td.size ≤ 20 := by rw [htd]; exact hgl.d
    have z2 : ts.size ≤ 60000 := by rw [hts]; exact hgl.s
    have z3 : tl.size ≤ 60000 := by rw [htl]; exact hgl.l
    have z4 : tf.size ≤ 1000000000 := by rw [htf]; exact hgl.f
    have z5 : tx.size ≤ 20000 := by rw [hto]; exact hgl.o
    have y0 : ∀ W, (Op.stringOp .add ((⟨#[100, 97, 121, 32]⟩ : ByteArray)) (td)).run Tryz.prog W = .ok (.string ((⟨#[100, 97, 121, 32]⟩ : ByteArray) ++ td)) W := fun W => run_string_add_sum _ _ _ (by simp only [e1]; omega)
    have y1 : ∀ W, (Op.stringOp .add (((⟨#[100, 97, 121, 32]⟩ : ByteArray) ++ td)) ((⟨#[10]⟩ : ByteArray))).run Tryz.prog W = .ok (.string (((⟨#[100, 97, 121, 32]⟩ : ByteArray) ++ td) ++ (⟨#[10]⟩ : ByteArray))) W := fun W => run_string_add_sum _ _ _ (by simp only [ByteArray.size_append, e1, e2]; omega)
    have y2 : ∀ W, (Op.stringOp .add ((((⟨#[100, 97, 121, 32]⟩ : ByteArray) ++ td) ++ (⟨#[10]⟩ : ByteArray))) (ts)).run Tryz.prog W = .ok (.string ((((⟨#[100, 97, 121, 32]⟩ : ByteArray) ++ td) ++ (⟨#[10]⟩ : ByteArray)) ++ ts)) W := fun W => run_string_add_sum _ _ _ (by simp only [ByteArray.size_append, e1, e2]; omega)
    have y3 : ∀ W, (Op.stringOp .add (((((⟨#[100, 97, 121, 32]⟩ : ByteArray) ++ td) ++ (⟨#[10]⟩ : ByteArray)) ++ ts)) (tl)).run Tryz.prog W = .ok (.string (((((⟨#[100, 97, 121, 32]⟩ : ByteArray) ++ td) ++ (⟨#[10]⟩ : ByteArray)) ++ ts) ++ tl)) W := fun W => run_string_add_sum _ _ _ (by simp only [ByteArray.size_append, e1, e2]; omega)
    have y4 : ∀ W, (Op.stringOp .add ((((((⟨#[100, 97, 121, 32]⟩ : ByteArray) ++ td) ++ (⟨#[10]⟩ : ByteArray)) ++ ts) ++ tl)) (tf)).run Tryz.prog W = .ok (.string ((((((⟨#[100, 97, 121, 32]⟩ : ByteArray) ++ td) ++ (⟨#[10]⟩ : ByteArray)) ++ ts) ++ tl) ++ tf)) W := fun W => run_string_add_sum _ _ _ (by simp only [ByteArray.size_append, e1, e2]; omega)
    have y5 : ∀ W, (Op.stringOp .add (((((((⟨#[100, 97, 121, 32]⟩ : ByteArray) ++ td) ++ (⟨#[10]⟩ : ByteArray)) ++ ts) ++ tl) ++ tf)) (tx)).run Tryz.prog W = .ok (.string (((((((⟨#[100, 97, 121, 32]⟩ : ByteArray) ++ td) ++ (⟨#[10]⟩ : ByteArray)) ++ ts) ++ tl) ++ tf) ++ tx)) W := fun W => run_string_add_sum _ _ _ (by simp only [ByteArray.size_append, e1, e2]; omega)
    have HE : Hid ((((((((⟨#[100, 97, 121, 32]⟩ : ByteArray) ++ td) ++ (⟨#[10]⟩ : ByteArray)) ++ ts) ++ tl) ++ tf) ++ tx) = gtxT g) := by show _ = _; rw [HG.out.2, htd, hts, htl, htf, hto]; exact gt_app HG.out.1
    have QD := fun W => decG_any g.day W (by omega) (by omega)
    have QS := fun W h => stockText_spec g.book (.slice a2 g.book.stocks.length c2) (.slice a3 g.book.lines.length c3) W h
    have QL := fun W h => linesText_spec g.book (.slice a2 g.book.stocks.length c2) (.slice a3 g.book.lines.length c3) ⟨#[]⟩ W h (by decide)
    have QF := fun W h => diffsText_spec (.slice a4 g.dffs.length c4) g.dffs W h HT.out
    have QO := fun W h => outboxText_spec (.slice a5 g.outs.length c5) g.outs W h
    rw [← htd] at QD
    rw [← hts] at QS
    rw [← htl] at QL
    rw [← htf] at QF
    rw [← hto] at QO
    have HC : Hid (∀ W, Below w1.heap.size w1 W → (W.cell? ⟨w.heap.size, 1, none⟩ = some (.int .i64 g.day) ∧ W.cell? ⟨w.heap.size, 4, none⟩ = some (.slice a2 g.book.stocks.length c2) ∧ W.cell? ⟨w.heap.size, 5, none⟩ = some (.slice a3 g.book.lines.length c3) ∧ W.cell? ⟨w.heap.size, 6, none⟩ = some (.slice a4 g.dffs.length c4) ∧ W.cell? ⟨w.heap.size, 7, none⟩ = some (.slice a5 g.outs.length c5)) ∧ RGt W (.slice a0 g.ptns.length c0) (.slice a1 g.crss.length c1) (.slice a2 g.book.stocks.length c2) (.slice a3 g.book.lines.length c3) (.slice a4 g.dffs.length c4) (.slice a5 g.outs.length c5) g) := fun W hW => by
      obtain ⟨q0, q1, q2, q3, q4, q5, q6, q7⟩ := bx8 ((hW.block _ hlt1).trans H1.out.2.2)
      exact ⟨⟨q1, q4, q5, q6, q7⟩, H1.out.2.1.below hW⟩
    clear htd hts htl htf hto z1 z2 z3 z4 z5 hgl e1 e2 hdy
    go_upto_region 3 with fail
    go_region_held3 (fun W => W.cell? ⟨w.heap.size, 1, none⟩ = some (.int .i64 g.day) ∧ W.cell? ⟨w.heap.size, 4, none⟩ = some (.slice a2 g.book.stocks.length c2) ∧ W.cell? ⟨w.heap.size, 5, none⟩ = some (.slice a3 g.book.lines.length c3) ∧ W.cell? ⟨w.heap.size, 6, none⟩ = some (.slice a4 g.dffs.length c4) ∧ W.cell? ⟨w.heap.size, 7, none⟩ = some (.slice a5 g.outs.length c5)) (go_keep) (first | (go_at_call 15; refine (QD _).mono ?_; rintro e wp ⟨rfl, hbp⟩; have bp : Below w1.heap.size w1 wp := (by first | exact hbp | exact undrewD hbp); obtain ⟨p1, p4, p5, p6, p7⟩ := (HC.out wp bp).1; clear hbp; try dsimp only) | (go_at_call 16; refine (QS _ (by first | exact (HC.out wp bp).2.bk | exact ((HC.out wp bp).2.below (Below.refl _ _).drew).bk)).mono ?_; rintro e wq ⟨rfl, hbq⟩; have bq : Below w1.heap.size w1 wq := bp.trans ((by first | exact hbq | exact undrewD hbq : Below wp.heap.size wp wq).mono bp.size); obtain ⟨q1, q4, q5, q6, q7⟩ := (HC.out wq bq).1; clear hbq; try dsimp only) | (go_at_call 17; refine (QL _ (by first | exact (HC.out wq bq).2.bk | exact ((HC.out wq bq).2.below (Below.refl _ _).drew).bk)).mono ?_; rintro e wr ⟨rfl, hbr⟩; have br : Below w1.heap.size w1 wr := bq.trans ((by first | exact hbr | exact undrewD hbr : Below wq.heap.size wq wr).mono bq.size); obtain ⟨r1, r4, r5, r6, r7⟩ := (HC.out wr br).1; clear hbr; try dsimp only) | (go_at_call 18; refine (QF _ (by first | exact (HC.out wr br).2.df | exact ((HC.out wr br).2.below (Below.refl _ _).drew).df)).mono ?_; rintro e wt ⟨rfl, hbt⟩; have bt : Below w1.heap.size w1 wt := br.trans ((by first | exact hbt | exact undrewD hbt : Below wr.heap.size wr wt).mono br.size); obtain ⟨t1, t4, t5, t6, t7⟩ := (HC.out wt bt).1; clear hbt; try dsimp only) | (go_at_call 19; refine (QO _ (by first | exact (HC.out wt bt).2.ou | exact ((HC.out wt bt).2.below (Below.refl _ _).drew).ou)).mono ?_; rintro e wf ⟨rfl, hbf⟩; have bf : Below w1.heap.size w1 wf := bt.trans ((by first | exact hbf | exact undrewD hbf : Below wt.heap.size wt wf).mono bt.size); obtain ⟨f1, f4, f5, f6, f7⟩ := (HC.out wf bf).1; clear hbf; try dsimp only))
    rename_i hHeld
    clear hHeld
    have HF : Hid (Below w.heap.size w wf) := H1.out.1.trans (bf.mono H1.out.1.size)
    clear bf bp bq br bt
    go_wp2
    go_ret
    exact ⟨by rw [← HE.out]; rfl, HF.out⟩
end Go.Proofs.YtamlhbjcokkmeaaGreatDoor
