/- Texts of ours put together: LtS. -/
import Derived.Test.YtamlhbjcokkmeaaGreatDoorG24
import Derived.Test.YtamlhbjcokkmeaaGreatDoorG44
import Derived.Test.YtamlhbjcokkmeaaGreatDoorG48
import Derived.Test.YtamlhbjcokkmeaaGreatDoorG22
import Derived.Deep.RegionHeld3
import Derived.Deep.Cut
import Derived.Deep.CutRange
import Derived.Laws.Concat
import Derived.BigQuiet
namespace Go.Proofs.YtamlhbjcokkmeaaGreatDoor
open Go.ChangeShapes Go.WideShapes Go.ChangeAt Go.RowKit Go.Sort
set_option maxRecDepth 20000 in
set_option maxHeartbeats 16000000 in
theorem linesText_spec (p : Bk) (us ul : Value) (q : ByteArray) (w : World) (h : RBk w us ul p) (hq : q.size ≤ 1048576) : Calls Tryz.prog 17 #[.agg #[us, ul], .string q] w fun e w' => e = .returned (.string (lnsT p q)) ∧ Below w.heap.size w w' := by
  have hlen := h.ln.len
  obtain ⟨a, c, a', c', rfl, rfl⟩ := h.val
  obtain ⟨W0, hW0⟩ : ∃ W0, w.alloc (.cells #[.slice a p.stocks.length c, .slice a' p.lines.length c'] 39) = W0 := ⟨_, rfl⟩
  have hb0 : Below w.heap.size w W0 := by rw [← hW0]; exact (Below.refl _ _).alloc (Nat.le_refl _) _
  have hbx : W0.heap[w.heap.size]? = some (.cells #[.slice a p.stocks.length c, .slice a' p.lines.length c'] 39) := by rw [← hW0]; exact World.alloc_heap_new _ _
  have H0 : Hid (Below w.heap.size w W0 ∧ RBk W0 (.slice a p.stocks.length c) (.slice a' p.lines.length c') p ∧ W0.heap[w.heap.size]? = some (.cells #[.slice a p.stocks.length c, .slice a' p.lines.length c'] 39)) := ⟨hb0, h.below hb0, hbx⟩
  obtain ⟨c0, c1⟩ := box2 hbx
  have hlt0 := (Array.getElem?_eq_some_iff.1 hbx).1
  clear h hb0 hbx
  go_enter Tryz.func17, Tryz.ntmps17
  go_upto_region 1 with fail
  try rw [hW0]
  clear hW0
  by_cases l1 : 20000 < q.size
  · have l1' : (20000 : Int) < (q.size : Int) := by omega
    have HN : Hid (lnsT p q = ⟨#[]⟩) := lnsT_long l1
    go_wp2
    go_ret
    exact ⟨by rw [HN.out]; rfl, H0.out.1⟩
  have l1' : ¬ (20000 : Int) < (q.size : Int) := by omega
  obtain ⟨x, hx⟩ : ∃ x, x = bkB p := ⟨_, rfl⟩
  have HX : Hid (x = bkB p) := hx
  have Q1 := fun W h => bookRight_spec p (.slice a p.stocks.length c) (.slice a' p.lines.length c') W h
  rw [← hx] at Q1
  clear hx
  go_wp2_with fail
  refine (Q1 _ H0.out.2.1).mono ?_
  rintro e w1 ⟨rfl, hb1⟩
  have H1 : Hid (Below w.heap.size w w1 ∧ RowOl w1 (.slice a' p.lines.length c') p.lines ∧ w1.heap[w.heap.size]? = some (.cells #[.slice a p.stocks.length c, .slice a' p.lines.length c'] 39)) := ⟨H0.out.1.trans (hb1.mono H0.out.1.size), (H0.out.2.1.below hb1).ln, (hb1.block _ hlt0).trans H0.out.2.2⟩
  have hlt1 := (Array.getElem?_eq_some_iff.1 H1.out.2.2).1
  obtain ⟨d0, d1⟩ := box2 H1.out.2.2
  clear hb1 c0 c1 Q1 d0
  cases x with
  | false =>
    have HN : Hid (lnsT p q = ⟨#[]⟩) := lnsT_no l1 HX.out.symm
    go_wp2
    go_ret
    exact ⟨by rw [HN.out]; rfl, H1.out.1⟩
  | true =>
    have hR := (bkB_iff.1 HX.out.symm).2
    have hl := hR.len
    have HK : Hid (∀ l ∈ p.lines, LnOk l) := hR.ok
    have HN : Hid (lnsT p q = txB ((p.lines.filter (goB q)).map lnW)) := lnsT_yes l1 HX.out.symm
    clear hR
    obtain ⟨rs, hrs⟩ : ∃ rs, rs = p.lines := ⟨_, rfl⟩
    rw [← hrs] at hl hlen d1
    have HR : Hid (rs = p.lines) := hrs
    have HRow : Hid (RowOl w1 (.slice a' rs.length c') rs) := by rw [hrs]; exact H1.out.2.1
    have HB1 : Hid (∀ W, Below w1.heap.size w1 W → W.cell? ⟨w.heap.size, 1, none⟩ = some (.slice a' rs.length c')) := fun W hW => by
      have := (hW.block _ hlt1).trans H1.out.2.2
      rw [← HR.out] at this
      exact (box2 this).2
    clear hrs
    have mixed : Tryz.prog.follows .mixedOrders = true := by kernel_rfl
    go_wp2_with fail
    go_loopw [5, 6] (fun tv ix wr => ∃ k : Nat, ix = .int .i64 (k : Int) ∧ k ≤ rs.length ∧ tv = .string (txB ((lnK q rs k).map lnW)) ∧ Below w1.heap.size w1 wr) (fun _ ix _ => rs.length - (intOf ix).toNat)
    case atStart => exact ⟨0, rfl, by omega, rfl, Below.refl _ _⟩
    case round =>
      obtain ⟨k, rfl, hk, rfl, hb⟩ := hrel
      have d1 := HB1.out wr hb
      by_cases hlt : k < rs.length
      · have hlt' : (k : Int) < (rs.length : Int) := by omega
        obtain ⟨b, o, cap', l, e, hs, hat, hz⟩ := (HRow.out.below hb).at hlt
        simp only [Value.slice.injEq, true_and] at e
        obtain ⟨rfl, rfl⟩ := e
        have HS : Hid (rs[k]? = some l) := hs
        have hok := HK.out l (by rw [← HR.out]; exact List.mem_of_getElem? hs)
        have hZ := lnZ hok
        have hI_no := hZ.n
        have hI_ordered := hZ.o
        have hI_sent := hZ.s
        have hI_got := hZ.g
        have hI_cut := hZ.c
        have z0 := hZ.p
        have z1 := hZ.r
        have z2 := hZ.i
        have z3 := (decS_long l.no hI_no.1 hI_no.2).2
        have z4 := (decS_long l.ordered hI_ordered.1 hI_ordered.2).2
        have z5 := (decS_long l.sent hI_sent.1 hI_sent.2).2
        have z6 := (decS_long l.got hI_got.1 hI_got.2).2
        have z7 := (decS_long l.cut hI_cut.1 hI_cut.2).2
        have hkl := lnK_len q rs k
        have ht2 : (txR ((lnK q rs k).map lnW)).length ≤ 300 * (lnK q rs k).length := lns_len fun l' hl' => lnZ (HK.out l' (by rw [← HR.out]; exact lnK_mem hl'))
        rw [← txB_size] at ht2
        obtain ⟨t, htt⟩ : ∃ t, t = txB ((lnK q rs k).map lnW) := ⟨_, rfl⟩
        rw [← htt] at ht2
        try rw [← htt]
        have hnx : goB q l = true → txB ((lnK q rs (k + 1)).map lnW) = ((((((((((((((((t ++ l.partner) ++ (⟨#[32]⟩ : ByteArray)) ++ l.ref) ++ (⟨#[32]⟩ : ByteArray)) ++ decS l.no) ++ (⟨#[32]⟩ : ByteArray)) ++ l.item) ++ (⟨#[32, 111, 114, 100, 101, 114, 101, 100, 32]⟩ : ByteArray)) ++ decS l.ordered) ++ (⟨#[32, 115, 101, 110, 116, 32]⟩ : ByteArray)) ++ decS l.sent) ++ (⟨#[32, 103, 111, 116, 32]⟩ : ByteArray)) ++ decS l.got) ++ (⟨#[32, 99, 117, 116, 32]⟩ : ByteArray)) ++ decS l.cut) ++ (⟨#[10]⟩ : ByteArray)) := fun hg => by
          rw [ln_app, lnK_yes HS.out hg, htt]
          unfold txB
          rw [List.map_append, txR_app]
          apply ByteArray.ext
          apply Array.toList_inj.1
          simp [ByteArray.data_append, txR]
        have HT : Hid ((goB q l = true → txB ((lnK q rs (k + 1)).map lnW) = ((((((((((((((((t ++ l.partner) ++ (⟨#[32]⟩ : ByteArray)) ++ l.ref) ++ (⟨#[32]⟩ : ByteArray)) ++ decS l.no) ++ (⟨#[32]⟩ : ByteArray)) ++ l.item) ++ (⟨#[32, 111, 114, 100, 101, 114, 101, 100, 32]⟩ : ByteArray)) ++ decS l.ordered) ++ (⟨#[32, 115, 101, 110, 116, 32]⟩ : ByteArray)) ++ decS l.sent) ++ (⟨#[32, 103, 111, 116, 32]⟩ : ByteArray)) ++ decS l.got) ++ (⟨#[32, 99, 117, 116, 32]⟩ : ByteArray)) ++ decS l.cut) ++ (⟨#[10]⟩ : ByteArray))) ∧ (goB q l = false → txB ((lnK q rs (k + 1)).map lnW) = t)) := ⟨hnx, fun hg => by rw [lnK_no HS.out hg, htt]⟩
        have ht3 : t.size ≤ 60000 := by omega
        have e0 : (⟨#[32]⟩ : ByteArray).size = 1 := rfl
        have e1 : (⟨#[32, 111, 114, 100, 101, 114, 101, 100, 32]⟩ : ByteArray).size = 9 := rfl
        have e2 : (⟨#[32, 115, 101, 110, 116, 32]⟩ : ByteArray).size = 6 := rfl
        have e3 : (⟨#[32, 103, 111, 116, 32]⟩ : ByteArray).size = 5 := rfl
        have e4 : (⟨#[32, 99, 117, 116, 32]⟩ : ByteArray).size = 5 := rfl
        have e5 : (⟨#[10]⟩ : ByteArray).size = 1 := rfl
        have y0 : ∀ W, (Op.stringOp .add (t) (l.partner)).run Tryz.prog W = .ok (.string (t ++ l.partner)) W := fun W => run_string_add_sum _ _ _ (by omega)
        have y1 : ∀ W, (Op.stringOp .add ((t ++ l.partner)) ((⟨#[32]⟩ : ByteArray))).run Tryz.prog W = .ok (.string ((t ++ l.partner) ++ (⟨#[32]⟩ : ByteArray))) W := fun W => run_string_add_sum _ _ _ (by simp only [ByteArray.size_append, e0]; omega)
        have y2 : ∀ W, (Op.stringOp .add (((t ++ l.partner) ++ (⟨#[32]⟩ : ByteArray))) (l.ref)).run Tryz.prog W = .ok (.string (((t ++ l.partner) ++ (⟨#[32]⟩ : ByteArray)) ++ l.ref)) W := fun W => run_string_add_sum _ _ _ (by simp only [ByteArray.size_append, e0]; omega)
        have y3 : ∀ W, (Op.stringOp .add ((((t ++ l.partner) ++ (⟨#[32]⟩ : ByteArray)) ++ l.ref)) ((⟨#[32]⟩ : ByteArray))).run Tryz.prog W = .ok (.string ((((t ++ l.partner) ++ (⟨#[32]⟩ : ByteArray)) ++ l.ref) ++ (⟨#[32]⟩ : ByteArray))) W := fun W => run_string_add_sum _ _ _ (by simp only [ByteArray.size_append, e0]; omega)
        have y4 : ∀ W, (Op.stringOp .add (((((t ++ l.partner) ++ (⟨#[32]⟩ : ByteArray)) ++ l.ref) ++ (⟨#[32]⟩ : ByteArray))) (decS l.no)).run Tryz.prog W = .ok (.string (((((t ++ l.partner) ++ (⟨#[32]⟩ : ByteArray)) ++ l.ref) ++ (⟨#[32]⟩ : ByteArray)) ++ decS l.no)) W := fun W => run_string_add_sum _ _ _ (by simp only [ByteArray.size_append, e0]; omega)
        have y5 : ∀ W, (Op.stringOp .add ((((((t ++ l.partner) ++ (⟨#[32]⟩ : ByteArray)) ++ l.ref) ++ (⟨#[32]⟩ : ByteArray)) ++ decS l.no)) ((⟨#[32]⟩ : ByteArray))).run Tryz.prog W = .ok (.string ((((((t ++ l.partner) ++ (⟨#[32]⟩ : ByteArray)) ++ l.ref) ++ (⟨#[32]⟩ : ByteArray)) ++ decS l.no) ++ (⟨#[32]⟩ : ByteArray))) W := fun W => run_string_add_sum _ _ _ (by simp only [ByteArray.size_append, e0]; omega)
        have y6 : ∀ W, (Op.stringOp .add (((((((t ++ l.partner) ++ (⟨#[32]⟩ : ByteArray)) ++ l.ref) ++ (⟨#[32]⟩ : ByteArray)) ++ decS l.no) ++ (⟨#[32]⟩ : ByteArray))) (l.item)).run Tryz.prog W = .ok (.string (((((((t ++ l.partner) ++ (⟨#[32]⟩ : ByteArray)) ++ l.ref) ++ (⟨#[32]⟩ : ByteArray)) ++ decS l.no) ++ (⟨#[32]⟩ : ByteArray)) ++ l.item)) W := fun W => run_string_add_sum _ _ _ (by simp only [ByteArray.size_append, e0]; omega)
        have y7 : ∀ W, (Op.stringOp .add ((((((((t ++ l.partner) ++ (⟨#[32]⟩ : ByteArray)) ++ l.ref) ++ (⟨#[32]⟩ : ByteArray)) ++ decS l.no) ++ (⟨#[32]⟩ : ByteArray)) ++ l.item)) ((⟨#[32, 111, 114, 100, 101, 114, 101, 100, 32]⟩ : ByteArray))).run Tryz.prog W = .ok (.string ((((((((t ++ l.partner) ++ (⟨#[32]⟩ : ByteArray)) ++ l.ref) ++ (⟨#[32]⟩ : ByteArray)) ++ decS l.no) ++ (⟨#[32]⟩ : ByteArray)) ++ l.item) ++ (⟨#[32, 111, 114, 100, 101, 114, 101, 100, 32]⟩ : ByteArray))) W := fun W => run_string_add_sum _ _ _ (by simp only [ByteArray.size_append, e0, e1]; omega)
        have y8 : ∀ W, (Op.stringOp .add (((((((((t ++ l.partner) ++ (⟨#[32]⟩ : ByteArray)) ++ l.ref) ++ (⟨#[32]⟩ : ByteArray)) ++ decS l.no) ++ (⟨#[32]⟩ : ByteArray)) ++ l.item) ++ (⟨#[32, 111, 114, 100, 101, 114, 101, 100, 32]⟩ : ByteArray))) (decS l.ordered)).run Tryz.prog W = .ok (.string (((((((((t ++ l.partner) ++ (⟨#[32]⟩ : ByteArray)) ++ l.ref) ++ (⟨#[32]⟩ : ByteArray)) ++ decS l.no) ++ (⟨#[32]⟩ : ByteArray)) ++ l.item) ++ (⟨#[32, 111, 114, 100, 101, 114, 101, 100, 32]⟩ : ByteArray)) ++ decS l.ordered)) W := fun W => run_string_add_sum _ _ _ (by simp only [ByteArray.size_append, e0, e1]; omega)
        have y9 : ∀ W, (Op.stringOp .add ((((((((((t ++ l.partner) ++ (⟨#[32]⟩ : ByteArray)) ++ l.ref) ++ (⟨#[32]⟩ : ByteArray)) ++ decS l.no) ++ (⟨#[32]⟩ : ByteArray)) ++ l.item) ++ (⟨#[32, 111, 114, 100, 101, 114, 101, 100, 32]⟩ : ByteArray)) ++ decS l.ordered)) ((⟨#[32, 115, 101, 110, 116, 32]⟩ : ByteArray))).run Tryz.prog W = .ok (.string ((((((((((t ++ l.partner) ++ (⟨#[32]⟩ : ByteArray)) ++ l.ref) ++ (⟨#[32]⟩ : ByteArray)) ++ decS l.no) ++ (⟨#[32]⟩ : ByteArray)) ++ l.item) ++ (⟨#[32, 111, 114, 100, 101, 114, 101, 100, 32]⟩ : ByteArray)) ++ decS l.ordered) ++ (⟨#[32, 115, 101, 110, 116, 32]⟩ : ByteArray))) W := fun W => run_string_add_sum _ _ _ (by simp only [ByteArray.size_append, e0, e1, e2]; omega)
        have y10 : ∀ W, (Op.stringOp .add (((((((((((t ++ l.partner) ++ (⟨#[32]⟩ : ByteArray)) ++ l.ref) ++ (⟨#[32]⟩ : ByteArray)) ++ decS l.no) ++ (⟨#[32]⟩ : ByteArray)) ++ l.item) ++ (⟨#[32, 111, 114, 100, 101, 114, 101, 100, 32]⟩ : ByteArray)) ++ decS l.ordered) ++ (⟨#[32, 115, 101, 110, 116, 32]⟩ : ByteArray))) (decS l.sent)).run Tryz.prog W = .ok (.string (((((((((((t ++ l.partner) ++ (⟨#[32]⟩ : ByteArray)) ++ l.ref) ++ (⟨#[32]⟩ : ByteArray)) ++ decS l.no) ++ (⟨#[32]⟩ : ByteArray)) ++ l.item) ++ (⟨#[32, 111, 114, 100, 101, 114, 101, 100, 32]⟩ : ByteArray)) ++ decS l.ordered) ++ (⟨#[32, 115, 101, 110, 116, 32]⟩ : ByteArray)) ++ decS l.sent)) W := fun W => run_string_add_sum _ _ _ (by simp only [ByteArray.size_append, e0, e1, e2]; omega)
        have y11 : ∀ W, (Op.stringOp .add ((((((((((((t ++ l.partner) ++ (⟨#[32]⟩ : ByteArray)) ++ l.ref) ++ (⟨#[32]⟩ : ByteArray)) ++ decS l.no) ++ (⟨#[32]⟩ : ByteArray)) ++ l.item) ++ (⟨#[32, 111, 114, 100, 101, 114, 101, 100, 32]⟩ : ByteArray)) ++ decS l.ordered) ++ (⟨#[32, 115, 101, 110, 116, 32]⟩ : ByteArray)) ++ decS l.sent)) ((⟨#[32, 103, 111, 116, 32]⟩ : ByteArray))).run Tryz.prog W = .ok (.string ((((((((((((t ++ l.partner) ++ (⟨#[32]⟩ : ByteArray)) ++ l.ref) ++ (⟨#[32]⟩ : ByteArray)) ++ decS l.no) ++ (⟨#[32]⟩ : ByteArray)) ++ l.item) ++ (⟨#[32, 111, 114, 100, 101, 114, 101, 100, 32]⟩ : ByteArray)) ++ decS l.ordered) ++ (⟨#[32, 115, 101, 110, 116, 32]⟩ : ByteArray)) ++ decS l.sent) ++ (⟨#[32, 103, 111, 116, 32]⟩ : ByteArray))) W := fun W => run_string_add_sum _ _ _ (by simp only [ByteArray.size_append, e0, e1, e2, e3]; omega)
        have y12 : ∀ W, (Op.stringOp .add (((((((((((((t ++ l.partner) ++ (⟨#[32]⟩ : ByteArray)) ++ l.ref) ++ (⟨#[32]⟩ : ByteArray)) ++ decS l.no) ++ (⟨#[32]⟩ : ByteArray)) ++ l.item) ++ (⟨#[32, 111, 114, 100, 101, 114, 101, 100, 32]⟩ : ByteArray)) ++ decS l.ordered) ++ (⟨#[32, 115, 101, 110, 116, 32]⟩ : ByteArray)) ++ decS l.sent) ++ (⟨#[32, 103, 111, 116, 32]⟩ : ByteArray))) (decS l.got)).run Tryz.prog W = .ok (.string (((((((((((((t ++ l.partner) ++ (⟨#[32]⟩ : ByteArray)) ++ l.ref) ++ (⟨#[32]⟩ : ByteArray)) ++ decS l.no) ++ (⟨#[32]⟩ : ByteArray)) ++ l.item) ++ (⟨#[32, 111, 114, 100, 101, 114, 101, 100, 32]⟩ : ByteArray)) ++ decS l.ordered) ++ (⟨#[32, 115, 101, 110, 116, 32]⟩ : ByteArray)) ++ decS l.sent) ++ (⟨#[32, 103, 111, 116, 32]⟩ : ByteArray)) ++ decS l.got)) W := fun W => run_string_add_sum _ _ _ (by simp only [ByteArray.size_append, e0, e1, e2, e3]; omega)
        have y13 : ∀ W, (Op.stringOp .add ((((((((((((((t ++ l.partner) ++ (⟨#[32]⟩ : ByteArray)) ++ l.ref) ++ (⟨#[32]⟩ : ByteArray)) ++ decS l.no) ++ (⟨#[32]⟩ : ByteArray)) ++ l.item) ++ (⟨#[32, 111, 114, 100, 101, 114, 101, 100, 32]⟩ : ByteArray)) ++ decS l.ordered) ++ (⟨#[32, 115, 101, 110, 116, 32]⟩ : ByteArray)) ++ decS l.sent) ++ (⟨#[32, 103, 111, 116, 32]⟩ : ByteArray)) ++ decS l.got)) ((⟨#[32, 99, 117, 116, 32]⟩ : ByteArray))).run Tryz.prog W = .ok (.string ((((((((((((((t ++ l.partner) ++ (⟨#[32]⟩ : ByteArray)) ++ l.ref) ++ (⟨#[32]⟩ : ByteArray)) ++ decS l.no) ++ (⟨#[32]⟩ : ByteArray)) ++ l.item) ++ (⟨#[32, 111, 114, 100, 101, 114, 101, 100, 32]⟩ : ByteArray)) ++ decS l.ordered) ++ (⟨#[32, 115, 101, 110, 116, 32]⟩ : ByteArray)) ++ decS l.sent) ++ (⟨#[32, 103, 111, 116, 32]⟩ : ByteArray)) ++ decS l.got) ++ (⟨#[32, 99, 117, 116, 32]⟩ : ByteArray))) W := fun W => run_string_add_sum _ _ _ (by simp only [ByteArray.size_append, e0, e1, e2, e3, e4]; omega)
        have y14 : ∀ W, (Op.stringOp .add (((((((((((((((t ++ l.partner) ++ (⟨#[32]⟩ : ByteArray)) ++ l.ref) ++ (⟨#[32]⟩ : ByteArray)) ++ decS l.no) ++ (⟨#[32]⟩ : ByteArray)) ++ l.item) ++ (⟨#[32, 111, 114, 100, 101, 114, 101, 100, 32]⟩ : ByteArray)) ++ decS l.ordered) ++ (⟨#[32, 115, 101, 110, 116, 32]⟩ : ByteArray)) ++ decS l.sent) ++ (⟨#[32, 103, 111, 116, 32]⟩ : ByteArray)) ++ decS l.got) ++ (⟨#[32, 99, 117, 116, 32]⟩ : ByteArray))) (decS l.cut)).run Tryz.prog W = .ok (.string (((((((((((((((t ++ l.partner) ++ (⟨#[32]⟩ : ByteArray)) ++ l.ref) ++ (⟨#[32]⟩ : ByteArray)) ++ decS l.no) ++ (⟨#[32]⟩ : ByteArray)) ++ l.item) ++ (⟨#[32, 111, 114, 100, 101, 114, 101, 100, 32]⟩ : ByteArray)) ++ decS l.ordered) ++ (⟨#[32, 115, 101, 110, 116, 32]⟩ : ByteArray)) ++ decS l.sent) ++ (⟨#[32, 103, 111, 116, 32]⟩ : ByteArray)) ++ decS l.got) ++ (⟨#[32, 99, 117, 116, 32]⟩ : ByteArray)) ++ decS l.cut)) W := fun W => run_string_add_sum _ _ _ (by simp only [ByteArray.size_append, e0, e1, e2, e3, e4]; omega)
        have y15 : ∀ W, (Op.stringOp .add ((((((((((((((((t ++ l.partner) ++ (⟨#[32]⟩ : ByteArray)) ++ l.ref) ++ (⟨#[32]⟩ : ByteArray)) ++ decS l.no) ++ (⟨#[32]⟩ : ByteArray)) ++ l.item) ++ (⟨#[32, 111, 114, 100, 101, 114, 101, 100, 32]⟩ : ByteArray)) ++ decS l.ordered) ++ (⟨#[32, 115, 101, 110, 116, 32]⟩ : ByteArray)) ++ decS l.sent) ++ (⟨#[32, 103, 111, 116, 32]⟩ : ByteArray)) ++ decS l.got) ++ (⟨#[32, 99, 117, 116, 32]⟩ : ByteArray)) ++ decS l.cut)) ((⟨#[10]⟩ : ByteArray))).run Tryz.prog W = .ok (.string ((((((((((((((((t ++ l.partner) ++ (⟨#[32]⟩ : ByteArray)) ++ l.ref) ++ (⟨#[32]⟩ : ByteArray)) ++ decS l.no) ++ (⟨#[32]⟩ : ByteArray)) ++ l.item) ++ (⟨#[32, 111, 114, 100, 101, 114, 101, 100, 32]⟩ : ByteArray)) ++ decS l.ordered) ++ (⟨#[32, 115, 101, 110, 116, 32]⟩ : ByteArray)) ++ decS l.sent) ++ (⟨#[32, 103, 111, 116, 32]⟩ : ByteArray)) ++ decS l.got) ++ (⟨#[32, 99, 117, 116, 32]⟩ : ByteArray)) ++ decS l.cut) ++ (⟨#[10]⟩ : ByteArray))) W := fun W => run_string_add_sum _ _ _ (by simp only [ByteArray.size_append, e0, e1, e2, e3, e4, e5]; omega)
        obtain ⟨p0, p1, p2, p3, p4, p5, p6, p7⟩ := hat
        have hsz := hb.size
        obtain ⟨W0, hW0⟩ : ∃ W0, wr.alloc (.cells #[.string l.partner, .string l.ref, .int .i64 l.no, .string l.item, .int .i64 l.ordered, .int .i64 l.sent, .int .i64 l.got, .int .i64 l.cut] 107) = W0 := ⟨_, rfl⟩
        obtain ⟨P, hP⟩ : ∃ P, P = wr.heap.size := ⟨_, rfl⟩
        have hbx : W0.heap[P]? = some (.cells #[.string l.partner, .string l.ref, .int .i64 l.no, .string l.item, .int .i64 l.ordered, .int .i64 l.sent, .int .i64 l.got, .int .i64 l.cut] 107) := by rw [← hW0, hP]; exact World.alloc_heap_new _ _
        have HC0 : Hid (Below w1.heap.size w1 W0 ∧ W0.heap[P]? = some (.cells #[.string l.partner, .string l.ref, .int .i64 l.no, .string l.item, .int .i64 l.ordered, .int .i64 l.sent, .int .i64 l.got, .int .i64 l.cut] 107)) := ⟨by rw [← hW0]; exact hb.alloc hsz _, hbx⟩
        have HW : Hid (wr.alloc (.cells #[.string l.partner, .string l.ref, .int .i64 l.no, .string l.item, .int .i64 l.ordered, .int .i64 l.sent, .int .i64 l.got, .int .i64 l.cut] 107) = W0 ∧ P = wr.heap.size) := ⟨hW0, hP⟩
        clear hs hz hb hnx hW0 hP hZ htt z0 z1 z2 z3 z4 z5 z6 z7 e0 e1 e2 e3 e4 e5 ht2 ht3 hkl hok
        go_upto_region 8 with fail
        rw [HW.out.1, ← HW.out.2]
        clear p0 p1 p2 p3 p4 p5 p6 p7 HW
        obtain ⟨c0, c1, c2, c3, c4, c5, c6, c7⟩ := box8 hbx
        have l0 := cell_lt c0
        have f0 := cell_grown l0 c0
        have f1 := cell_grown l0 c1
        have f2 := cell_grown l0 c2
        have f3 := cell_grown l0 c3
        have f4 := cell_grown l0 c4
        have f5 := cell_grown l0 c5
        have f6 := cell_grown l0 c6
        have f7 := cell_grown l0 c7
        clear c0 c1 c2 c3 c4 c5 c6 c7 hbx
        have Q2 := lineOpen_grows l
        have Q3 := lineTransit_grows l
        have HG : Hid (goB q l = (isB q l && !(opnT l + trnT l == 0))) := by
          show _ = _
          have h1 := opnT_bound l
          have h2 := trnT_bound l
          unfold goB
          congr 2
          rw [Bool.eq_iff_iff]
          simp only [Bool.and_eq_true, beq_iff_eq]
          omega
        obtain ⟨f, hf⟩ : ∃ f, f = opnT l := ⟨_, rfl⟩
        obtain ⟨g, hg⟩ : ∃ g, g = trnT l := ⟨_, rfl⟩
        have hfb := opnT_bound l
        have hgb := trnT_bound l
        rw [← hf] at Q2 hfb
        rw [← hg] at Q3 hgb
        obtain ⟨hf0, hf1⟩ := hfb
        obtain ⟨hg0, hg1⟩ := hgb
        have HG2 : Hid (goB q l = (isB q l && !(f + g == 0))) := by rw [hf, hg]; exact HG.out
        obtain ⟨bad, hbad⟩ : ∃ bad : Bool, bad = !(isB q l && !(f + g == 0)) := ⟨_, rfl⟩
        have HD : Hid (goB q l = !bad) := by show _ = _; rw [HG2.out, hbad, Bool.not_not]
        have hw : IntKind.i64.wrap (f + g) = f + g := by rw [IntKind.wrap_i64]; omega
        clear hf hg
        go_cut [44] from 29 to 43 (fun t wx => t = .bool bad ∧ Below W0.heap.size W0 wx)
        case first =>
          cases e2 : q.toList.isEmpty with
          | true =>
            cases es : (f + g == 0) with
            | true =>
              obtain rfl : bad = true := by rw [hbad]; simp [isB, *]
              clear hbad
              refine wp_region_quiet_grown mixed (by kernel_rfl) ?_
              repeat (go_big_quiet_step (first | (go_at_call 54; refine Calls.grown_of (Q2 _)) | (go_at_call 55; refine Calls.grown_of (Q3 _))))
              refine wpQuiet_nil ?_
              intro _ hw'
              obtain ⟨⟨nq, osq⟩, hw''⟩ := hw'
              subst hw''
              go_wp2_with fail
              go_meet
              exact ⟨rfl, Grw.below ⟨nq, osq, rfl⟩⟩
            | false =>
              obtain rfl : bad = false := by rw [hbad]; simp [isB, *]
              clear hbad
              refine wp_region_quiet_grown mixed (by kernel_rfl) ?_
              repeat (go_big_quiet_step (first | (go_at_call 54; refine Calls.grown_of (Q2 _)) | (go_at_call 55; refine Calls.grown_of (Q3 _))))
              refine wpQuiet_nil ?_
              intro _ hw'
              obtain ⟨⟨nq, osq⟩, hw''⟩ := hw'
              subst hw''
              go_wp2_with fail
              go_meet
              exact ⟨rfl, Grw.below ⟨nq, osq, rfl⟩⟩
          | false =>
            cases e3 : (l.partner.toList == q.toList) with
            | true =>
              cases es : (f + g == 0) with
              | true =>
                obtain rfl : bad = true := by rw [hbad]; simp [isB, *]
                clear hbad
                refine wp_region_quiet_grown mixed (by kernel_rfl) ?_
                repeat (go_big_quiet_step (first | (go_at_call 54; refine Calls.grown_of (Q2 _)) | (go_at_call 55; refine Calls.grown_of (Q3 _))))
                refine wpQuiet_nil ?_
                intro _ hw'
                obtain ⟨⟨nq, osq⟩, hw''⟩ := hw'
                subst hw''
                go_wp2_with fail
                go_meet
                exact ⟨rfl, Grw.below ⟨nq, osq, rfl⟩⟩
              | false =>
                obtain rfl : bad = false := by rw [hbad]; simp [isB, *]
                clear hbad
                refine wp_region_quiet_grown mixed (by kernel_rfl) ?_
                repeat (go_big_quiet_step (first | (go_at_call 54; refine Calls.grown_of (Q2 _)) | (go_at_call 55; refine Calls.grown_of (Q3 _))))
                refine wpQuiet_nil ?_
                intro _ hw'
                obtain ⟨⟨nq, osq⟩, hw''⟩ := hw'
                subst hw''
                go_wp2_with fail
                go_meet
                exact ⟨rfl, Grw.below ⟨nq, osq, rfl⟩⟩
            | false =>
              obtain rfl : bad = true := by rw [hbad]; simp [isB, *]
              clear hbad
              refine wp_region_quiet_grown mixed (by kernel_rfl) ?_
              repeat (go_big_quiet_step (first | (go_at_call 54; refine Calls.grown_of (Q2 _)) | (go_at_call 55; refine Calls.grown_of (Q3 _))))
              refine wpQuiet_nil ?_
              intro _ hw'
              obtain ⟨⟨nq, osq⟩, hw''⟩ := hw'
              subst hw''
              go_wp2_with fail
              go_meet
              exact ⟨rfl, Grw.below ⟨nq, osq, rfl⟩⟩
        case rest =>
          obtain ⟨rfl, hbX⟩ := hcut
          rename World => X
          have hltP := (Array.getElem?_eq_some_iff.1 HC0.out.2).1
          have hX := (hbX.block _ hltP).trans HC0.out.2
          have HC : Hid (Below w1.heap.size w1 X ∧ ∀ W, Below X.heap.size X W → W.cell? ⟨P, 0, none⟩ = some (.string l.partner) ∧ W.cell? ⟨P, 1, none⟩ = some (.string l.ref) ∧ W.cell? ⟨P, 2, none⟩ = some (.int .i64 l.no) ∧ W.cell? ⟨P, 3, none⟩ = some (.string l.item) ∧ W.cell? ⟨P, 4, none⟩ = some (.int .i64 l.ordered) ∧ W.cell? ⟨P, 5, none⟩ = some (.int .i64 l.sent) ∧ W.cell? ⟨P, 6, none⟩ = some (.int .i64 l.got) ∧ W.cell? ⟨P, 7, none⟩ = some (.int .i64 l.cut)) := ⟨HC0.out.1.trans (hbX.mono HC0.out.1.size), fun W hW => box8 ((hW.block _ (Array.getElem?_eq_some_iff.1 hX).1).trans hX)⟩
          clear hbX hltP hX hbad
          cases bad with
          | true =>
            have HT2 : Hid (txB ((lnK q rs (k + 1)).map lnW) = t) := HT.out.2 HD.out
            go_wp2
            go_roundw
            case rel => exact ⟨k + 1, by go_num, by omega, by rw [HT2.out], HC.out.1⟩
            case measure => simp [intOf]; omega
          | false =>
            have HT2 : Hid (txB ((lnK q rs (k + 1)).map lnW) = ((((((((((((((((t ++ l.partner) ++ (⟨#[32]⟩ : ByteArray)) ++ l.ref) ++ (⟨#[32]⟩ : ByteArray)) ++ decS l.no) ++ (⟨#[32]⟩ : ByteArray)) ++ l.item) ++ (⟨#[32, 111, 114, 100, 101, 114, 101, 100, 32]⟩ : ByteArray)) ++ decS l.ordered) ++ (⟨#[32, 115, 101, 110, 116, 32]⟩ : ByteArray)) ++ decS l.sent) ++ (⟨#[32, 103, 111, 116, 32]⟩ : ByteArray)) ++ decS l.got) ++ (⟨#[32, 99, 117, 116, 32]⟩ : ByteArray)) ++ decS l.cut) ++ (⟨#[10]⟩ : ByteArray))) := HT.out.1 HD.out
            obtain ⟨c0, c1, c2, c3, c4, c5, c6, c7⟩ := HC.out.2 X (Below.refl _ _)
            go_upto_region 9 with fail
            go_region_held3 (fun W => W.cell? ⟨P, 0, none⟩ = some (.string l.partner) ∧ W.cell? ⟨P, 1, none⟩ = some (.string l.ref) ∧ W.cell? ⟨P, 2, none⟩ = some (.int .i64 l.no) ∧ W.cell? ⟨P, 3, none⟩ = some (.string l.item) ∧ W.cell? ⟨P, 4, none⟩ = some (.int .i64 l.ordered) ∧ W.cell? ⟨P, 5, none⟩ = some (.int .i64 l.sent) ∧ W.cell? ⟨P, 6, none⟩ = some (.int .i64 l.got) ∧ W.cell? ⟨P, 7, none⟩ = some (.int .i64 l.cut)) (go_keep) (first | (go_at_call_of 15 (Value.int IntKind.i64 l.no); refine (decG_any l.no _ hI_no.1 hI_no.2).mono ?_; rintro e wa ⟨rfl, hba⟩; have ba : Below X.heap.size X wa := (by first | exact hba | exact undrewD hba); obtain ⟨a0, a1, a2, a3, a4, a5, a6, a7⟩ := HC.out.2 wa ba; clear hba; try dsimp only) | (go_at_call_of 15 (Value.int IntKind.i64 l.ordered); refine (decG_any l.ordered _ hI_ordered.1 hI_ordered.2).mono ?_; rintro e wb ⟨rfl, hbb⟩; have bb : Below X.heap.size X wb := ba.trans ((by first | exact hbb | exact undrewD hbb : Below wa.heap.size wa wb).mono ba.size); obtain ⟨b0, b1, b2, b3, b4, b5, b6, b7⟩ := HC.out.2 wb bb; clear hbb; try dsimp only) | (go_at_call_of 15 (Value.int IntKind.i64 l.sent); refine (decG_any l.sent _ hI_sent.1 hI_sent.2).mono ?_; rintro e wg ⟨rfl, hbg⟩; have bg : Below X.heap.size X wg := bb.trans ((by first | exact hbg | exact undrewD hbg : Below wb.heap.size wb wg).mono bb.size); obtain ⟨g0, g1, g2, g3, g4, g5, g6, g7⟩ := HC.out.2 wg bg; clear hbg; try dsimp only) | (go_at_call_of 15 (Value.int IntKind.i64 l.got); refine (decG_any l.got _ hI_got.1 hI_got.2).mono ?_; rintro e wh ⟨rfl, hbh⟩; have bh : Below X.heap.size X wh := bg.trans ((by first | exact hbh | exact undrewD hbh : Below wg.heap.size wg wh).mono bg.size); obtain ⟨h0, h1, h2, h3, h4, h5, h6, h7⟩ := HC.out.2 wh bh; clear hbh; try dsimp only) | (go_at_call_of 15 (Value.int IntKind.i64 l.cut); refine (decG_any l.cut _ hI_cut.1 hI_cut.2).mono ?_; rintro e wf ⟨rfl, hbf⟩; have bf : Below X.heap.size X wf := bh.trans ((by first | exact hbf | exact undrewD hbf : Below wh.heap.size wh wf).mono bh.size); obtain ⟨f0, f1, f2, f3, f4, f5, f6, f7⟩ := HC.out.2 wf bf; clear hbf; try dsimp only))
            rename_i hHeld
            clear hHeld
            have HE : Hid (Below w1.heap.size w1 wf) := HC.out.1.trans (bf.mono HC.out.1.size)
            clear bf ba bb bg bh
            go_wp2
            go_roundw
            case rel => exact ⟨k + 1, by go_num, by omega, by rw [HT2.out], HE.out⟩
            case measure => simp [intOf]; omega
      · obtain rfl : k = rs.length := by omega
        have HE : Hid (Below w.heap.size w wr ∧ txB ((lnK q rs rs.length).map lnW) = lnsT p q) := ⟨H1.out.1.trans (hb.mono H1.out.1.size), by rw [HN.out, lnK_all, HR.out]⟩
        clear hb
        go_wp2
        go_ret
        exact ⟨by rw [← HE.out.2]; rfl, HE.out.1⟩
end Go.Proofs.YtamlhbjcokkmeaaGreatDoor
