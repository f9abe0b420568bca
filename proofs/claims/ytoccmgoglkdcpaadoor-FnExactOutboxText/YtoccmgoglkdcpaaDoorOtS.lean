/- Contract of the model's OutboxText. -/
import Derived.Test.YtoccmgoglkdcpaaDoorOtP
import Derived.Test.YtoccmgoglkdcpaaDoorOuS
import Derived.Deep.RegionHeld3
import Derived.Laws.Concat
namespace Go.Proofs.YtoccmgoglkdcpaaDoor
open Go.ChangeShapes Go.WideShapes Go.ChangeAt Go.RowKit
set_option maxRecDepth 20000 in
set_option maxHeartbeats 8000000 in
theorem outboxText_spec (v : Value) (rs : List OutR) (w : World) (h : RowOu w v rs) : Calls Tryd.prog 17 #[v] w fun e w' => e = .returned (.string (outT rs)) ∧ Below w.heap.size w w' := by
  obtain ⟨A, cap, rfl⟩ := h.val
  have hlen := h.len
  have H0 : Hid (RowOu w (.slice A rs.length cap) rs) := h
  have Q1 := outboxRight_spec (.slice A rs.length cap) rs w h
  obtain ⟨x, hx⟩ : ∃ x, x = ousB rs := ⟨_, rfl⟩
  have HX : Hid (x = ousB rs) := hx
  rw [← hx] at Q1
  clear h hx
  go_enter Tryd.func17, Tryd.ntmps17
  go_wp2_with fail
  refine Q1.mono ?_
  rintro e w1 ⟨rfl, hb1⟩
  have H1 : Hid (Below w.heap.size w w1 ∧ RowOu w1 (.slice A rs.length cap) rs) := ⟨hb1, H0.out.below hb1⟩
  clear hb1 Q1
  cases x with
  | false =>
    have HN : Hid (outT rs = ⟨#[]⟩) := outT_no HX.out.symm
    go_wp2
    go_ret
    exact ⟨by rw [HN.out]; rfl, H1.out.1⟩
  | true =>
    have hR := ousB_iff.1 HX.out.symm
    have hl := hR.len
    have HN : Hid (outT rs = txB (rs.map outW) ∧ (∀ l ∈ rs, OuZ l)) := ⟨outT_yes HX.out.symm, fun l hl => by
      obtain ⟨i, hi⟩ := List.mem_iff_getElem?.1 hl
      exact ouZ (hR.at_ i l hi).ok⟩
    clear hR
    go_wp2_with fail
    go_loopw [3, 4] (fun tv ix wr => ∃ k : Nat, ix = .int .i64 (k : Int) ∧ k ≤ rs.length ∧ tv = .string (txB ((rs.map outW).take k)) ∧ Below w1.heap.size w1 wr) (fun _ ix _ => rs.length - (intOf ix).toNat)
    case atStart => exact ⟨0, rfl, by omega, rfl, Below.refl _ _⟩
    case round =>
      obtain ⟨k, rfl, hk, rfl, hb⟩ := hrel
      by_cases hlt : k < rs.length
      · have hlt' : (k : Int) < (rs.length : Int) := by omega
        obtain ⟨b, o, cap', l, e, hs, hat, hz⟩ := (H1.out.2.below hb).at hlt
        simp only [Value.slice.injEq, true_and] at e
        obtain ⟨rfl, rfl⟩ := e
        have hZ := HN.out.2 l (List.mem_of_getElem? hs)
        have hI_number := hZ.n
        have hI_tries := hZ.t
        have hI_due := hZ.d
        have z0 := hZ.p
        have z1 := (decS_long l.number hI_number.1 hI_number.2).2
        have z2 := (decS_long l.tries hI_tries.1 hI_tries.2).2
        have z3 := (decS_long l.due hI_due.1 hI_due.2).2
        have e1 : (⟨#[32]⟩ : ByteArray).size = 1 := rfl
        have e2 : (⟨#[10]⟩ : ByteArray).size = 1 := rfl
        have ht := txR_take (rs.map outW) k
        have ht2 := outs_len HN.out.2
        rw [← txB_size] at ht
        have hnx := txB_next (rows := rs.map outW) (k := k) (r := outW l) (by rw [List.getElem?_map, hs]; rfl)
        rw [← out_app] at hnx
        obtain ⟨t, htt⟩ : ∃ t, t = txB ((rs.map outW).take k) := ⟨_, rfl⟩
        rw [← htt] at ht hnx
        try rw [← htt]
        have HT : Hid (txB ((rs.map outW).take (k + 1)) = ((((((((t ++ l.partner) ++ (⟨#[32]⟩ : ByteArray)) ++ decS l.number) ++ (⟨#[32]⟩ : ByteArray)) ++ decS l.tries) ++ (⟨#[32]⟩ : ByteArray)) ++ decS l.due) ++ (⟨#[10]⟩ : ByteArray))) := hnx
        have q0 : ∀ W, (Op.stringOp .add (t) (l.partner)).run Tryd.prog W = .ok (.string (t ++ l.partner)) W := fun W => run_string_add_sum _ _ _ (by omega)
        have q1 : ∀ W, (Op.stringOp .add ((t ++ l.partner)) ((⟨#[32]⟩ : ByteArray))).run Tryd.prog W = .ok (.string ((t ++ l.partner) ++ (⟨#[32]⟩ : ByteArray))) W := fun W => run_string_add_sum _ _ _ (by simp only [ByteArray.size_append, e1]; omega)
        have q2 : ∀ W, (Op.stringOp .add (((t ++ l.partner) ++ (⟨#[32]⟩ : ByteArray))) (decS l.number)).run Tryd.prog W = .ok (.string (((t ++ l.partner) ++ (⟨#[32]⟩ : ByteArray)) ++ decS l.number)) W := fun W => run_string_add_sum _ _ _ (by simp only [ByteArray.size_append, e1]; omega)
        have q3 : ∀ W, (Op.stringOp .add ((((t ++ l.partner) ++ (⟨#[32]⟩ : ByteArray)) ++ decS l.number)) ((⟨#[32]⟩ : ByteArray))).run Tryd.prog W = .ok (.string ((((t ++ l.partner) ++ (⟨#[32]⟩ : ByteArray)) ++ decS l.number) ++ (⟨#[32]⟩ : ByteArray))) W := fun W => run_string_add_sum _ _ _ (by simp only [ByteArray.size_append, e1]; omega)
        have q4 : ∀ W, (Op.stringOp .add (((((t ++ l.partner) ++ (⟨#[32]⟩ : ByteArray)) ++ decS l.number) ++ (⟨#[32]⟩ : ByteArray))) (decS l.tries)).run Tryd.prog W = .ok (.string (((((t ++ l.partner) ++ (⟨#[32]⟩ : ByteArray)) ++ decS l.number) ++ (⟨#[32]⟩ : ByteArray)) ++ decS l.tries)) W := fun W => run_string_add_sum _ _ _ (by simp only [ByteArray.size_append, e1]; omega)
        have q5 : ∀ W, (Op.stringOp .add ((((((t ++ l.partner) ++ (⟨#[32]⟩ : ByteArray)) ++ decS l.number) ++ (⟨#[32]⟩ : ByteArray)) ++ decS l.tries)) ((⟨#[32]⟩ : ByteArray))).run Tryd.prog W = .ok (.string ((((((t ++ l.partner) ++ (⟨#[32]⟩ : ByteArray)) ++ decS l.number) ++ (⟨#[32]⟩ : ByteArray)) ++ decS l.tries) ++ (⟨#[32]⟩ : ByteArray))) W := fun W => run_string_add_sum _ _ _ (by simp only [ByteArray.size_append, e1]; omega)
        have q6 : ∀ W, (Op.stringOp .add (((((((t ++ l.partner) ++ (⟨#[32]⟩ : ByteArray)) ++ decS l.number) ++ (⟨#[32]⟩ : ByteArray)) ++ decS l.tries) ++ (⟨#[32]⟩ : ByteArray))) (decS l.due)).run Tryd.prog W = .ok (.string (((((((t ++ l.partner) ++ (⟨#[32]⟩ : ByteArray)) ++ decS l.number) ++ (⟨#[32]⟩ : ByteArray)) ++ decS l.tries) ++ (⟨#[32]⟩ : ByteArray)) ++ decS l.due)) W := fun W => run_string_add_sum _ _ _ (by simp only [ByteArray.size_append, e1]; omega)
        have q7 : ∀ W, (Op.stringOp .add ((((((((t ++ l.partner) ++ (⟨#[32]⟩ : ByteArray)) ++ decS l.number) ++ (⟨#[32]⟩ : ByteArray)) ++ decS l.tries) ++ (⟨#[32]⟩ : ByteArray)) ++ decS l.due)) ((⟨#[10]⟩ : ByteArray))).run Tryd.prog W = .ok (.string ((((((((t ++ l.partner) ++ (⟨#[32]⟩ : ByteArray)) ++ decS l.number) ++ (⟨#[32]⟩ : ByteArray)) ++ decS l.tries) ++ (⟨#[32]⟩ : ByteArray)) ++ decS l.due) ++ (⟨#[10]⟩ : ByteArray))) W := fun W => run_string_add_sum _ _ _ (by simp only [ByteArray.size_append, e1, e2]; omega)
        obtain ⟨p0, p1, p2, p3, p4⟩ := hat
        have hsz := hb.size
        obtain ⟨W0, hW0⟩ : ∃ W0, wr.alloc (.cells #[.string l.partner, .int .i64 l.number, .string l.text, .int .i64 l.tries, .int .i64 l.due] 78) = W0 := ⟨_, rfl⟩
        obtain ⟨P, hP⟩ : ∃ P, P = wr.heap.size := ⟨_, rfl⟩
        have hbx : W0.heap[P]? = some (.cells #[.string l.partner, .int .i64 l.number, .string l.text, .int .i64 l.tries, .int .i64 l.due] 78) := by rw [← hW0, hP]; exact World.alloc_heap_new _ _
        have HC : Hid (Below w1.heap.size w1 W0 ∧ ∀ W, Below W0.heap.size W0 W → W.cell? ⟨P, 0, none⟩ = some (.string l.partner) ∧ W.cell? ⟨P, 1, none⟩ = some (.int .i64 l.number) ∧ W.cell? ⟨P, 2, none⟩ = some (.string l.text) ∧ W.cell? ⟨P, 3, none⟩ = some (.int .i64 l.tries) ∧ W.cell? ⟨P, 4, none⟩ = some (.int .i64 l.due)) := ⟨by rw [← hW0]; exact hb.alloc hsz _, fun W hW => box5 ((hW.block _ (Array.getElem?_eq_some_iff.1 hbx).1).trans hbx)⟩
        have HW : Hid (wr.alloc (.cells #[.string l.partner, .int .i64 l.number, .string l.text, .int .i64 l.tries, .int .i64 l.due] 78) = W0 ∧ P = wr.heap.size) := ⟨hW0, hP⟩
        clear hs hz hb hnx hW0 hP hbx hZ htt z0 z1 z2 z3 e1 e2 ht ht2
        go_upto_region 8 with fail
        rw [HW.out.1, ← HW.out.2]
        clear p0 p1 p2 p3 p4 HW
        obtain ⟨c0, c1, c2, c3, c4⟩ := HC.out.2 W0 (Below.refl _ _)
        go_region_held3 (fun W => W.cell? ⟨P, 0, none⟩ = some (.string l.partner) ∧ W.cell? ⟨P, 1, none⟩ = some (.int .i64 l.number) ∧ W.cell? ⟨P, 2, none⟩ = some (.string l.text) ∧ W.cell? ⟨P, 3, none⟩ = some (.int .i64 l.tries) ∧ W.cell? ⟨P, 4, none⟩ = some (.int .i64 l.due)) (go_keep) (first | (go_at_call_of 26 (Value.int IntKind.i64 l.number); refine (decG_any l.number _ hI_number.1 hI_number.2).mono ?_; rintro e wa ⟨rfl, hba⟩; have ba : Below W0.heap.size W0 wa := (by first | exact hba | exact undrewD hba); obtain ⟨a0, a1, a2, a3, a4⟩ := HC.out.2 wa ba; clear hba; try dsimp only) | (go_at_call_of 26 (Value.int IntKind.i64 l.tries); refine (decG_any l.tries _ hI_tries.1 hI_tries.2).mono ?_; rintro e wb ⟨rfl, hbb⟩; have bb : Below W0.heap.size W0 wb := ba.trans ((by first | exact hbb | exact undrewD hbb : Below wa.heap.size wa wb).mono ba.size); obtain ⟨b0, b1, b2, b3, b4⟩ := HC.out.2 wb bb; clear hbb; try dsimp only) | (go_at_call_of 26 (Value.int IntKind.i64 l.due); refine (decG_any l.due _ hI_due.1 hI_due.2).mono ?_; rintro e wf ⟨rfl, hbf⟩; have bf : Below W0.heap.size W0 wf := bb.trans ((by first | exact hbf | exact undrewD hbf : Below wb.heap.size wb wf).mono bb.size); obtain ⟨f0, f1, f2, f3, f4⟩ := HC.out.2 wf bf; clear hbf; try dsimp only))
        rename_i hHeld
        clear hHeld
        have HE : Hid (Below w1.heap.size w1 wf) := HC.out.1.trans (bf.mono HC.out.1.size)
        clear bf ba bb
        go_wp2
        go_roundw
        case rel => exact ⟨k + 1, by go_num, by omega, by rw [HT.out], HE.out⟩
        case measure => simp [intOf]; omega
      · obtain rfl : k = rs.length := by omega
        have HE : Hid (Below w.heap.size w wr ∧ txB ((rs.map outW).take rs.length) = outT rs) := ⟨H1.out.1.trans (hb.mono H1.out.1.size), by rw [HN.out.1, List.take_of_length_le (by simp)]⟩
        clear hb
        go_wp2
        go_ret
        exact ⟨by rw [← HE.out.2]; rfl, HE.out.1⟩
end Go.Proofs.YtoccmgoglkdcpaaDoor
