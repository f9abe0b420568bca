/- Texts of ours put together: DtS, DfsS, OtS. -/
import Derived.Test.YtamlhbjcokkmeaaGreatDoorG25
import Derived.Laws.Concat
import Derived.Test.YtamlhbjcokkmeaaGreatDoorG26
import Derived.Test.YtamlhbjcokkmeaaGreatDoorG44
import Derived.Deep.RegionHeld3
namespace Go.Proofs.YtamlhbjcokkmeaaGreatDoor
open Go.ChangeShapes Go.WideShapes Go.ChangeAt Go.RowKit
set_option maxRecDepth 20000 in
set_option maxHeartbeats 8000000 in
theorem diffText_spec (d : Dff) (w : World) (hz : d.partner.size ≤ 1048576 ∧ d.ref.size ≤ 1048576 ∧ d.item.size ≤ 1048576) (hI_kind : i64B d.kind) (hI_no : i64B d.no) (hI_qty : i64B d.qty) :
    Calls Tryz.prog 56 #[.agg #[.int .i64 d.kind, .string d.partner, .string d.ref, .int .i64 d.no, .string d.item, .int .i64 d.qty]] w fun e w' => e = .returned (.string (dfT d)) ∧ Below w.heap.size w w' := by
  have z1 := (decS_long d.kind hI_kind.1 hI_kind.2).2
  have z2 := (decS_long d.no hI_no.1 hI_no.2).2
  have z3 := (decS_long d.qty hI_qty.1 hI_qty.2).2
  have e1 : (⟨#[32]⟩ : ByteArray).size = 1 := rfl
  have q0 : ∀ W, (Op.stringOp .add (decS d.kind) ((⟨#[32]⟩ : ByteArray))).run Tryz.prog W = .ok (.string (decS d.kind ++ (⟨#[32]⟩ : ByteArray))) W := fun W => run_string_add_sum _ _ _ (by simp only [e1]; omega)
  have q1 : ∀ W, (Op.stringOp .add ((decS d.kind ++ (⟨#[32]⟩ : ByteArray))) (d.partner)).run Tryz.prog W = .ok (.string ((decS d.kind ++ (⟨#[32]⟩ : ByteArray)) ++ d.partner)) W := fun W => run_string_add_sum _ _ _ (by simp only [ByteArray.size_append, e1]; omega)
  have q2 : ∀ W, (Op.stringOp .add (((decS d.kind ++ (⟨#[32]⟩ : ByteArray)) ++ d.partner)) ((⟨#[32]⟩ : ByteArray))).run Tryz.prog W = .ok (.string (((decS d.kind ++ (⟨#[32]⟩ : ByteArray)) ++ d.partner) ++ (⟨#[32]⟩ : ByteArray))) W := fun W => run_string_add_sum _ _ _ (by simp only [ByteArray.size_append, e1]; omega)
  have q3 : ∀ W, (Op.stringOp .add ((((decS d.kind ++ (⟨#[32]⟩ : ByteArray)) ++ d.partner) ++ (⟨#[32]⟩ : ByteArray))) (d.ref)).run Tryz.prog W = .ok (.string ((((decS d.kind ++ (⟨#[32]⟩ : ByteArray)) ++ d.partner) ++ (⟨#[32]⟩ : ByteArray)) ++ d.ref)) W := fun W => run_string_add_sum _ _ _ (by simp only [ByteArray.size_append, e1]; omega)
  have q4 : ∀ W, (Op.stringOp .add (((((decS d.kind ++ (⟨#[32]⟩ : ByteArray)) ++ d.partner) ++ (⟨#[32]⟩ : ByteArray)) ++ d.ref)) ((⟨#[32]⟩ : ByteArray))).run Tryz.prog W = .ok (.string (((((decS d.kind ++ (⟨#[32]⟩ : ByteArray)) ++ d.partner) ++ (⟨#[32]⟩ : ByteArray)) ++ d.ref) ++ (⟨#[32]⟩ : ByteArray))) W := fun W => run_string_add_sum _ _ _ (by simp only [ByteArray.size_append, e1]; omega)
  have q5 : ∀ W, (Op.stringOp .add ((((((decS d.kind ++ (⟨#[32]⟩ : ByteArray)) ++ d.partner) ++ (⟨#[32]⟩ : ByteArray)) ++ d.ref) ++ (⟨#[32]⟩ : ByteArray))) (decS d.no)).run Tryz.prog W = .ok (.string ((((((decS d.kind ++ (⟨#[32]⟩ : ByteArray)) ++ d.partner) ++ (⟨#[32]⟩ : ByteArray)) ++ d.ref) ++ (⟨#[32]⟩ : ByteArray)) ++ decS d.no)) W := fun W => run_string_add_sum _ _ _ (by simp only [ByteArray.size_append, e1]; omega)
  have q6 : ∀ W, (Op.stringOp .add (((((((decS d.kind ++ (⟨#[32]⟩ : ByteArray)) ++ d.partner) ++ (⟨#[32]⟩ : ByteArray)) ++ d.ref) ++ (⟨#[32]⟩ : ByteArray)) ++ decS d.no)) ((⟨#[32]⟩ : ByteArray))).run Tryz.prog W = .ok (.string (((((((decS d.kind ++ (⟨#[32]⟩ : ByteArray)) ++ d.partner) ++ (⟨#[32]⟩ : ByteArray)) ++ d.ref) ++ (⟨#[32]⟩ : ByteArray)) ++ decS d.no) ++ (⟨#[32]⟩ : ByteArray))) W := fun W => run_string_add_sum _ _ _ (by simp only [ByteArray.size_append, e1]; omega)
  have q7 : ∀ W, (Op.stringOp .add ((((((((decS d.kind ++ (⟨#[32]⟩ : ByteArray)) ++ d.partner) ++ (⟨#[32]⟩ : ByteArray)) ++ d.ref) ++ (⟨#[32]⟩ : ByteArray)) ++ decS d.no) ++ (⟨#[32]⟩ : ByteArray))) (d.item)).run Tryz.prog W = .ok (.string ((((((((decS d.kind ++ (⟨#[32]⟩ : ByteArray)) ++ d.partner) ++ (⟨#[32]⟩ : ByteArray)) ++ d.ref) ++ (⟨#[32]⟩ : ByteArray)) ++ decS d.no) ++ (⟨#[32]⟩ : ByteArray)) ++ d.item)) W := fun W => run_string_add_sum _ _ _ (by simp only [ByteArray.size_append, e1]; omega)
  have q8 : ∀ W, (Op.stringOp .add (((((((((decS d.kind ++ (⟨#[32]⟩ : ByteArray)) ++ d.partner) ++ (⟨#[32]⟩ : ByteArray)) ++ d.ref) ++ (⟨#[32]⟩ : ByteArray)) ++ decS d.no) ++ (⟨#[32]⟩ : ByteArray)) ++ d.item)) ((⟨#[32]⟩ : ByteArray))).run Tryz.prog W = .ok (.string (((((((((decS d.kind ++ (⟨#[32]⟩ : ByteArray)) ++ d.partner) ++ (⟨#[32]⟩ : ByteArray)) ++ d.ref) ++ (⟨#[32]⟩ : ByteArray)) ++ decS d.no) ++ (⟨#[32]⟩ : ByteArray)) ++ d.item) ++ (⟨#[32]⟩ : ByteArray))) W := fun W => run_string_add_sum _ _ _ (by simp only [ByteArray.size_append, e1]; omega)
  have q9 : ∀ W, (Op.stringOp .add ((((((((((decS d.kind ++ (⟨#[32]⟩ : ByteArray)) ++ d.partner) ++ (⟨#[32]⟩ : ByteArray)) ++ d.ref) ++ (⟨#[32]⟩ : ByteArray)) ++ decS d.no) ++ (⟨#[32]⟩ : ByteArray)) ++ d.item) ++ (⟨#[32]⟩ : ByteArray))) (decS d.qty)).run Tryz.prog W = .ok (.string ((((((((((decS d.kind ++ (⟨#[32]⟩ : ByteArray)) ++ d.partner) ++ (⟨#[32]⟩ : ByteArray)) ++ d.ref) ++ (⟨#[32]⟩ : ByteArray)) ++ decS d.no) ++ (⟨#[32]⟩ : ByteArray)) ++ d.item) ++ (⟨#[32]⟩ : ByteArray)) ++ decS d.qty)) W := fun W => run_string_add_sum _ _ _ (by simp only [ByteArray.size_append, e1]; omega)
  have HT : Hid (((((((((((decS d.kind ++ (⟨#[32]⟩ : ByteArray)) ++ d.partner) ++ (⟨#[32]⟩ : ByteArray)) ++ d.ref) ++ (⟨#[32]⟩ : ByteArray)) ++ decS d.no) ++ (⟨#[32]⟩ : ByteArray)) ++ d.item) ++ (⟨#[32]⟩ : ByteArray)) ++ decS d.qty) = dfT d) := dfT_app d
  obtain ⟨W0, hW0⟩ : ∃ W0, w.alloc (.cells #[.int .i64 d.kind, .string d.partner, .string d.ref, .int .i64 d.no, .string d.item, .int .i64 d.qty] 110) = W0 := ⟨_, rfl⟩
  have hb0 : Below w.heap.size w W0 := by rw [← hW0]; exact (Below.refl _ _).alloc (Nat.le_refl _) _
  have hbx : W0.heap[w.heap.size]? = some (.cells #[.int .i64 d.kind, .string d.partner, .string d.ref, .int .i64 d.no, .string d.item, .int .i64 d.qty] 110) := by rw [← hW0]; exact World.alloc_heap_new _ _
  obtain ⟨B, hB⟩ : ∃ B, B = w.heap.size := ⟨_, rfl⟩
  have HC : Hid (Below w.heap.size w W0 ∧ ∀ W, Below W0.heap.size W0 W → W.cell? ⟨B, 0, none⟩ = some (.int .i64 d.kind) ∧ W.cell? ⟨B, 1, none⟩ = some (.string d.partner) ∧ W.cell? ⟨B, 2, none⟩ = some (.string d.ref) ∧ W.cell? ⟨B, 3, none⟩ = some (.int .i64 d.no) ∧ W.cell? ⟨B, 4, none⟩ = some (.string d.item) ∧ W.cell? ⟨B, 5, none⟩ = some (.int .i64 d.qty)) := ⟨hb0, fun W hW => by
    rw [hB]
    exact box6' ((hW.block _ (Array.getElem?_eq_some_iff.1 hbx).1).trans hbx)⟩
  obtain ⟨c0, c1, c2, c3, c4, c5⟩ := HC.out.2 W0 (Below.refl _ _)
  go_enter Tryz.func56, Tryz.ntmps56
  go_upto_region 1 with fail
  try rw [hW0]
  try rw [← hB]
  clear hW0 hbx hb0 hB z1 z2 z3 e1
  go_region_held3 (fun W => W.cell? ⟨B, 0, none⟩ = some (.int .i64 d.kind) ∧ W.cell? ⟨B, 1, none⟩ = some (.string d.partner) ∧ W.cell? ⟨B, 2, none⟩ = some (.string d.ref) ∧ W.cell? ⟨B, 3, none⟩ = some (.int .i64 d.no) ∧ W.cell? ⟨B, 4, none⟩ = some (.string d.item) ∧ W.cell? ⟨B, 5, none⟩ = some (.int .i64 d.qty)) (go_keep) (first | (go_at_call_of 15 (Value.int IntKind.i64 d.kind); refine (decG_any d.kind _ hI_kind.1 hI_kind.2).mono ?_; rintro e wa ⟨rfl, hba⟩; have ba : Below W0.heap.size W0 wa := (by first | exact hba | exact undrewD hba); obtain ⟨a0, a1, a2, a3, a4, a5⟩ := HC.out.2 wa ba; clear hba; try dsimp only) | (go_at_call_of 15 (Value.int IntKind.i64 d.no); refine (decG_any d.no _ hI_no.1 hI_no.2).mono ?_; rintro e wb ⟨rfl, hbb⟩; have bb : Below W0.heap.size W0 wb := ba.trans ((by first | exact hbb | exact undrewD hbb : Below wa.heap.size wa wb).mono ba.size); obtain ⟨b0, b1, b2, b3, b4, b5⟩ := HC.out.2 wb bb; clear hbb; try dsimp only) | (go_at_call_of 15 (Value.int IntKind.i64 d.qty); refine (decG_any d.qty _ hI_qty.1 hI_qty.2).mono ?_; rintro e wf ⟨rfl, hbf⟩; have bf : Below W0.heap.size W0 wf := bb.trans ((by first | exact hbf | exact undrewD hbf : Below wb.heap.size wb wf).mono bb.size); obtain ⟨f0, f1, f2, f3, f4, f5⟩ := HC.out.2 wf bf; clear hbf; try dsimp only))
  rename_i hHeld
  clear hHeld
  have HB : Hid (Below w.heap.size w wf) := HC.out.1.trans (bf.mono HC.out.1.size)
  go_wp2
  go_ret
  exact ⟨by rw [← HT.out]; rfl, HB.out⟩
end Go.Proofs.YtamlhbjcokkmeaaGreatDoor
namespace Go.Proofs.YtamlhbjcokkmeaaGreatDoor
open Go.ChangeShapes Go.WideShapes Go.ChangeAt Go.RowKit
set_option maxRecDepth 20000 in
set_option maxHeartbeats 8000000 in
theorem diffsText_spec (v : Value) (rs : List Dff) (w : World) (h : RowDf w v rs) (hz : ∀ d ∈ rs, DfB d) : Calls Tryz.prog 18 #[v] w fun e w' => e = .returned (.string (dfsT rs)) ∧ Below w.heap.size w w' := by
  obtain ⟨A, cap, rfl⟩ := h.val
  have hlen := h.len
  have H1 : Hid (RowDf w (.slice A rs.length cap) rs ∧ (∀ d ∈ rs, DfB d)) := ⟨h, hz⟩
  clear h hz
  go_enter Tryz.func18, Tryz.ntmps18
  by_cases hg : 400 < rs.length
  · have hg' : (400 : Int) < (rs.length : Int) := by omega
    have HN : Hid (dfsT rs = ⟨#[]⟩) := dfsT_no hg
    go_wp2
    go_ret
    exact ⟨by rw [HN.out]; rfl, Below.refl _ _⟩
  have hg' : ¬ (400 : Int) < (rs.length : Int) := by omega
  have HN : Hid (dfsT rs = txB (rs.map dfR)) := dfsT_yes hg
  go_wp2_with fail
  go_loopw [3, 4] (fun tv ix wr => ∃ k : Nat, ix = .int .i64 (k : Int) ∧ k ≤ rs.length ∧ tv = .string (txB ((rs.map dfR).take k)) ∧ Below w.heap.size w wr) (fun _ ix _ => rs.length - (intOf ix).toNat)
  case atStart => exact ⟨0, rfl, by omega, rfl, Below.refl _ _⟩
  case round =>
    obtain ⟨k, rfl, hk, rfl, hb⟩ := hrel
    by_cases hlt : k < rs.length
    · have hlt' : (k : Int) < (rs.length : Int) := by omega
      obtain ⟨b, o, cap', l, e, hs, hat, hz⟩ := (H1.out.1.below hb).at hlt
      simp only [Value.slice.injEq, true_and] at e
      obtain ⟨rfl, rfl⟩ := e
      have HZ : Hid (DfB l) := H1.out.2 l (List.mem_of_getElem? hs)
      have z0 := HZ.out.len
      have ht := txR_take (rs.map dfR) k
      have ht2 := dfs_len H1.out.2
      rw [← txB_size] at ht
      have hnx := txB_next (rows := rs.map dfR) (k := k) (r := dfR l) (by rw [List.getElem?_map, hs]; rfl)
      rw [← dfs_app] at hnx
      have Q1 := diffText_spec l
      obtain ⟨x, hx⟩ : ∃ x, x = dfT l := ⟨_, rfl⟩
      rw [← hx] at hnx z0 Q1
      obtain ⟨t, htt⟩ : ∃ t, t = txB ((rs.map dfR).take k) := ⟨_, rfl⟩
      rw [← htt] at ht hnx
      try rw [← htt]
      have e2 : (⟨#[10]⟩ : ByteArray).size = 1 := rfl
      have HT : Hid (txB ((rs.map dfR).take (k + 1)) = ((t ++ x) ++ (⟨#[10]⟩ : ByteArray))) := hnx
      have q0 : ∀ W, (Op.stringOp .add t x).run Tryz.prog W = .ok (.string (t ++ x)) W := fun W => run_string_add_sum _ _ _ (by omega)
      have q1 : ∀ W, (Op.stringOp .add (t ++ x) (⟨#[10]⟩ : ByteArray)).run Tryz.prog W = .ok (.string ((t ++ x) ++ (⟨#[10]⟩ : ByteArray))) W := fun W => run_string_add_sum _ _ _ (by simp only [ByteArray.size_append, e2]; omega)
      have HB : Hid (Below w.heap.size w wr) := hb
      obtain ⟨p0, p1, p2, p3, p4, p5⟩ := hat
      clear hs hz hb hnx htt hx z0 ht ht2 e2
      go_wp2_with fail
      refine (Q1 _ HZ.out.z HZ.out.i.1 HZ.out.i.2.1 HZ.out.i.2.2).mono ?_
      rintro e w2 ⟨rfl, hb2⟩
      have HE : Hid (Below w.heap.size w w2) := HB.out.trans (hb2.mono HB.out.size)
      clear hb2
      go_wp2
      go_roundw
      case rel => exact ⟨k + 1, by go_num, by omega, by rw [HT.out], HE.out⟩
      case measure => simp [intOf]; omega
    · obtain rfl : k = rs.length := by omega
      have HE : Hid (Below w.heap.size w wr ∧ txB ((rs.map dfR).take rs.length) = dfsT rs) := ⟨hb, by rw [HN.out, List.take_of_length_le (by simp)]⟩
      clear hb
      go_wp2
      go_ret
      exact ⟨by rw [← HE.out.2]; rfl, HE.out.1⟩
end Go.Proofs.YtamlhbjcokkmeaaGreatDoor
namespace Go.Proofs.YtamlhbjcokkmeaaGreatDoor
open Go.ChangeShapes Go.WideShapes Go.ChangeAt Go.RowKit
set_option maxRecDepth 20000 in
set_option maxHeartbeats 8000000 in
theorem outboxText_spec (v : Value) (rs : List OutR) (w : World) (h : RowOu w v rs) : Calls Tryz.prog 19 #[v] w fun e w' => e = .returned (.string (outT rs)) ∧ Below w.heap.size w w' := by
  obtain ⟨A, cap, rfl⟩ := h.val
  have hlen := h.len
  have H0 : Hid (RowOu w (.slice A rs.length cap) rs) := h
  have Q1 := outboxRight_spec (.slice A rs.length cap) rs w h
  obtain ⟨x, hx⟩ : ∃ x, x = ousB rs := ⟨_, rfl⟩
  have HX : Hid (x = ousB rs) := hx
  rw [← hx] at Q1
  clear h hx
  go_enter Tryz.func19, Tryz.ntmps19
  go_wp2_with fail
  refine Q1.mono ?_
  rintro e w1 ⟨rfl, hb1⟩
  have H1 : Hid (Below w.heap.size w w1 ∧ RowOu w1 (.slice A rs.length cap) rs) := ⟨hb1, H0.out.below hb1⟩
  clear hb1 Q1
  cases x with
  | false =>
    have HN : Hid (outT rs = ⟨#[]⟩) := outT_no HX.out.symm
    go_wp2
    go_ret
    exact ⟨by rw [HN.out]; rfl, H1.out.1⟩
  | true =>
    have hR := ousB_iff.1 HX.out.symm
    have hl := hR.len
    have HN : Hid (outT rs = txB (rs.map outW) ∧ (∀ l ∈ rs, OuZ l)) := ⟨outT_yes HX.out.symm, fun l hl => by
      obtain ⟨i, hi⟩ := List.mem_iff_getElem?.1 hl
      exact ouZ (hR.at_ i l hi).ok⟩
    clear hR
    go_wp2_with fail
    go_loopw [3, 4] (fun tv ix wr => ∃ k : Nat, ix = .int .i64 (k : Int) ∧ k ≤ rs.length ∧ tv = .string (txB ((rs.map outW).take k)) ∧ Below w1.heap.size w1 wr) (fun _ ix _ => rs.length - (intOf ix).toNat)
    case atStart => exact ⟨0, rfl, by omega, rfl, Below.refl _ _⟩
    case round =>
      obtain ⟨k, rfl, hk, rfl, hb⟩ := hrel
      by_cases hlt : k < rs.length
      · have hlt' : (k : Int) < (rs.length : Int) := by omega
        obtain ⟨b, o, cap', l, e, hs, hat, hz⟩ := (H1.out.2.below hb).at hlt
        simp only [Value.slice.injEq, true_and] at e
        obtain ⟨rfl, rfl⟩ := e
        have hZ := HN.out.2 l (List.mem_of_getElem? hs)
        have hI_number := hZ.n
        have hI_tries := hZ.t
        have hI_due := hZ.d
        have z0 := hZ.p
        have z1 := (decS_long l.number hI_number.1 hI_number.2).2
        have z2 := (decS_long l.tries hI_tries.1 hI_tries.2).2
        have z3 := (decS_long l.due hI_due.1 hI_due.2).2
        have e1 : (⟨#[32]⟩ : ByteArray).size = 1 := rfl
        have e2 : (⟨#[10]⟩ : ByteArray).size = 1 := rfl
        have ht := txR_take (rs.map outW) k
        have ht2 := outs_len HN.out.2
        rw [← txB_size] at ht
        have hnx := txB_next (rows := rs.map outW) (k := k) (r := outW l) (by rw [List.getElem?_map, hs]; rfl)
        rw [← out_app] at hnx
        obtain ⟨t, htt⟩ : ∃ t, t = txB ((rs.map outW).take k) := ⟨_, rfl⟩
        rw [← htt] at ht hnx
        try rw [← htt]
        have HT : Hid (txB ((rs.map outW).take (k + 1)) = ((((((((t ++ l.partner) ++ (⟨#[32]⟩ : ByteArray)) ++ decS l.number) ++ (⟨#[32]⟩ : ByteArray)) ++ decS l.tries) ++ (⟨#[32]⟩ : ByteArray)) ++ decS l.due) ++ (⟨#[10]⟩ : ByteArray))) := hnx
        have q0 : ∀ W, (Op.stringOp .add (t) (l.partner)).run Tryz.prog W = .ok (.string (t ++ l.partner)) W := fun W => run_string_add_sum _ _ _ (by omega)
        have q1 : ∀ W, (Op.stringOp .add ((t ++ l.partner)) ((⟨#[32]⟩ : ByteArray))).run Tryz.prog W = .ok (.string ((t ++ l.partner) ++ (⟨#[32]⟩ : ByteArray))) W := fun W => run_string_add_sum _ _ _ (by simp only [ByteArray.size_append, e1]; omega)
        have q2 : ∀ W, (Op.stringOp .add (((t ++ l.partner) ++ (⟨#[32]⟩ : ByteArray))) (decS l.number)).run Tryz.prog W = .ok (.string (((t ++ l.partner) ++ (⟨#[32]⟩ : ByteArray)) ++ decS l.number)) W := fun W => run_string_add_sum _ _ _ (by simp only [ByteArray.size_append, e1]; omega)
        have q3 : ∀ W, (Op.stringOp .add ((((t ++ l.partner) ++ (⟨#[32]⟩ : ByteArray)) ++ decS l.number)) ((⟨#[32]⟩ : ByteArray))).run Tryz.prog W = .ok (.string ((((t ++ l.partner) ++ (⟨#[32]⟩ : ByteArray)) ++ decS l.number) ++ (⟨#[32]⟩ : ByteArray))) W := fun W => run_string_add_sum _ _ _ (by simp only [ByteArray.size_append, e1]; omega)
        have q4 : ∀ W, (Op.stringOp .add (((((t ++ l.partner) ++ (⟨#[32]⟩ : ByteArray)) ++ decS l.number) ++ (⟨#[32]⟩ : ByteArray))) (decS l.tries)).run Tryz.prog W = .ok (.string (((((t ++ l.partner) ++ (⟨#[32]⟩ : ByteArray)) ++ decS l.number) ++ (⟨#[32]⟩ : ByteArray)) ++ decS l.tries)) W := fun W => run_string_add_sum _ _ _ (by simp only [ByteArray.size_append, e1]; omega)
        have q5 : ∀ W, (Op.stringOp .add ((((((t ++ l.partner) ++ (⟨#[32]⟩ : ByteArray)) ++ decS l.number) ++ (⟨#[32]⟩ : ByteArray)) ++ decS l.tries)) ((⟨#[32]⟩ : ByteArray))).run Tryz.prog W = .ok (.string ((((((t ++ l.partner) ++ (⟨#[32]⟩ : ByteArray)) ++ decS l.number) ++ (⟨#[32]⟩ : ByteArray)) ++ decS l.tries) ++ (⟨#[32]⟩ : ByteArray))) W := fun W => run_string_add_sum _ _ _ (by simp only [ByteArray.size_append, e1]; omega)
        have q6 : ∀ W, (Op.stringOp .add (((((((t ++ l.partner) ++ (⟨#[32]⟩ : ByteArray)) ++ decS l.number) ++ (⟨#[32]⟩ : ByteArray)) ++ decS l.tries) ++ (⟨#[32]⟩ : ByteArray))) (decS l.due)).run Tryz.prog W = .ok (.string (((((((t ++ l.partner) ++ (⟨#[32]⟩ : ByteArray)) ++ decS l.number) ++ (⟨#[32]⟩ : ByteArray)) ++ decS l.tries) ++ (⟨#[32]⟩ : ByteArray)) ++ decS l.due)) W := fun W => run_string_add_sum _ _ _ (by simp only [ByteArray.size_append, e1]; omega)
        have q7 : ∀ W, (Op.stringOp .add ((((((((t ++ l.partner) ++ (⟨#[32]⟩ : ByteArray)) ++ decS l.number) ++ (⟨#[32]⟩ : ByteArray)) ++ decS l.tries) ++ (⟨#[32]⟩ : ByteArray)) ++ decS l.due)) ((⟨#[10]⟩ : ByteArray))).run Tryz.prog W = .ok (.string ((((((((t ++ l.partner) ++ (⟨#[32]⟩ : ByteArray)) ++ decS l.number) ++ (⟨#[32]⟩ : ByteArray)) ++ decS l.tries) ++ (⟨#[32]⟩ : ByteArray)) ++ decS l.due) ++ (⟨#[10]⟩ : ByteArray))) W := fun W => run_string_add_sum _ _ _ (by simp only [ByteArray.size_append, e1, e2]; omega)
        obtain ⟨p0, p1, p2, p3, p4⟩ := hat
        have hsz := hb.size
        obtain ⟨W0, hW0⟩ : ∃ W0, wr.alloc (.cells #[.string l.partner, .int .i64 l.number, .string l.text, .int .i64 l.tries, .int .i64 l.due] 111) = W0 := ⟨_, rfl⟩
        obtain ⟨P, hP⟩ : ∃ P, P = wr.heap.size := ⟨_, rfl⟩
        have hbx : W0.heap[P]? = some (.cells #[.string l.partner, .int .i64 l.number, .string l.text, .int .i64 l.tries, .int .i64 l.due] 111) := by rw [← hW0, hP]; exact World.alloc_heap_new _ _
        have HC : Hid (Below w1.heap.size w1 W0 ∧ ∀ W, Below W0.heap.size W0 W → W.cell? ⟨P, 0, none⟩ = some (.string l.partner) ∧ W.cell? ⟨P, 1, none⟩ = some (.int .i64 l.number) ∧ W.cell? ⟨P, 2, none⟩ = some (.string l.text) ∧ W.cell? ⟨P, 3, none⟩ = some (.int .i64 l.tries) ∧ W.cell? ⟨P, 4, none⟩ = some (.int .i64 l.due)) := ⟨by rw [← hW0]; exact hb.alloc hsz _, fun W hW => box5 ((hW.block _ (Array.getElem?_eq_some_iff.1 hbx).1).trans hbx)⟩
        have HW : Hid (wr.alloc (.cells #[.string l.partner, .int .i64 l.number, .string l.text, .int .i64 l.tries, .int .i64 l.due] 111) = W0 ∧ P = wr.heap.size) := ⟨hW0, hP⟩
        clear hs hz hb hnx hW0 hP hbx hZ htt z0 z1 z2 z3 e1 e2 ht ht2
        go_upto_region 8 with fail
        rw [HW.out.1, ← HW.out.2]
        clear p0 p1 p2 p3 p4 HW
        obtain ⟨c0, c1, c2, c3, c4⟩ := HC.out.2 W0 (Below.refl _ _)
        go_region_held3 (fun W => W.cell? ⟨P, 0, none⟩ = some (.string l.partner) ∧ W.cell? ⟨P, 1, none⟩ = some (.int .i64 l.number) ∧ W.cell? ⟨P, 2, none⟩ = some (.string l.text) ∧ W.cell? ⟨P, 3, none⟩ = some (.int .i64 l.tries) ∧ W.cell? ⟨P, 4, none⟩ = some (.int .i64 l.due)) (go_keep) (first | (go_at_call_of 15 (Value.int IntKind.i64 l.number); refine (decG_any l.number _ hI_number.1 hI_number.2).mono ?_; rintro e wa ⟨rfl, hba⟩; have ba : Below W0.heap.size W0 wa := (by first | exact hba | exact undrewD hba); obtain ⟨a0, a1, a2, a3, a4⟩ := HC.out.2 wa ba; clear hba; try dsimp only) | (go_at_call_of 15 (Value.int IntKind.i64 l.tries); refine (decG_any l.tries _ hI_tries.1 hI_tries.2).mono ?_; rintro e wb ⟨rfl, hbb⟩; have bb : Below W0.heap.size W0 wb := ba.trans ((by first | exact hbb | exact undrewD hbb : Below wa.heap.size wa wb).mono ba.size); obtain ⟨b0, b1, b2, b3, b4⟩ := HC.out.2 wb bb; clear hbb; try dsimp only) | (go_at_call_of 15 (Value.int IntKind.i64 l.due); refine (decG_any l.due _ hI_due.1 hI_due.2).mono ?_; rintro e wf ⟨rfl, hbf⟩; have bf : Below W0.heap.size W0 wf := bb.trans ((by first | exact hbf | exact undrewD hbf : Below wb.heap.size wb wf).mono bb.size); obtain ⟨f0, f1, f2, f3, f4⟩ := HC.out.2 wf bf; clear hbf; try dsimp only))
        rename_i hHeld
        clear hHeld
        have HE : Hid (Below w1.heap.size w1 wf) := HC.out.1.trans (bf.mono HC.out.1.size)
        clear bf ba bb
        go_wp2
        go_roundw
        case rel => exact ⟨k + 1, by go_num, by omega, by rw [HT.out], HE.out⟩
        case measure => simp [intOf]; omega
      · obtain rfl : k = rs.length := by omega
        have HE : Hid (Below w.heap.size w wr ∧ txB ((rs.map outW).take rs.length) = outT rs) := ⟨H1.out.1.trans (hb.mono H1.out.1.size), by rw [HN.out.1, List.take_of_length_le (by simp)]⟩
        clear hb
        go_wp2
        go_ret
        exact ⟨by rw [← HE.out.2]; rfl, HE.out.1⟩
end Go.Proofs.YtamlhbjcokkmeaaGreatDoor
