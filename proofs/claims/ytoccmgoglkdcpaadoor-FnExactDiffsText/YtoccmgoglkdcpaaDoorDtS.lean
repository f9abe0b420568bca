/- Contract of the model's DiffText. -/
import Derived.Test.YtoccmgoglkdcpaaDoorDtI
import Derived.Laws.Concat
namespace Go.Proofs.YtoccmgoglkdcpaaDoor
open Go.ChangeShapes Go.WideShapes Go.ChangeAt Go.RowKit
set_option maxRecDepth 20000 in
set_option maxHeartbeats 8000000 in
theorem diffText_spec (d : Dff) (w : World) (hz : d.partner.size ≤ 1048576 ∧ d.ref.size ≤ 1048576 ∧ d.item.size ≤ 1048576) (hI_kind : i64B d.kind) (hI_no : i64B d.no) (hI_qty : i64B d.qty) :
    Calls Tryd.prog 35 #[.agg #[.int .i64 d.kind, .string d.partner, .string d.ref, .int .i64 d.no, .string d.item, .int .i64 d.qty]] w fun e w' => e = .returned (.string (dfT d)) ∧ Below w.heap.size w w' := by
  have z1 := (decS_long d.kind hI_kind.1 hI_kind.2).2
  have z2 := (decS_long d.no hI_no.1 hI_no.2).2
  have z3 := (decS_long d.qty hI_qty.1 hI_qty.2).2
  have e1 : (⟨#[32]⟩ : ByteArray).size = 1 := rfl
  have q0 : ∀ W, (Op.stringOp .add (decS d.kind) ((⟨#[32]⟩ : ByteArray))).run Tryd.prog W = .ok (.string (decS d.kind ++ (⟨#[32]⟩ : ByteArray))) W := fun W => run_string_add_sum _ _ _ (by simp only [e1]; omega)
  have q1 : ∀ W, (Op.stringOp .add ((decS d.kind ++ (⟨#[32]⟩ : ByteArray))) (d.partner)).run Tryd.prog W = .ok (.string ((decS d.kind ++ (⟨#[32]⟩ : ByteArray)) ++ d.partner)) W := fun W => run_string_add_sum _ _ _ (by simp only [ByteArray.size_append, e1]; omega)
  have q2 : ∀ W, (Op.stringOp .add (((decS d.kind ++ (⟨#[32]⟩ : ByteArray)) ++ d.partner)) ((⟨#[32]⟩ : ByteArray))).run Tryd.prog W = .ok (.string (((decS d.kind ++ (⟨#[32]⟩ : ByteArray)) ++ d.partner) ++ (⟨#[32]⟩ : ByteArray))) W := fun W => run_string_add_sum _ _ _ (by simp only [ByteArray.size_append, e1]; omega)
  have q3 : ∀ W, (Op.stringOp .add ((((decS d.kind ++ (⟨#[32]⟩ : ByteArray)) ++ d.partner) ++ (⟨#[32]⟩ : ByteArray))) (d.ref)).run Tryd.prog W = .ok (.string ((((decS d.kind ++ (⟨#[32]⟩ : ByteArray)) ++ d.partner) ++ (⟨#[32]⟩ : ByteArray)) ++ d.ref)) W := fun W => run_string_add_sum _ _ _ (by simp only [ByteArray.size_append, e1]; omega)
  have q4 : ∀ W, (Op.stringOp .add (((((decS d.kind ++ (⟨#[32]⟩ : ByteArray)) ++ d.partner) ++ (⟨#[32]⟩ : ByteArray)) ++ d.ref)) ((⟨#[32]⟩ : ByteArray))).run Tryd.prog W = .ok (.string (((((decS d.kind ++ (⟨#[32]⟩ : ByteArray)) ++ d.partner) ++ (⟨#[32]⟩ : ByteArray)) ++ d.ref) ++ (⟨#[32]⟩ : ByteArray))) W := fun W => run_string_add_sum _ _ _ (by simp only [ByteArray.size_append, e1]; omega)
  have q5 : ∀ W, (Op.stringOp .add ((((((decS d.kind ++ (⟨#[32]⟩ : ByteArray)) ++ d.partner) ++ (⟨#[32]⟩ : ByteArray)) ++ d.ref) ++ (⟨#[32]⟩ : ByteArray))) (decS d.no)).run Tryd.prog W = .ok (.string ((((((decS d.kind ++ (⟨#[32]⟩ : ByteArray)) ++ d.partner) ++ (⟨#[32]⟩ : ByteArray)) ++ d.ref) ++ (⟨#[32]⟩ : ByteArray)) ++ decS d.no)) W := fun W => run_string_add_sum _ _ _ (by simp only [ByteArray.size_append, e1]; omega)
  have q6 : ∀ W, (Op.stringOp .add (((((((decS d.kind ++ (⟨#[32]⟩ : ByteArray)) ++ d.partner) ++ (⟨#[32]⟩ : ByteArray)) ++ d.ref) ++ (⟨#[32]⟩ : ByteArray)) ++ decS d.no)) ((⟨#[32]⟩ : ByteArray))).run Tryd.prog W = .ok (.string (((((((decS d.kind ++ (⟨#[32]⟩ : ByteArray)) ++ d.partner) ++ (⟨#[32]⟩ : ByteArray)) ++ d.ref) ++ (⟨#[32]⟩ : ByteArray)) ++ decS d.no) ++ (⟨#[32]⟩ : ByteArray))) W := fun W => run_string_add_sum _ _ _ (by simp only [ByteArray.size_append, e1]; omega)
  have q7 : ∀ W, (Op.stringOp .add ((((((((decS d.kind ++ (⟨#[32]⟩ : ByteArray)) ++ d.partner) ++ (⟨#[32]⟩ : ByteArray)) ++ d.ref) ++ (⟨#[32]⟩ : ByteArray)) ++ decS d.no) ++ (⟨#[32]⟩ : ByteArray))) (d.item)).run Tryd.prog W = .ok (.string ((((((((decS d.kind ++ (⟨#[32]⟩ : ByteArray)) ++ d.partner) ++ (⟨#[32]⟩ : ByteArray)) ++ d.ref) ++ (⟨#[32]⟩ : ByteArray)) ++ decS d.no) ++ (⟨#[32]⟩ : ByteArray)) ++ d.item)) W := fun W => run_string_add_sum _ _ _ (by simp only [ByteArray.size_append, e1]; omega)
  have q8 : ∀ W, (Op.stringOp .add (((((((((decS d.kind ++ (⟨#[32]⟩ : ByteArray)) ++ d.partner) ++ (⟨#[32]⟩ : ByteArray)) ++ d.ref) ++ (⟨#[32]⟩ : ByteArray)) ++ decS d.no) ++ (⟨#[32]⟩ : ByteArray)) ++ d.item)) ((⟨#[32]⟩ : ByteArray))).run Tryd.prog W = .ok (.string (((((((((decS d.kind ++ (⟨#[32]⟩ : ByteArray)) ++ d.partner) ++ (⟨#[32]⟩ : ByteArray)) ++ d.ref) ++ (⟨#[32]⟩ : ByteArray)) ++ decS d.no) ++ (⟨#[32]⟩ : ByteArray)) ++ d.item) ++ (⟨#[32]⟩ : ByteArray))) W := fun W => run_string_add_sum _ _ _ (by simp only [ByteArray.size_append, e1]; omega)
  have q9 : ∀ W, (Op.stringOp .add ((((((((((decS d.kind ++ (⟨#[32]⟩ : ByteArray)) ++ d.partner) ++ (⟨#[32]⟩ : ByteArray)) ++ d.ref) ++ (⟨#[32]⟩ : ByteArray)) ++ decS d.no) ++ (⟨#[32]⟩ : ByteArray)) ++ d.item) ++ (⟨#[32]⟩ : ByteArray))) (decS d.qty)).run Tryd.prog W = .ok (.string ((((((((((decS d.kind ++ (⟨#[32]⟩ : ByteArray)) ++ d.partner) ++ (⟨#[32]⟩ : ByteArray)) ++ d.ref) ++ (⟨#[32]⟩ : ByteArray)) ++ decS d.no) ++ (⟨#[32]⟩ : ByteArray)) ++ d.item) ++ (⟨#[32]⟩ : ByteArray)) ++ decS d.qty)) W := fun W => run_string_add_sum _ _ _ (by simp only [ByteArray.size_append, e1]; omega)
  have HT : Hid (((((((((((decS d.kind ++ (⟨#[32]⟩ : ByteArray)) ++ d.partner) ++ (⟨#[32]⟩ : ByteArray)) ++ d.ref) ++ (⟨#[32]⟩ : ByteArray)) ++ decS d.no) ++ (⟨#[32]⟩ : ByteArray)) ++ d.item) ++ (⟨#[32]⟩ : ByteArray)) ++ decS d.qty) = dfT d) := dfT_app d
  obtain ⟨W0, hW0⟩ : ∃ W0, w.alloc (.cells #[.int .i64 d.kind, .string d.partner, .string d.ref, .int .i64 d.no, .string d.item, .int .i64 d.qty] 70) = W0 := ⟨_, rfl⟩
  have hb0 : Below w.heap.size w W0 := by rw [← hW0]; exact (Below.refl _ _).alloc (Nat.le_refl _) _
  have hbx : W0.heap[w.heap.size]? = some (.cells #[.int .i64 d.kind, .string d.partner, .string d.ref, .int .i64 d.no, .string d.item, .int .i64 d.qty] 70) := by rw [← hW0]; exact World.alloc_heap_new _ _
  obtain ⟨B, hB⟩ : ∃ B, B = w.heap.size := ⟨_, rfl⟩
  have HC : Hid (Below w.heap.size w W0 ∧ ∀ W, Below W0.heap.size W0 W → W.cell? ⟨B, 0, none⟩ = some (.int .i64 d.kind) ∧ W.cell? ⟨B, 1, none⟩ = some (.string d.partner) ∧ W.cell? ⟨B, 2, none⟩ = some (.string d.ref) ∧ W.cell? ⟨B, 3, none⟩ = some (.int .i64 d.no) ∧ W.cell? ⟨B, 4, none⟩ = some (.string d.item) ∧ W.cell? ⟨B, 5, none⟩ = some (.int .i64 d.qty)) := ⟨hb0, fun W hW => by
    rw [hB]
    exact box6' ((hW.block _ (Array.getElem?_eq_some_iff.1 hbx).1).trans hbx)⟩
  obtain ⟨c0, c1, c2, c3, c4, c5⟩ := HC.out.2 W0 (Below.refl _ _)
  go_enter Tryd.func35, Tryd.ntmps35
  go_upto_region 1 with fail
  try rw [hW0]
  try rw [← hB]
  clear hW0 hbx hb0 hB z1 z2 z3 e1
  go_region_held3 (fun W => W.cell? ⟨B, 0, none⟩ = some (.int .i64 d.kind) ∧ W.cell? ⟨B, 1, none⟩ = some (.string d.partner) ∧ W.cell? ⟨B, 2, none⟩ = some (.string d.ref) ∧ W.cell? ⟨B, 3, none⟩ = some (.int .i64 d.no) ∧ W.cell? ⟨B, 4, none⟩ = some (.string d.item) ∧ W.cell? ⟨B, 5, none⟩ = some (.int .i64 d.qty)) (go_keep) (first | (go_at_call_of 26 (Value.int IntKind.i64 d.kind); refine (decG_any d.kind _ hI_kind.1 hI_kind.2).mono ?_; rintro e wa ⟨rfl, hba⟩; have ba : Below W0.heap.size W0 wa := (by first | exact hba | exact undrewD hba); obtain ⟨a0, a1, a2, a3, a4, a5⟩ := HC.out.2 wa ba; clear hba; try dsimp only) | (go_at_call_of 26 (Value.int IntKind.i64 d.no); refine (decG_any d.no _ hI_no.1 hI_no.2).mono ?_; rintro e wb ⟨rfl, hbb⟩; have bb : Below W0.heap.size W0 wb := ba.trans ((by first | exact hbb | exact undrewD hbb : Below wa.heap.size wa wb).mono ba.size); obtain ⟨b0, b1, b2, b3, b4, b5⟩ := HC.out.2 wb bb; clear hbb; try dsimp only) | (go_at_call_of 26 (Value.int IntKind.i64 d.qty); refine (decG_any d.qty _ hI_qty.1 hI_qty.2).mono ?_; rintro e wf ⟨rfl, hbf⟩; have bf : Below W0.heap.size W0 wf := bb.trans ((by first | exact hbf | exact undrewD hbf : Below wb.heap.size wb wf).mono bb.size); obtain ⟨f0, f1, f2, f3, f4, f5⟩ := HC.out.2 wf bf; clear hbf; try dsimp only))
  rename_i hHeld
  clear hHeld
  have HB : Hid (Below w.heap.size w wf) := HC.out.1.trans (bf.mono HC.out.1.size)
  go_wp2
  go_ret
  exact ⟨by rw [← HT.out]; rfl, HB.out⟩
end Go.Proofs.YtoccmgoglkdcpaaDoor
