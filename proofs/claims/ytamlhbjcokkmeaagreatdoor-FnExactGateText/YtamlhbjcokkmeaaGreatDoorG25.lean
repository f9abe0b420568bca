/- Texts of ours put together: DtI, DfsP. -/
import Derived.Test.YtamlhbjcokkmeaaGreatDoorG22
import Derived.Test.YtamlhbjcokkmeaaGreatDoorG17
import Derived.Test.YtamlhbjcokkmeaaGreatDoorG13
import Derived.Lib.Join
import Derived.Deep.RegionHeld3
import Derived.Test.YtamlhbjcokkmeaaGreatDoorG18
namespace Go.Proofs.YtamlhbjcokkmeaaGreatDoor
open Go.ChangeShapes Go.WideShapes Go.ChangeAt Go.RowKit
theorem box6' {W : World} {B t : Nat} {a0 a1 a2 a3 a4 a5 : Value} (h : W.heap[B]? = some (.cells #[a0, a1, a2, a3, a4, a5] t)) : W.cell? ⟨B, 0, none⟩ = some a0 ∧ W.cell? ⟨B, 1, none⟩ = some a1 ∧ W.cell? ⟨B, 2, none⟩ = some a2 ∧ W.cell? ⟨B, 3, none⟩ = some a3 ∧ W.cell? ⟨B, 4, none⟩ = some a4 ∧ W.cell? ⟨B, 5, none⟩ = some a5 := by
  simp [World.cell?, h]
/-- What DiffText tells. -/
def dfW (d : Dff) : List ByteArray := [decS d.kind, d.partner, d.ref, decS d.no, d.item, decS d.qty]
def dfT (d : Dff) : ByteArray := ⟨(Lib.join ((dfW d).map (·.data.toList)) [32]).toArray⟩
theorem dfT_len (d : Dff) (h : d.partner.size ≤ 1048576 ∧ d.ref.size ≤ 1048576 ∧ d.item.size ≤ 1048576) (h1 : (decS d.kind).size ≤ 20) (h2 : (decS d.no).size ≤ 20) (h3 : (decS d.qty).size ≤ 20) : (Lib.join ((dfW d).map (·.data.toList)) [32]).length ≤ 4000000 := by
  have e : ∀ s : ByteArray, s.data.toList.length = s.size := fun s => rfl
  unfold dfW
  simp only [List.map_cons, List.map_nil, Lib.join_cons, Lib.joinTail, List.flatten_cons, List.flatten_nil, List.length_append, List.length_cons, List.length_nil, e]
  omega
/-- The same, text behind text. -/
theorem dfT_app (d : Dff) : ((((((((((decS d.kind ++ (⟨#[32]⟩ : ByteArray)) ++ d.partner) ++ (⟨#[32]⟩ : ByteArray)) ++ d.ref) ++ (⟨#[32]⟩ : ByteArray)) ++ decS d.no) ++ (⟨#[32]⟩ : ByteArray)) ++ d.item) ++ (⟨#[32]⟩ : ByteArray)) ++ decS d.qty) = dfT d := by
  unfold dfT dfW
  apply ByteArray.ext
  apply Array.toList_inj.1
  simp [Lib.join_cons, Lib.joinTail, ByteArray.data_append, List.append_assoc]
set_option maxRecDepth 20000 in
set_option maxHeartbeats 8000000 in
theorem diffText_impl (d : Dff) (w : World) (hz : d.partner.size ≤ 1048576 ∧ d.ref.size ≤ 1048576 ∧ d.item.size ≤ 1048576) (hI_kind : i64B d.kind) (hI_no : i64B d.no) (hI_qty : i64B d.qty) (ht : TabOk w) :
    Calls Tryz.prog 77 #[.agg #[.int .i64 d.kind, .string d.partner, .string d.ref, .int .i64 d.no, .string d.item, .int .i64 d.qty]] w fun e w' => e = .returned (.string (dfT d)) ∧ Below w.heap.size w w' := by
  have z1 := (decS_long d.kind hI_kind.1 hI_kind.2).2
  have z2 := (decS_long d.no hI_no.1 hI_no.2).2
  have z3 := (decS_long d.qty hI_qty.1 hI_qty.2).2
  have HL : Hid ((Lib.join ((dfW d).map (·.data.toList)) [32]).length ≤ 4000000) := dfT_len d hz z1 z2 z3
  obtain ⟨W0, hW0⟩ : ∃ W0, w.alloc (.cells #[.int .i64 d.kind, .string d.partner, .string d.ref, .int .i64 d.no, .string d.item, .int .i64 d.qty] 110) = W0 := ⟨_, rfl⟩
  have hb0 : Below w.heap.size w W0 := by rw [← hW0]; exact (Below.refl _ _).alloc (Nat.le_refl _) _
  have hbx : W0.heap[w.heap.size]? = some (.cells #[.int .i64 d.kind, .string d.partner, .string d.ref, .int .i64 d.no, .string d.item, .int .i64 d.qty] 110) := by rw [← hW0]; exact World.alloc_heap_new _ _
  obtain ⟨B, hB⟩ : ∃ B, B = w.heap.size := ⟨_, rfl⟩
  have HC : Hid (Below w.heap.size w W0 ∧ TabOk W0 ∧ ∀ W, Below W0.heap.size W0 W → W.cell? ⟨B, 0, none⟩ = some (.int .i64 d.kind) ∧ W.cell? ⟨B, 1, none⟩ = some (.string d.partner) ∧ W.cell? ⟨B, 2, none⟩ = some (.string d.ref) ∧ W.cell? ⟨B, 3, none⟩ = some (.int .i64 d.no) ∧ W.cell? ⟨B, 4, none⟩ = some (.string d.item) ∧ W.cell? ⟨B, 5, none⟩ = some (.int .i64 d.qty)) := ⟨hb0, ht.below hb0, fun W hW => by
    rw [hB]
    exact box6' ((hW.block _ (Array.getElem?_eq_some_iff.1 hbx).1).trans hbx)⟩
  obtain ⟨c0, c1, c2, c3, c4, c5⟩ := HC.out.2.2 W0 (Below.refl _ _)
  go_enter Tryz.func77, Tryz.ntmps77
  go_upto_region 1 with fail
  try rw [hW0]
  try rw [← hB]
  clear hW0 hbx hb0 ht hB
  go_region_held3 (fun W => W.cell? ⟨B, 0, none⟩ = some (.int .i64 d.kind) ∧ W.cell? ⟨B, 1, none⟩ = some (.string d.partner) ∧ W.cell? ⟨B, 2, none⟩ = some (.string d.ref) ∧ W.cell? ⟨B, 3, none⟩ = some (.int .i64 d.no) ∧ W.cell? ⟨B, 4, none⟩ = some (.string d.item) ∧ W.cell? ⟨B, 5, none⟩ = some (.int .i64 d.qty)) (go_keep) (first | (go_at_call_of 27 (Value.int IntKind.i64 d.kind); refine (digitsOf_any d.kind _ hI_kind.1 hI_kind.2 (by first | exact HC.out.2.1 | exact HC.out.2.1.drew)).mono ?_; rintro e wa ⟨rfl, hba⟩; have ba : Below W0.heap.size W0 wa := (by first | exact hba | exact undrewD hba); have Ta := HC.out.2.1.below ba; obtain ⟨a0, a1, a2, a3, a4, a5⟩ := HC.out.2.2 wa ba; clear hba; try dsimp only) | (go_at_call_of 27 (Value.int IntKind.i64 d.no); refine (digitsOf_any d.no _ hI_no.1 hI_no.2 (by first | exact Ta | exact Ta.drew)).mono ?_; rintro e wb ⟨rfl, hbb⟩; have bb : Below W0.heap.size W0 wb := ba.trans ((by first | exact hbb | exact undrewD hbb : Below wa.heap.size wa wb).mono ba.size); have Tb := HC.out.2.1.below bb; obtain ⟨b0, b1, b2, b3, b4, b5⟩ := HC.out.2.2 wb bb; clear hbb; try dsimp only) | (go_at_call_of 27 (Value.int IntKind.i64 d.qty); refine (digitsOf_any d.qty _ hI_qty.1 hI_qty.2 (by first | exact Tb | exact Tb.drew)).mono ?_; rintro e wf ⟨rfl, hbf⟩; have bf : Below W0.heap.size W0 wf := bb.trans ((by first | exact hbf | exact undrewD hbf : Below wb.heap.size wb wf).mono bb.size); have Tf := HC.out.2.1.below bf; obtain ⟨f0, f1, f2, f3, f4, f5⟩ := HC.out.2.2 wf bf; clear hbf; try dsimp only))
  rename_i hHeld
  clear hHeld
  have bg : Below w.heap.size w wf := HC.out.1.trans (bf.mono HC.out.1.size)
  have hz0 := bg.size
  have bh : Below w.heap.size w (wf.alloc (.cells #[.string (decS d.kind), .string d.partner, .string d.ref, .string (decS d.no), .string d.item, .string (decS d.qty)] 9)) := bg.alloc hz0 _
  have QJ := join_any wf.heap.size 0 6 (dfW d) ⟨#[32]⟩ (wf.alloc (.cells #[.string (decS d.kind), .string d.partner, .string d.ref, .string (decS d.no), .string d.item, .string (decS d.qty)] 9)) (fun j x hx => by
    have hh := World.alloc_heap_new wf (.cells #[.string (decS d.kind), .string d.partner, .string d.ref, .string (decS d.no), .string d.item, .string (decS d.qty)] 9)
    obtain ⟨k0, k1, k2, k3, k4, k5⟩ := box6' hh
    rcases j with _ | _ | _ | _ | _ | _ | j
    · cases hx; exact k0
    · cases hx; exact k1
    · cases hx; exact k2
    · cases hx; exact k3
    · cases hx; exact k4
    · cases hx; exact k5
    · simp [dfW] at hx) (by simp) (by simp [dfW]) (by simp [dfW]) (by have := HL.out; exact Nat.le_trans this (by omega))
  have HQ : Hid (Below w.heap.size w (wf.alloc (.cells #[.string (decS d.kind), .string d.partner, .string d.ref, .string (decS d.no), .string d.item, .string (decS d.qty)] 9)) ∧ Calls Tryz.prog 79 #[.slice (some ⟨wf.heap.size, 0, none⟩) 6 6, .string ⟨#[32]⟩] (wf.alloc (.cells #[.string (decS d.kind), .string d.partner, .string d.ref, .string (decS d.no), .string d.item, .string (decS d.qty)] 9)) fun e w' => e = .returned (.string (dfT d)) ∧ Below (wf.alloc (.cells #[.string (decS d.kind), .string d.partner, .string d.ref, .string (decS d.no), .string d.item, .string (decS d.qty)] 9)).heap.size (wf.alloc (.cells #[.string (decS d.kind), .string d.partner, .string d.ref, .string (decS d.no), .string d.item, .string (decS d.qty)] 9)) w') := ⟨bh, QJ⟩
  clear bg bh QJ
  go_wp2_with fail
  refine HQ.out.2.mono ?_
  rintro e w9 ⟨rfl, hb9⟩
  have HB : Hid (Below w.heap.size w w9) := HQ.out.1.trans (hb9.mono HQ.out.1.size)
  clear hb9
  go_wp2
  go_ret
  exact ⟨rfl, HB.out⟩
end Go.Proofs.YtamlhbjcokkmeaaGreatDoor
namespace Go.Proofs.YtamlhbjcokkmeaaGreatDoor
open Go.ChangeShapes Go.WideShapes Go.ChangeAt Go.RowKit
/-- The words of a row of a Diff. -/
def dfR (d : Dff) : List ByteArray := [dfT d]
theorem dfR_len (d : Dff) : (dfR d).length = 1 := rfl
theorem dfR_flat (rs : List Dff) : (rs.map dfR).flatten.length = rs.length := by
  induction rs with
  | nil => rfl
  | cons a r ih => simp only [List.map_cons, List.flatten_cons, List.length_append, dfR_len, ih, List.length_cons]; omega
theorem dfR_row (d : Dff) : rowL (dfR d) = (dfT d).data.toList ++ [10] := by simp [rowL, dfR, Lib.join_cons, Lib.joinTail]
theorem dfs_app (t : ByteArray) (d : Dff) : ((t ++ dfT d) ++ (⟨#[10]⟩ : ByteArray)) = t ++ ⟨(rowL (dfR d)).toArray⟩ := by
  rw [dfR_row]
  apply ByteArray.ext
  apply Array.toList_inj.1
  simp [ByteArray.data_append]
/-- What DiffsText tells. -/
def dfsT (rs : List Dff) : ByteArray := if 400 < rs.length then ⟨#[]⟩ else txB (rs.map dfR)
theorem dfsT_no {rs : List Dff} (h : 400 < rs.length) : dfsT rs = ⟨#[]⟩ := by simp [dfsT, h]
theorem dfsT_yes {rs : List Dff} (h : ¬ 400 < rs.length) : dfsT rs = txB (rs.map dfR) := by simp [dfsT, h]
/-- Bounds of a Diff. -/
structure DfB (d : Dff) : Prop where
  z : d.partner.size ≤ 1048576 ∧ d.ref.size ≤ 1048576 ∧ d.item.size ≤ 1048576
  i : DfZ d
theorem DfB.len {d : Dff} (h : DfB d) : (dfT d).size ≤ 4000000 := by
  have := dfT_len d h.z (decS_long _ h.i.1.1 h.i.1.2).2 (decS_long _ h.i.2.1.1 h.i.2.1.2).2 (decS_long _ h.i.2.2.1 h.i.2.2.2).2
  unfold dfT
  simpa [ByteArray.size] using this
theorem dfs_len {rs : List Dff} (h : ∀ d ∈ rs, DfB d) : (txR (rs.map dfR)).length ≤ 4000001 * rs.length := by
  induction rs with
  | nil => simp [txR]
  | cons a r ih =>
    have h1 := ih fun l hl => h l (List.mem_cons_of_mem _ hl)
    have h2 := (h a List.mem_cons_self).len
    have h3 : (rowL (dfR a)).length = (dfT a).size + 1 := by rw [dfR_row, List.length_append]; rfl
    simp only [List.map_cons, txR, List.flatten_cons, List.length_append, List.length_cons] at *
    omega
theorem dfB_of {rs : List Dff} (h : BdDf 1048576 rs) (hz : ∀ (i : Nat) (g : Dff), rs[i]? = some g → DfZ g) : ∀ d ∈ rs, DfB d := fun d hd => by
  obtain ⟨i, hi⟩ := List.mem_iff_getElem?.1 hd
  exact ⟨h.2 i d hi, hz i d hi⟩
end Go.Proofs.YtamlhbjcokkmeaaGreatDoor
