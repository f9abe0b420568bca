/- Texts of ours put together: PiB. -/
import Derived.Test.YtcdebinldmblkaaGreatDoorG10
import Derived.Deep.RegionHeld3
namespace Go.Proofs.YtcdebinldmblkaaGreatDoor
open Go.ChangeShapes Go.WideShapes Go.ChangeAt Go.RowKit
theorem TabOk.drew {w : World} (h : TabOk w) : TabOk w.drew := h.below (Below.refl _ _).drew
theorem undrewP {a b : World} (h : Below a.drew.heap.size a.drew b) : Below a.heap.size a b := (Below.refl _ _).drew.trans h
theorem box5 {W : World} {B t : Nat} {a0 a1 a2 a3 a4 : Value} (h : W.heap[B]? = some (.cells #[a0, a1, a2, a3, a4] t)) : W.cell? ⟨B, 0, none⟩ = some a0 ∧ W.cell? ⟨B, 1, none⟩ = some a1 ∧ W.cell? ⟨B, 2, none⟩ = some a2 ∧ W.cell? ⟨B, 3, none⟩ = some a3 ∧ W.cell? ⟨B, 4, none⟩ = some a4 := by
  simp [World.cell?, h]
theorem two_new (w : World) (a b : Obj) : ((w.alloc a).alloc b).heap[w.heap.size + 1]? = some b := by
  have e : ((w.alloc a).alloc b).heap = (w.heap.push a).push b := rfl
  rw [e, Array.getElem?_push, Array.size_push, if_pos rfl]
/-- The words of a line, the last one empty if it is missing. -/
def fullW (k : Int) (l : Ln) : List ByteArray :=
  if k = 1 then [decS l.no, l.item, decS l.qty, unlN l.money] else if k = 3 then [decS l.no, decS l.qty] else if k = 5 then [l.item, decS l.qty]
  else if k = 6 then [l.item, decS l.qty, l.note] else if k = 7 then [decS l.no, decS l.qty, unlN l.money] else [decS l.no, decS l.qty, l.note]
/-- A line whose numbers are of 64 bits. -/
def LnI (l : Ln) : Prop := i64B l.no ∧ i64B l.qty ∧ i64B l.money
/-- Words in a block of their own. -/
def WOut (ws : List ByteArray) (w : World) (e : Ending) (w' : World) : Prop := ∃ b, e = .returned (.slice (some ⟨b, 0, none⟩) ws.length ws.length) ∧ w.heap.size ≤ b ∧ w'.heap[b]? = some (.cells (ws.map Value.string).toArray 9) ∧ Below w.heap.size w w'
set_option maxRecDepth 20000 in
set_option maxHeartbeats 8000000 in
theorem words_order (l : Ln) (w : World) (hI : LnI l) (ht : TabOk w) : Calls Tryz.prog 169 #[.agg #[], .agg #[.int .i64 l.no, .string l.item, .int .i64 l.qty, .int .i64 l.money, .string l.note]] w fun e w' => WOut [decS l.no, l.item, decS l.qty, unlN l.money] w e w' := by
  obtain ⟨W0, hW0⟩ : ∃ W0, (w.alloc (.cells #[] 90)).alloc (.cells #[.int .i64 l.no, .string l.item, .int .i64 l.qty, .int .i64 l.money, .string l.note] 63) = W0 := ⟨_, rfl⟩
  have hb0 : Below w.heap.size w W0 := by rw [← hW0]; exact ((Below.refl _ _).alloc (Nat.le_refl _) _).alloc (by simp) _
  have hbx : W0.heap[w.heap.size + 1]? = some (.cells #[.int .i64 l.no, .string l.item, .int .i64 l.qty, .int .i64 l.money, .string l.note] 63) := by rw [← hW0]; exact two_new _ _ _
  obtain ⟨B, hB⟩ : ∃ B, B = w.heap.size + 1 := ⟨_, rfl⟩
  have HC : Hid (Below w.heap.size w W0 ∧ TabOk W0 ∧ ∀ W, Below W0.heap.size W0 W → W.cell? ⟨B, 0, none⟩ = some (.int .i64 l.no) ∧ W.cell? ⟨B, 1, none⟩ = some (.string l.item) ∧ W.cell? ⟨B, 2, none⟩ = some (.int .i64 l.qty) ∧ W.cell? ⟨B, 3, none⟩ = some (.int .i64 l.money) ∧ W.cell? ⟨B, 4, none⟩ = some (.string l.note)) := ⟨hb0, ht.below hb0, fun W hW => by
    rw [hB]
    exact box5 ((hW.block _ (Array.getElem?_eq_some_iff.1 hbx).1).trans hbx)⟩
  obtain ⟨c0, c1, c2, c3, c4⟩ := HC.out.2.2 W0 (Below.refl _ _)
  go_enter Tryz.func169, Tryz.ntmps169
  go_upto_region 1 with fail
  try rw [hW0]
  try rw [← hB]
  clear hW0 hbx hb0 ht hB
  go_region_held3 (fun W => W.cell? ⟨B, 0, none⟩ = some (.int .i64 l.no) ∧ W.cell? ⟨B, 1, none⟩ = some (.string l.item) ∧ W.cell? ⟨B, 2, none⟩ = some (.int .i64 l.qty) ∧ W.cell? ⟨B, 3, none⟩ = some (.int .i64 l.money) ∧ W.cell? ⟨B, 4, none⟩ = some (.string l.note)) (go_keep) (first | (go_at_call_of 65 (Value.int IntKind.i64 l.no); refine (digitsOf_any l.no _ hI.1 (by first | exact HC.out.2.1 | exact HC.out.2.1.drew)).mono ?_; rintro e wa ⟨rfl, hba⟩; have ba : Below W0.heap.size W0 wa := (by first | exact hba | exact undrewP hba); have Ta := HC.out.2.1.below ba; obtain ⟨a0, a1, a2, a3, a4⟩ := HC.out.2.2 wa ba; clear hba; try dsimp only) | (go_at_call_of 65 (Value.int IntKind.i64 l.qty); refine (digitsOf_any l.qty _ hI.2.1 (by first | exact Ta | exact Ta.drew)).mono ?_; rintro e wb ⟨rfl, hbb⟩; have bb : Below W0.heap.size W0 wb := ba.trans ((by first | exact hbb | exact undrewP hbb : Below wa.heap.size wa wb).mono ba.size); have Tb := HC.out.2.1.below bb; obtain ⟨b0, b1, b2, b3, b4⟩ := HC.out.2.2 wb bb; clear hbb; try dsimp only) | (go_at_call_of 170 (Value.int IntKind.i64 l.money); refine (unless_any l.money _ hI.2.2 (by first | exact Tb | exact Tb.drew)).mono ?_; rintro e wf ⟨rfl, hbf⟩; have bf : Below W0.heap.size W0 wf := bb.trans ((by first | exact hbf | exact undrewP hbf : Below wb.heap.size wb wf).mono bb.size); have Tf := HC.out.2.1.below bf; obtain ⟨f0, f1, f2, f3, f4⟩ := HC.out.2.2 wf bf; clear hbf; try dsimp only) | fail)
  rename_i hHeld
  clear hHeld
  have bg : Below w.heap.size w wf := HC.out.1.trans (bf.mono HC.out.1.size)
  have HB : Hid (Below w.heap.size w (wf.alloc (.cells #[.string (decS l.no), .string l.item, .string (decS l.qty), .string (unlN l.money)] 9)) ∧ w.heap.size ≤ wf.heap.size) := ⟨bg.alloc bg.size _, bg.size⟩
  clear bg
  go_wp2
  go_ret
  exact ⟨wf.heap.size, rfl, HB.out.2, World.alloc_heap_new _ _, HB.out.1⟩
set_option maxRecDepth 20000 in
set_option maxHeartbeats 8000000 in
theorem words_answer (l : Ln) (w : World) (hI : LnI l) (ht : TabOk w) : Calls Tryz.prog 172 #[.agg #[], .agg #[.int .i64 l.no, .string l.item, .int .i64 l.qty, .int .i64 l.money, .string l.note]] w fun e w' => WOut [decS l.no, decS l.qty, l.note] w e w' := by
  obtain ⟨W0, hW0⟩ : ∃ W0, (w.alloc (.cells #[] 91)).alloc (.cells #[.int .i64 l.no, .string l.item, .int .i64 l.qty, .int .i64 l.money, .string l.note] 63) = W0 := ⟨_, rfl⟩
  have hb0 : Below w.heap.size w W0 := by rw [← hW0]; exact ((Below.refl _ _).alloc (Nat.le_refl _) _).alloc (by simp) _
  have hbx : W0.heap[w.heap.size + 1]? = some (.cells #[.int .i64 l.no, .string l.item, .int .i64 l.qty, .int .i64 l.money, .string l.note] 63) := by rw [← hW0]; exact two_new _ _ _
  obtain ⟨B, hB⟩ : ∃ B, B = w.heap.size + 1 := ⟨_, rfl⟩
  have HC : Hid (Below w.heap.size w W0 ∧ TabOk W0 ∧ ∀ W, Below W0.heap.size W0 W → W.cell? ⟨B, 0, none⟩ = some (.int .i64 l.no) ∧ W.cell? ⟨B, 1, none⟩ = some (.string l.item) ∧ W.cell? ⟨B, 2, none⟩ = some (.int .i64 l.qty) ∧ W.cell? ⟨B, 3, none⟩ = some (.int .i64 l.money) ∧ W.cell? ⟨B, 4, none⟩ = some (.string l.note)) := ⟨hb0, ht.below hb0, fun W hW => by
    rw [hB]
    exact box5 ((hW.block _ (Array.getElem?_eq_some_iff.1 hbx).1).trans hbx)⟩
  obtain ⟨c0, c1, c2, c3, c4⟩ := HC.out.2.2 W0 (Below.refl _ _)
  go_enter Tryz.func172, Tryz.ntmps172
  go_upto_region 1 with fail
  try rw [hW0]
  try rw [← hB]
  clear hW0 hbx hb0 ht hB
  go_region_held3 (fun W => W.cell? ⟨B, 0, none⟩ = some (.int .i64 l.no) ∧ W.cell? ⟨B, 1, none⟩ = some (.string l.item) ∧ W.cell? ⟨B, 2, none⟩ = some (.int .i64 l.qty) ∧ W.cell? ⟨B, 3, none⟩ = some (.int .i64 l.money) ∧ W.cell? ⟨B, 4, none⟩ = some (.string l.note)) (go_keep) (first | (go_at_call_of 65 (Value.int IntKind.i64 l.no); refine (digitsOf_any l.no _ hI.1 (by first | exact HC.out.2.1 | exact HC.out.2.1.drew)).mono ?_; rintro e wa ⟨rfl, hba⟩; have ba : Below W0.heap.size W0 wa := (by first | exact hba | exact undrewP hba); have Ta := HC.out.2.1.below ba; obtain ⟨a0, a1, a2, a3, a4⟩ := HC.out.2.2 wa ba; clear hba; try dsimp only) | (go_at_call_of 65 (Value.int IntKind.i64 l.qty); refine (digitsOf_any l.qty _ hI.2.1 (by first | exact Ta | exact Ta.drew)).mono ?_; rintro e wb ⟨rfl, hbb⟩; have bb : Below W0.heap.size W0 wb := ba.trans ((by first | exact hbb | exact undrewP hbb : Below wa.heap.size wa wb).mono ba.size); have Tb := HC.out.2.1.below bb; obtain ⟨b0, b1, b2, b3, b4⟩ := HC.out.2.2 wb bb; clear hbb; try dsimp only) | fail)
  rename_i hHeld
  clear hHeld
  have bg : Below w.heap.size w wb := HC.out.1.trans (bb.mono HC.out.1.size)
  have HB : Hid (Below w.heap.size w (wb.alloc (.cells #[.string (decS l.no), .string (decS l.qty), .string l.note] 9)) ∧ w.heap.size ≤ wb.heap.size) := ⟨bg.alloc bg.size _, bg.size⟩
  clear bg
  go_wp2
  go_ret
  exact ⟨wb.heap.size, rfl, HB.out.2, World.alloc_heap_new _ _, HB.out.1⟩
set_option maxRecDepth 20000 in
set_option maxHeartbeats 8000000 in
theorem words_sent (l : Ln) (w : World) (hI : LnI l) (ht : TabOk w) : Calls Tryz.prog 174 #[.agg #[], .agg #[.int .i64 l.no, .string l.item, .int .i64 l.qty, .int .i64 l.money, .string l.note]] w fun e w' => WOut [decS l.no, decS l.qty] w e w' := by
  obtain ⟨W0, hW0⟩ : ∃ W0, (w.alloc (.cells #[] 92)).alloc (.cells #[.int .i64 l.no, .string l.item, .int .i64 l.qty, .int .i64 l.money, .string l.note] 63) = W0 := ⟨_, rfl⟩
  have hb0 : Below w.heap.size w W0 := by rw [← hW0]; exact ((Below.refl _ _).alloc (Nat.le_refl _) _).alloc (by simp) _
  have hbx : W0.heap[w.heap.size + 1]? = some (.cells #[.int .i64 l.no, .string l.item, .int .i64 l.qty, .int .i64 l.money, .string l.note] 63) := by rw [← hW0]; exact two_new _ _ _
  obtain ⟨B, hB⟩ : ∃ B, B = w.heap.size + 1 := ⟨_, rfl⟩
  have HC : Hid (Below w.heap.size w W0 ∧ TabOk W0 ∧ ∀ W, Below W0.heap.size W0 W → W.cell? ⟨B, 0, none⟩ = some (.int .i64 l.no) ∧ W.cell? ⟨B, 1, none⟩ = some (.string l.item) ∧ W.cell? ⟨B, 2, none⟩ = some (.int .i64 l.qty) ∧ W.cell? ⟨B, 3, none⟩ = some (.int .i64 l.money) ∧ W.cell? ⟨B, 4, none⟩ = some (.string l.note)) := ⟨hb0, ht.below hb0, fun W hW => by
    rw [hB]
    exact box5 ((hW.block _ (Array.getElem?_eq_some_iff.1 hbx).1).trans hbx)⟩
  obtain ⟨c0, c1, c2, c3, c4⟩ := HC.out.2.2 W0 (Below.refl _ _)
  go_enter Tryz.func174, Tryz.ntmps174
  go_upto_region 1 with fail
  try rw [hW0]
  try rw [← hB]
  clear hW0 hbx hb0 ht hB
  go_region_held3 (fun W => W.cell? ⟨B, 0, none⟩ = some (.int .i64 l.no) ∧ W.cell? ⟨B, 1, none⟩ = some (.string l.item) ∧ W.cell? ⟨B, 2, none⟩ = some (.int .i64 l.qty) ∧ W.cell? ⟨B, 3, none⟩ = some (.int .i64 l.money) ∧ W.cell? ⟨B, 4, none⟩ = some (.string l.note)) (go_keep) (first | (go_at_call_of 65 (Value.int IntKind.i64 l.no); refine (digitsOf_any l.no _ hI.1 (by first | exact HC.out.2.1 | exact HC.out.2.1.drew)).mono ?_; rintro e wa ⟨rfl, hba⟩; have ba : Below W0.heap.size W0 wa := (by first | exact hba | exact undrewP hba); have Ta := HC.out.2.1.below ba; obtain ⟨a0, a1, a2, a3, a4⟩ := HC.out.2.2 wa ba; clear hba; try dsimp only) | (go_at_call_of 65 (Value.int IntKind.i64 l.qty); refine (digitsOf_any l.qty _ hI.2.1 (by first | exact Ta | exact Ta.drew)).mono ?_; rintro e wb ⟨rfl, hbb⟩; have bb : Below W0.heap.size W0 wb := ba.trans ((by first | exact hbb | exact undrewP hbb : Below wa.heap.size wa wb).mono ba.size); have Tb := HC.out.2.1.below bb; obtain ⟨b0, b1, b2, b3, b4⟩ := HC.out.2.2 wb bb; clear hbb; try dsimp only) | fail)
  rename_i hHeld
  clear hHeld
  have bg : Below w.heap.size w wb := HC.out.1.trans (bb.mono HC.out.1.size)
  have HB : Hid (Below w.heap.size w (wb.alloc (.cells #[.string (decS l.no), .string (decS l.qty)] 9)) ∧ w.heap.size ≤ wb.heap.size) := ⟨bg.alloc bg.size _, bg.size⟩
  clear bg
  go_wp2
  go_ret
  exact ⟨wb.heap.size, rfl, HB.out.2, World.alloc_heap_new _ _, HB.out.1⟩
set_option maxRecDepth 20000 in
set_option maxHeartbeats 8000000 in
theorem words_stock (l : Ln) (w : World) (hI : LnI l) (ht : TabOk w) : Calls Tryz.prog 176 #[.agg #[], .agg #[.int .i64 l.no, .string l.item, .int .i64 l.qty, .int .i64 l.money, .string l.note]] w fun e w' => WOut [l.item, decS l.qty] w e w' := by
  obtain ⟨W0, hW0⟩ : ∃ W0, (w.alloc (.cells #[] 95)).alloc (.cells #[.int .i64 l.no, .string l.item, .int .i64 l.qty, .int .i64 l.money, .string l.note] 63) = W0 := ⟨_, rfl⟩
  have hb0 : Below w.heap.size w W0 := by rw [← hW0]; exact ((Below.refl _ _).alloc (Nat.le_refl _) _).alloc (by simp) _
  have hbx : W0.heap[w.heap.size + 1]? = some (.cells #[.int .i64 l.no, .string l.item, .int .i64 l.qty, .int .i64 l.money, .string l.note] 63) := by rw [← hW0]; exact two_new _ _ _
  obtain ⟨B, hB⟩ : ∃ B, B = w.heap.size + 1 := ⟨_, rfl⟩
  have HC : Hid (Below w.heap.size w W0 ∧ TabOk W0 ∧ ∀ W, Below W0.heap.size W0 W → W.cell? ⟨B, 0, none⟩ = some (.int .i64 l.no) ∧ W.cell? ⟨B, 1, none⟩ = some (.string l.item) ∧ W.cell? ⟨B, 2, none⟩ = some (.int .i64 l.qty) ∧ W.cell? ⟨B, 3, none⟩ = some (.int .i64 l.money) ∧ W.cell? ⟨B, 4, none⟩ = some (.string l.note)) := ⟨hb0, ht.below hb0, fun W hW => by
    rw [hB]
    exact box5 ((hW.block _ (Array.getElem?_eq_some_iff.1 hbx).1).trans hbx)⟩
  obtain ⟨c0, c1, c2, c3, c4⟩ := HC.out.2.2 W0 (Below.refl _ _)
  go_enter Tryz.func176, Tryz.ntmps176
  go_upto_region 1 with fail
  try rw [hW0]
  try rw [← hB]
  clear hW0 hbx hb0 ht hB
  go_region_held3 (fun W => W.cell? ⟨B, 0, none⟩ = some (.int .i64 l.no) ∧ W.cell? ⟨B, 1, none⟩ = some (.string l.item) ∧ W.cell? ⟨B, 2, none⟩ = some (.int .i64 l.qty) ∧ W.cell? ⟨B, 3, none⟩ = some (.int .i64 l.money) ∧ W.cell? ⟨B, 4, none⟩ = some (.string l.note)) (go_keep) (first | (go_at_call_of 65 (Value.int IntKind.i64 l.qty); refine (digitsOf_any l.qty _ hI.2.1 (by first | exact HC.out.2.1 | exact HC.out.2.1.drew)).mono ?_; rintro e wa ⟨rfl, hba⟩; have ba : Below W0.heap.size W0 wa := (by first | exact hba | exact undrewP hba); have Ta := HC.out.2.1.below ba; obtain ⟨a0, a1, a2, a3, a4⟩ := HC.out.2.2 wa ba; clear hba; try dsimp only) | fail)
  rename_i hHeld
  clear hHeld
  have bg : Below w.heap.size w wa := HC.out.1.trans (ba.mono HC.out.1.size)
  have HB : Hid (Below w.heap.size w (wa.alloc (.cells #[.string l.item, .string (decS l.qty)] 9)) ∧ w.heap.size ≤ wa.heap.size) := ⟨bg.alloc bg.size _, bg.size⟩
  clear bg
  go_wp2
  go_ret
  exact ⟨wa.heap.size, rfl, HB.out.2, World.alloc_heap_new _ _, HB.out.1⟩
set_option maxRecDepth 20000 in
set_option maxHeartbeats 8000000 in
theorem words_adjust (l : Ln) (w : World) (hI : LnI l) (ht : TabOk w) : Calls Tryz.prog 178 #[.agg #[], .agg #[.int .i64 l.no, .string l.item, .int .i64 l.qty, .int .i64 l.money, .string l.note]] w fun e w' => WOut [l.item, decS l.qty, l.note] w e w' := by
  obtain ⟨W0, hW0⟩ : ∃ W0, (w.alloc (.cells #[] 96)).alloc (.cells #[.int .i64 l.no, .string l.item, .int .i64 l.qty, .int .i64 l.money, .string l.note] 63) = W0 := ⟨_, rfl⟩
  have hb0 : Below w.heap.size w W0 := by rw [← hW0]; exact ((Below.refl _ _).alloc (Nat.le_refl _) _).alloc (by simp) _
  have hbx : W0.heap[w.heap.size + 1]? = some (.cells #[.int .i64 l.no, .string l.item, .int .i64 l.qty, .int .i64 l.money, .string l.note] 63) := by rw [← hW0]; exact two_new _ _ _
  obtain ⟨B, hB⟩ : ∃ B, B = w.heap.size + 1 := ⟨_, rfl⟩
  have HC : Hid (Below w.heap.size w W0 ∧ TabOk W0 ∧ ∀ W, Below W0.heap.size W0 W → W.cell? ⟨B, 0, none⟩ = some (.int .i64 l.no) ∧ W.cell? ⟨B, 1, none⟩ = some (.string l.item) ∧ W.cell? ⟨B, 2, none⟩ = some (.int .i64 l.qty) ∧ W.cell? ⟨B, 3, none⟩ = some (.int .i64 l.money) ∧ W.cell? ⟨B, 4, none⟩ = some (.string l.note)) := ⟨hb0, ht.below hb0, fun W hW => by
    rw [hB]
    exact box5 ((hW.block _ (Array.getElem?_eq_some_iff.1 hbx).1).trans hbx)⟩
  obtain ⟨c0, c1, c2, c3, c4⟩ := HC.out.2.2 W0 (Below.refl _ _)
  go_enter Tryz.func178, Tryz.ntmps178
  go_upto_region 1 with fail
  try rw [hW0]
  try rw [← hB]
  clear hW0 hbx hb0 ht hB
  go_region_held3 (fun W => W.cell? ⟨B, 0, none⟩ = some (.int .i64 l.no) ∧ W.cell? ⟨B, 1, none⟩ = some (.string l.item) ∧ W.cell? ⟨B, 2, none⟩ = some (.int .i64 l.qty) ∧ W.cell? ⟨B, 3, none⟩ = some (.int .i64 l.money) ∧ W.cell? ⟨B, 4, none⟩ = some (.string l.note)) (go_keep) (first | (go_at_call_of 65 (Value.int IntKind.i64 l.qty); refine (digitsOf_any l.qty _ hI.2.1 (by first | exact HC.out.2.1 | exact HC.out.2.1.drew)).mono ?_; rintro e wa ⟨rfl, hba⟩; have ba : Below W0.heap.size W0 wa := (by first | exact hba | exact undrewP hba); have Ta := HC.out.2.1.below ba; obtain ⟨a0, a1, a2, a3, a4⟩ := HC.out.2.2 wa ba; clear hba; try dsimp only) | fail)
  rename_i hHeld
  clear hHeld
  have bg : Below w.heap.size w wa := HC.out.1.trans (ba.mono HC.out.1.size)
  have HB : Hid (Below w.heap.size w (wa.alloc (.cells #[.string l.item, .string (decS l.qty), .string l.note] 9)) ∧ w.heap.size ≤ wa.heap.size) := ⟨bg.alloc bg.size _, bg.size⟩
  clear bg
  go_wp2
  go_ret
  exact ⟨wa.heap.size, rfl, HB.out.2, World.alloc_heap_new _ _, HB.out.1⟩
set_option maxRecDepth 20000 in
set_option maxHeartbeats 8000000 in
theorem words_heard (l : Ln) (w : World) (hI : LnI l) (ht : TabOk w) : Calls Tryz.prog 180 #[.agg #[], .agg #[.int .i64 l.no, .string l.item, .int .i64 l.qty, .int .i64 l.money, .string l.note]] w fun e w' => WOut [decS l.no, decS l.qty, unlN l.money] w e w' := by
  obtain ⟨W0, hW0⟩ : ∃ W0, (w.alloc (.cells #[] 97)).alloc (.cells #[.int .i64 l.no, .string l.item, .int .i64 l.qty, .int .i64 l.money, .string l.note] 63) = W0 := ⟨_, rfl⟩
  have hb0 : Below w.heap.size w W0 := by rw [← hW0]; exact ((Below.refl _ _).alloc (Nat.le_refl _) _).alloc (by simp) _
  have hbx : W0.heap[w.heap.size + 1]? = some (.cells #[.int .i64 l.no, .string l.item, .int .i64 l.qty, .int .i64 l.money, .string l.note] 63) := by rw [← hW0]; exact two_new _ _ _
  obtain ⟨B, hB⟩ : ∃ B, B = w.heap.size + 1 := ⟨_, rfl⟩
  have HC : Hid (Below w.heap.size w W0 ∧ TabOk W0 ∧ ∀ W, Below W0.heap.size W0 W → W.cell? ⟨B, 0, none⟩ = some (.int .i64 l.no) ∧ W.cell? ⟨B, 1, none⟩ = some (.string l.item) ∧ W.cell? ⟨B, 2, none⟩ = some (.int .i64 l.qty) ∧ W.cell? ⟨B, 3, none⟩ = some (.int .i64 l.money) ∧ W.cell? ⟨B, 4, none⟩ = some (.string l.note)) := ⟨hb0, ht.below hb0, fun W hW => by
    rw [hB]
    exact box5 ((hW.block _ (Array.getElem?_eq_some_iff.1 hbx).1).trans hbx)⟩
  obtain ⟨c0, c1, c2, c3, c4⟩ := HC.out.2.2 W0 (Below.refl _ _)
  go_enter Tryz.func180, Tryz.ntmps180
  go_upto_region 1 with fail
  try rw [hW0]
  try rw [← hB]
  clear hW0 hbx hb0 ht hB
  go_region_held3 (fun W => W.cell? ⟨B, 0, none⟩ = some (.int .i64 l.no) ∧ W.cell? ⟨B, 1, none⟩ = some (.string l.item) ∧ W.cell? ⟨B, 2, none⟩ = some (.int .i64 l.qty) ∧ W.cell? ⟨B, 3, none⟩ = some (.int .i64 l.money) ∧ W.cell? ⟨B, 4, none⟩ = some (.string l.note)) (go_keep) (first | (go_at_call_of 65 (Value.int IntKind.i64 l.no); refine (digitsOf_any l.no _ hI.1 (by first | exact HC.out.2.1 | exact HC.out.2.1.drew)).mono ?_; rintro e wa ⟨rfl, hba⟩; have ba : Below W0.heap.size W0 wa := (by first | exact hba | exact undrewP hba); have Ta := HC.out.2.1.below ba; obtain ⟨a0, a1, a2, a3, a4⟩ := HC.out.2.2 wa ba; clear hba; try dsimp only) | (go_at_call_of 65 (Value.int IntKind.i64 l.qty); refine (digitsOf_any l.qty _ hI.2.1 (by first | exact Ta | exact Ta.drew)).mono ?_; rintro e wb ⟨rfl, hbb⟩; have bb : Below W0.heap.size W0 wb := ba.trans ((by first | exact hbb | exact undrewP hbb : Below wa.heap.size wa wb).mono ba.size); have Tb := HC.out.2.1.below bb; obtain ⟨b0, b1, b2, b3, b4⟩ := HC.out.2.2 wb bb; clear hbb; try dsimp only) | (go_at_call_of 170 (Value.int IntKind.i64 l.money); refine (unless_any l.money _ hI.2.2 (by first | exact Tb | exact Tb.drew)).mono ?_; rintro e wf ⟨rfl, hbf⟩; have bf : Below W0.heap.size W0 wf := bb.trans ((by first | exact hbf | exact undrewP hbf : Below wb.heap.size wb wf).mono bb.size); have Tf := HC.out.2.1.below bf; obtain ⟨f0, f1, f2, f3, f4⟩ := HC.out.2.2 wf bf; clear hbf; try dsimp only) | fail)
  rename_i hHeld
  clear hHeld
  have bg : Below w.heap.size w wf := HC.out.1.trans (bf.mono HC.out.1.size)
  have HB : Hid (Below w.heap.size w (wf.alloc (.cells #[.string (decS l.no), .string (decS l.qty), .string (unlN l.money)] 9)) ∧ w.heap.size ≤ wf.heap.size) := ⟨bg.alloc bg.size _, bg.size⟩
  clear bg
  go_wp2
  go_ret
  exact ⟨wf.heap.size, rfl, HB.out.2, World.alloc_heap_new _ _, HB.out.1⟩
/-- The method of a kind. -/
def fnW (k : Int) : Nat := if k = 1 then 169 else if k = 2 ∨ k = 4 then 172 else if k = 3 then 174 else if k = 5 then 176 else if k = 6 then 178 else 180
theorem words_any (k : Int) (hk : 1 ≤ k ∧ k ≤ 7) (l : Ln) (w : World) (hI : LnI l) (ht : TabOk w) : Calls Tryz.prog (fnW k) #[.agg #[], .agg #[.int .i64 l.no, .string l.item, .int .i64 l.qty, .int .i64 l.money, .string l.note]] w fun e w' => WOut (fullW k l) w e w' := by
  obtain rfl | rfl | rfl | rfl | rfl | rfl | rfl : k = 1 ∨ k = 2 ∨ k = 3 ∨ k = 4 ∨ k = 5 ∨ k = 6 ∨ k = 7 := by omega
  · exact words_order l w hI ht
  · exact words_answer l w hI ht
  · exact words_sent l w hI ht
  · exact words_answer l w hI ht
  · exact words_stock l w hI ht
  · exact words_adjust l w hI ht
  · exact words_heard l w hI ht
end Go.Proofs.YtcdebinldmblkaaGreatDoor
