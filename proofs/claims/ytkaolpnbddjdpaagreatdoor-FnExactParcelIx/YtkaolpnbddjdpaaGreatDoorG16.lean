/- Texts of ours put together: PsB. -/
import Derived.Test.YtkaolpnbddjdpaaGreatDoorG14
import Derived.Test.YtkaolpnbddjdpaaGreatDoorG15
import Derived.Deep.RegionHeld3
namespace Go.Proofs.YtkaolpnbddjdpaaGreatDoor
open Go.ChangeShapes Go.WideShapes Go.ChangeAt Go.RowKit
theorem ownW (w : World) {B : Nat} (hB : B ≤ w.heap.size) (ws : List ByteArray) (hl : ws.length ≤ 100) : (w.alloc (.cells (ws.map Value.string).toArray 9)).ownsRow B 9 1 (.slice (some ⟨w.heap.size, 0, none⟩) ws.length ws.length) ws.length (ws.map Value.string) :=
  ⟨by simp, .inr ⟨w.heap.size, ws.length, (ws.map Value.string).toArray, rfl, hB, World.alloc_heap_new _ _, Nat.le_refl _, by unfold maxLen; omega, by simp, by simp [List.take_of_length_le]⟩⟩
/-- The boxes of l05Line: the line's, the answer's. -/
def LB (l : Ln) (w W : World) : Prop := (W.cell? ⟨w.heap.size, 0, none⟩ = some (.int .i64 l.no) ∧ W.cell? ⟨w.heap.size, 1, none⟩ = some (.string l.item) ∧ W.cell? ⟨w.heap.size, 2, none⟩ = some (.int .i64 l.qty) ∧ W.cell? ⟨w.heap.size, 3, none⟩ = some (.int .i64 l.money) ∧ W.cell? ⟨w.heap.size, 4, none⟩ = some (.string l.note)) ∧ W.cell? ⟨w.heap.size + 1, 0, none⟩ = some (.string ⟨#[]⟩) ∧ W.cell? ⟨w.heap.size + 1, 1, none⟩ = some (.slice none 0 0) ∧ ∀ o, W.frozen? ⟨w.heap.size + 1, o, none⟩ = false
set_option maxRecDepth 20000 in
set_option maxHeartbeats 16000000 in
theorem sline_1 (l : Ln) (w : World) (hI : LnI l) (hz : l.item.size ≤ 1048576 ∧ l.note.size ≤ 1048576) :
    Calls Tryz.prog 101 #[.int .i64 1, .agg #[.int .i64 l.no, .string l.item, .int .i64 l.qty, .int .i64 l.money, .string l.note]] w fun e w' => ∃ u vals, e = .returned (.agg #[.string ⟨#[76, 73, 78]⟩, u]) ∧ OwnV w.heap.size w' u vals (([decS l.no, l.item, decS l.qty] ++ optN l.money).map fun t => [t]) ∧ Below w.heap.size w w' := by
  obtain ⟨zi, zn⟩ := hz
  have zo := (decS_long l.no hI.1.1 hI.1.2).2
  have zq := (decS_long l.qty hI.2.1.1 hI.2.1.2).2
  have zm := (decS_long l.money hI.2.2.1 hI.2.2.2).2
  obtain ⟨W0, hW0⟩ : ∃ W0, ((w.alloc (.cells #[.int .i64 l.no, .string l.item, .int .i64 l.qty, .int .i64 l.money, .string l.note] 121)).alloc (.cells #[.string ⟨#[]⟩, .slice none 0 0] 90)).alloc (.cells #[] 9) = W0 := ⟨_, rfl⟩
  have hb0 : Below w.heap.size w W0 := by rw [← hW0]; exact (((Below.refl _ _).alloc (Nat.le_refl _) _).alloc (by simp) _).alloc (by simp; omega) _
  have s0 : w.heap.size + 2 ≤ W0.heap.size := by rw [← hW0]; simp
  obtain ⟨x0, x1, _⟩ := thr_new w (.cells #[.int .i64 l.no, .string l.item, .int .i64 l.qty, .int .i64 l.money, .string l.note] 121) (.cells #[.string ⟨#[]⟩, .slice none 0 0] 90) (.cells #[] 9)
  rw [hW0] at x0 x1
  have HC : Hid ((Below w.heap.size w W0 ∧ w.heap.size + 2 ≤ W0.heap.size) ∧ True ∧ ∀ W, Below W0.heap.size W0 W → LB l w W) := ⟨⟨hb0, s0⟩, trivial, fun W hW => by
    have y0 := (hW.block _ (Array.getElem?_eq_some_iff.1 x0).1).trans x0
    have y1 := (hW.block _ (Array.getElem?_eq_some_iff.1 x1).1).trans x1
    exact ⟨box5 y0, (sbox y1).1, (sbox y1).2.1, (sbox y1).2.2⟩⟩
  obtain ⟨⟨c0, c1, c2, c3, c4⟩, d0, d1, d2⟩ := HC.out.2.2 W0 (Below.refl _ _)
  obtain ⟨fw, hfw⟩ : ∃ fw, fw = [decS l.no, l.item, decS l.qty] ++ optN l.money := ⟨_, rfl⟩
  rw [← hfw]
  have HF : Hid (fw = [decS l.no, l.item, decS l.qty] ++ optN l.money) := hfw
  clear hfw
  go_enter Tryz.func101, Tryz.ntmps101
  go_upto_region 2 with fail
  try rw [hW0]
  clear hW0 x0 x1 hb0 s0
  go_upto_region 5 with fail
  go_region_held3 (fun W => W.cell? ⟨w.heap.size, 0, none⟩ = some (.int .i64 l.no) ∧ W.cell? ⟨w.heap.size, 1, none⟩ = some (.string l.item) ∧ W.cell? ⟨w.heap.size, 2, none⟩ = some (.int .i64 l.qty) ∧ W.cell? ⟨w.heap.size, 3, none⟩ = some (.int .i64 l.money) ∧ W.cell? ⟨w.heap.size, 4, none⟩ = some (.string l.note)) (go_keep) (first | (go_at_call_of 64 (Value.int IntKind.i64 l.no); refine (decG_any l.no _ hI.1.1 hI.1.2).mono ?_; rintro e wx ⟨rfl, hbx⟩; have bx : Below W0.heap.size W0 wx := (by first | exact hbx | exact undrewP hbx); obtain ⟨⟨x0, x1, x2, x3, x4⟩, _⟩ := HC.out.2.2 wx bx; clear hbx; try dsimp only) | (go_at_call_of 64 (Value.int IntKind.i64 l.qty); refine (decG_any l.qty _ hI.2.1.1 hI.2.1.2).mono ?_; rintro e wu ⟨rfl, hbu⟩; have bu : Below W0.heap.size W0 wu := bx.trans ((by first | exact hbu | exact undrewP hbu : Below wx.heap.size wx wu).mono bx.size); obtain ⟨⟨u0, u1, u2, u3, u4⟩, _⟩ := HC.out.2.2 wu bu; clear hbu; try dsimp only) | fail)
  rename_i hHeld
  clear hHeld
  have bN : Below W0.heap.size W0 (wu.alloc (.cells #[.string (decS l.no), .string l.item, .string (decS l.qty)] 9)) := bu.trans ((Below.refl _ _).alloc bu.size _)
  obtain ⟨⟨e0, e1, e2, e3, e4⟩, _⟩ := HC.out.2.2 _ bN
  by_cases hm : l.money = 0
  · have hm' : (l.money == 0) = true := by simpa using hm
    have HN : Hid (RowS (wu.alloc (.cells #[.string (decS l.no), .string l.item, .string (decS l.qty)] 9)) (.slice (some ⟨wu.heap.size, 0, none⟩) 3 3) [decS l.no, l.item, decS l.qty] ∧ Below W0.heap.size W0 (wu.alloc (.cells #[.string (decS l.no), .string l.item, .string (decS l.qty)] 9))) := ⟨row3s _ _ _ _ (by omega) (by omega) (by omega), bN⟩
    have ho : optN l.money = [] := by unfold optN; rw [if_pos hm]
    have HE : Hid (fw = [decS l.no, l.item, decS l.qty]) := by show _ = _; rw [HF.out, ho, List.append_nil]
    clear bN hm ho
    go_wp2_with fail
    refine (l03Seg_any ⟨#[76, 73, 78]⟩ _ ([decS l.no, l.item, decS l.qty]) _ HN.out.1 (by simp)).mono ?_
    rintro e w9 ⟨u9, vals9, rfl, hO9, hb9⟩
    obtain ⟨A9, N9, C9, hu9⟩ := row_slice hO9.row
    subst hu9
    have b9 : Below W0.heap.size W0 w9 := HN.out.2.trans (hb9.mono HN.out.2.size)
    obtain ⟨_, r0, r1, rz⟩ := HC.out.2.2 w9 b9
    have z9 := HN.out.2.size
    have HO : Hid (OwnV (w.heap.size + 2) w9 (.slice A9 N9 C9) vals9 (([decS l.no, l.item, decS l.qty]).map fun t => [t]) ∧ Below w.heap.size w w9) := ⟨hO9.mono (by have := HC.out.1.2; omega), HC.out.1.1.trans (b9.mono HC.out.1.1.size)⟩
    clear hO9 hb9 b9 z9
    go_wp2
    exact bodyPost_ret (v := .agg #[.string ⟨#[76, 73, 78]⟩, .slice A9 N9 C9]) (by simp [results, Tryz.results101, go_sem, r0, r1]) rfl ⟨_, vals9, rfl, by rw [HE.out]; exact ((HO.out.1.set (by omega) _ _).set (by omega) _ _).mono (by omega), (HO.out.2.setCell (show w.heap.size ≤ w.heap.size + 1 by omega) _).setCell (show w.heap.size ≤ w.heap.size + 1 by omega) _⟩
  · have hm' : (l.money == 0) = false := by simpa using hm
    have ho : optN l.money = [decS l.money] := by unfold optN; rw [if_neg hm]
    have HE : Hid (fw = [decS l.no, l.item, decS l.qty] ++ [decS l.money]) := by show _ = _; rw [HF.out, ho]
    have HB : Hid (Below W0.heap.size W0 (wu.alloc (.cells #[.string (decS l.no), .string l.item, .string (decS l.qty)] 9))) := bN
    clear bN hm ho
    go_wp2_with fail
    refine (decG_any l.money _ hI.2.2.1 hI.2.2.2).mono ?_
    rintro e w3 ⟨rfl, hb3⟩
    have bw : Below W0.heap.size W0 w3 := HB.out.trans (hb3.mono HB.out.size)
    obtain ⟨W5, hW5⟩ : ∃ W5, w3.alloc (.cells #[.string (decS l.money)] 9) = W5 := ⟨_, rfl⟩
    have b5 : Below w3.heap.size w3 W5 := by rw [← hW5]; exact (Below.refl _ _).alloc (Nat.le_refl _) _
    have y5 : W5.cell? ⟨w3.heap.size, 0, none⟩ = some (.string (decS l.money)) := by rw [← hW5]; simp [go_sem]
    have hrow : W5.ownsRow W0.heap.size 9 1 (.slice (some ⟨wu.heap.size, 0, none⟩) 3 3) ([decS l.no, l.item, decS l.qty] : List ByteArray).length (([decS l.no, l.item, decS l.qty] : List ByteArray).map Value.string) := own_below (own_below (ownW wu bu.size [decS l.no, l.item, decS l.qty] (by simp)) hb3) b5
    have bw5 : Below W0.heap.size W0 W5 := bw.trans (b5.mono bw.size)
    have hbase : W0.heap.size ≤ W5.heap.size := bw5.size
    have HW5 : Hid (Below W0.heap.size W0 W5) := bw5
    have hl1 : ([decS l.no, l.item, decS l.qty] : List ByteArray).length + 1 ≤ 2000000 := by simp
    clear b5 bw5 bw hb3
    go_wp2_with (at_builtin; (try rw [hW5]); refine wpList_appTx (base := W0.heap.size) (c := w3.heap.size) (C := 1) (lv := .slice (some ⟨wu.heap.size, 0, none⟩) 3 3) (ss := [decS l.no, l.item, decS l.qty]) (t := decS l.money) rfl _ _ rfl rfl rfl hrow y5 hl1 hbase ?_; rintro v6 w6 hown6 hgrow6 ⟨A6, C6, rfl⟩; have HN : Hid (RowS w6 (.slice A6 4 C6) ([decS l.no, l.item, decS l.qty] ++ [decS l.money]) ∧ Below W0.heap.size W0 w6) := ⟨own_rowT hown6 rfl (by simp) (by intro t ht; simp only [List.cons_append, List.nil_append, List.mem_cons, List.not_mem_nil, or_false] at ht; rcases ht with rfl | rfl | rfl | rfl <;> omega), appTx_below HW5.out hrow hgrow6 hbase⟩; clear hown6 hgrow6 hrow; try dsimp only)
    refine (l03Seg_any ⟨#[76, 73, 78]⟩ _ ([decS l.no, l.item, decS l.qty] ++ [decS l.money]) _ HN.out.1 (by simp)).mono ?_
    rintro e w9 ⟨u9, vals9, rfl, hO9, hb9⟩
    obtain ⟨A9, N9, C9, hu9⟩ := row_slice hO9.row
    subst hu9
    have b9 : Below W0.heap.size W0 w9 := HN.out.2.trans (hb9.mono HN.out.2.size)
    obtain ⟨_, r0, r1, rz⟩ := HC.out.2.2 w9 b9
    have z9 := HN.out.2.size
    have HO : Hid (OwnV (w.heap.size + 2) w9 (.slice A9 N9 C9) vals9 (([decS l.no, l.item, decS l.qty] ++ [decS l.money]).map fun t => [t]) ∧ Below w.heap.size w w9) := ⟨hO9.mono (by have := HC.out.1.2; omega), HC.out.1.1.trans (b9.mono HC.out.1.1.size)⟩
    clear hO9 hb9 b9 z9
    go_wp2
    exact bodyPost_ret (v := .agg #[.string ⟨#[76, 73, 78]⟩, .slice A9 N9 C9]) (by simp [results, Tryz.results101, go_sem, r0, r1]) rfl ⟨_, vals9, rfl, by rw [HE.out]; exact ((HO.out.1.set (by omega) _ _).set (by omega) _ _).mono (by omega), (HO.out.2.setCell (show w.heap.size ≤ w.heap.size + 1 by omega) _).setCell (show w.heap.size ≤ w.heap.size + 1 by omega) _⟩
set_option maxRecDepth 20000 in
set_option maxHeartbeats 16000000 in
theorem sline_5 (l : Ln) (w : World) (hI : LnI l) (hz : l.item.size ≤ 1048576 ∧ l.note.size ≤ 1048576) :
    Calls Tryz.prog 101 #[.int .i64 5, .agg #[.int .i64 l.no, .string l.item, .int .i64 l.qty, .int .i64 l.money, .string l.note]] w fun e w' => ∃ u vals, e = .returned (.agg #[.string ⟨#[73, 84, 77]⟩, u]) ∧ OwnV w.heap.size w' u vals (([l.item, decS l.qty]).map fun t => [t]) ∧ Below w.heap.size w w' := by
  obtain ⟨zi, zn⟩ := hz
  have zo := (decS_long l.no hI.1.1 hI.1.2).2
  have zq := (decS_long l.qty hI.2.1.1 hI.2.1.2).2
  have zm := (decS_long l.money hI.2.2.1 hI.2.2.2).2
  obtain ⟨W0, hW0⟩ : ∃ W0, ((w.alloc (.cells #[.int .i64 l.no, .string l.item, .int .i64 l.qty, .int .i64 l.money, .string l.note] 121)).alloc (.cells #[.string ⟨#[]⟩, .slice none 0 0] 90)).alloc (.cells #[] 9) = W0 := ⟨_, rfl⟩
  have hb0 : Below w.heap.size w W0 := by rw [← hW0]; exact (((Below.refl _ _).alloc (Nat.le_refl _) _).alloc (by simp) _).alloc (by simp; omega) _
  have s0 : w.heap.size + 2 ≤ W0.heap.size := by rw [← hW0]; simp
  obtain ⟨x0, x1, _⟩ := thr_new w (.cells #[.int .i64 l.no, .string l.item, .int .i64 l.qty, .int .i64 l.money, .string l.note] 121) (.cells #[.string ⟨#[]⟩, .slice none 0 0] 90) (.cells #[] 9)
  rw [hW0] at x0 x1
  have HC : Hid ((Below w.heap.size w W0 ∧ w.heap.size + 2 ≤ W0.heap.size) ∧ True ∧ ∀ W, Below W0.heap.size W0 W → LB l w W) := ⟨⟨hb0, s0⟩, trivial, fun W hW => by
    have y0 := (hW.block _ (Array.getElem?_eq_some_iff.1 x0).1).trans x0
    have y1 := (hW.block _ (Array.getElem?_eq_some_iff.1 x1).1).trans x1
    exact ⟨box5 y0, (sbox y1).1, (sbox y1).2.1, (sbox y1).2.2⟩⟩
  obtain ⟨⟨c0, c1, c2, c3, c4⟩, d0, d1, d2⟩ := HC.out.2.2 W0 (Below.refl _ _)
  obtain ⟨fw, hfw⟩ : ∃ fw, fw = [l.item, decS l.qty] := ⟨_, rfl⟩
  rw [← hfw]
  have HF : Hid (fw = [l.item, decS l.qty]) := hfw
  clear hfw
  go_enter Tryz.func101, Tryz.ntmps101
  go_upto_region 2 with fail
  try rw [hW0]
  clear hW0 x0 x1 hb0 s0
  go_upto_region 10 with fail
  go_region_held3 (fun W => W.cell? ⟨w.heap.size, 0, none⟩ = some (.int .i64 l.no) ∧ W.cell? ⟨w.heap.size, 1, none⟩ = some (.string l.item) ∧ W.cell? ⟨w.heap.size, 2, none⟩ = some (.int .i64 l.qty) ∧ W.cell? ⟨w.heap.size, 3, none⟩ = some (.int .i64 l.money) ∧ W.cell? ⟨w.heap.size, 4, none⟩ = some (.string l.note)) (go_keep) (first | (go_at_call_of 64 (Value.int IntKind.i64 l.qty); refine (decG_any l.qty _ hI.2.1.1 hI.2.1.2).mono ?_; rintro e wx ⟨rfl, hbx⟩; have bx : Below W0.heap.size W0 wx := (by first | exact hbx | exact undrewP hbx); obtain ⟨⟨x0, x1, x2, x3, x4⟩, _⟩ := HC.out.2.2 wx bx; clear hbx; try dsimp only) | (go_at_call 63; refine (l03Seg_any ⟨#[73, 84, 77]⟩ _ [l.item, decS l.qty] _ (by first | exact row2s _ _ _ (by omega) (by omega) | exact (row2s _ _ _ (by omega) (by omega)).below (Below.refl _ _).drew) (by simp)).mono ?_; rintro e w9 ⟨u9, vals9, rfl, hO9, hb9⟩; obtain ⟨A9, N9, C9, hu9⟩ := row_slice hO9.row; subst hu9; have bN : Below W0.heap.size W0 (wx.alloc (.cells #[.string l.item, .string (decS l.qty)] 9)) := bx.trans ((Below.refl _ _).alloc bx.size _); have bN9 : Below (wx.alloc (.cells #[.string l.item, .string (decS l.qty)] 9)).heap.size (wx.alloc (.cells #[.string l.item, .string (decS l.qty)] 9)) w9 := (by first | exact hb9 | exact undrewP hb9); have b9 : Below W0.heap.size W0 w9 := bN.trans (bN9.mono bN.size); obtain ⟨⟨s0, s1, s2, s3, s4⟩, r0, r1, rz⟩ := HC.out.2.2 w9 b9; have HO : Hid (OwnV (w.heap.size + 2) w9 (.slice A9 N9 C9) vals9 (([l.item, decS l.qty]).map fun t => [t]) ∧ Below w.heap.size w w9) := ⟨hO9.mono (by first | (have := HC.out.1.2; have := bN.size; omega) | (have := HC.out.1.2; have := bN.size; show _ ≤ (wx.alloc (.cells #[.string l.item, .string (decS l.qty)] 9)).heap.size; omega)), HC.out.1.1.trans (b9.mono HC.out.1.1.size)⟩; clear hO9 hb9 b9 bN bN9; try dsimp only) | fail)
  rename_i hHeld
  clear hHeld
  have HE : Hid (fw = [l.item, decS l.qty]) := HF.out
  go_wp2
  exact bodyPost_ret (v := .agg #[.string ⟨#[73, 84, 77]⟩, .slice A9 N9 C9]) (by simp [results, Tryz.results101, go_sem, r0, r1]) rfl ⟨_, vals9, rfl, by rw [HE.out]; exact ((HO.out.1.set (by omega) _ _).set (by omega) _ _).mono (by omega), (HO.out.2.setCell (show w.heap.size ≤ w.heap.size + 1 by omega) _).setCell (show w.heap.size ≤ w.heap.size + 1 by omega) _⟩
set_option maxRecDepth 20000 in
set_option maxHeartbeats 16000000 in
theorem sline_7 (l : Ln) (w : World) (hI : LnI l) (hz : l.item.size ≤ 1048576 ∧ l.note.size ≤ 1048576) :
    Calls Tryz.prog 101 #[.int .i64 7, .agg #[.int .i64 l.no, .string l.item, .int .i64 l.qty, .int .i64 l.money, .string l.note]] w fun e w' => ∃ u vals, e = .returned (.agg #[.string ⟨#[65, 67, 75]⟩, u]) ∧ OwnV w.heap.size w' u vals (([decS l.no, decS l.qty] ++ optN l.money).map fun t => [t]) ∧ Below w.heap.size w w' := by
  obtain ⟨zi, zn⟩ := hz
  have zo := (decS_long l.no hI.1.1 hI.1.2).2
  have zq := (decS_long l.qty hI.2.1.1 hI.2.1.2).2
  have zm := (decS_long l.money hI.2.2.1 hI.2.2.2).2
  obtain ⟨W0, hW0⟩ : ∃ W0, ((w.alloc (.cells #[.int .i64 l.no, .string l.item, .int .i64 l.qty, .int .i64 l.money, .string l.note] 121)).alloc (.cells #[.string ⟨#[]⟩, .slice none 0 0] 90)).alloc (.cells #[] 9) = W0 := ⟨_, rfl⟩
  have hb0 : Below w.heap.size w W0 := by rw [← hW0]; exact (((Below.refl _ _).alloc (Nat.le_refl _) _).alloc (by simp) _).alloc (by simp; omega) _
  have s0 : w.heap.size + 2 ≤ W0.heap.size := by rw [← hW0]; simp
  obtain ⟨x0, x1, _⟩ := thr_new w (.cells #[.int .i64 l.no, .string l.item, .int .i64 l.qty, .int .i64 l.money, .string l.note] 121) (.cells #[.string ⟨#[]⟩, .slice none 0 0] 90) (.cells #[] 9)
  rw [hW0] at x0 x1
  have HC : Hid ((Below w.heap.size w W0 ∧ w.heap.size + 2 ≤ W0.heap.size) ∧ True ∧ ∀ W, Below W0.heap.size W0 W → LB l w W) := ⟨⟨hb0, s0⟩, trivial, fun W hW => by
    have y0 := (hW.block _ (Array.getElem?_eq_some_iff.1 x0).1).trans x0
    have y1 := (hW.block _ (Array.getElem?_eq_some_iff.1 x1).1).trans x1
    exact ⟨box5 y0, (sbox y1).1, (sbox y1).2.1, (sbox y1).2.2⟩⟩
  obtain ⟨⟨c0, c1, c2, c3, c4⟩, d0, d1, d2⟩ := HC.out.2.2 W0 (Below.refl _ _)
  obtain ⟨fw, hfw⟩ : ∃ fw, fw = [decS l.no, decS l.qty] ++ optN l.money := ⟨_, rfl⟩
  rw [← hfw]
  have HF : Hid (fw = [decS l.no, decS l.qty] ++ optN l.money) := hfw
  clear hfw
  go_enter Tryz.func101, Tryz.ntmps101
  go_upto_region 2 with fail
  try rw [hW0]
  clear hW0 x0 x1 hb0 s0
  go_upto_region 12 with fail
  go_region_held3 (fun W => W.cell? ⟨w.heap.size, 0, none⟩ = some (.int .i64 l.no) ∧ W.cell? ⟨w.heap.size, 1, none⟩ = some (.string l.item) ∧ W.cell? ⟨w.heap.size, 2, none⟩ = some (.int .i64 l.qty) ∧ W.cell? ⟨w.heap.size, 3, none⟩ = some (.int .i64 l.money) ∧ W.cell? ⟨w.heap.size, 4, none⟩ = some (.string l.note)) (go_keep) (first | (go_at_call_of 64 (Value.int IntKind.i64 l.no); refine (decG_any l.no _ hI.1.1 hI.1.2).mono ?_; rintro e wx ⟨rfl, hbx⟩; have bx : Below W0.heap.size W0 wx := (by first | exact hbx | exact undrewP hbx); obtain ⟨⟨x0, x1, x2, x3, x4⟩, _⟩ := HC.out.2.2 wx bx; clear hbx; try dsimp only) | (go_at_call_of 64 (Value.int IntKind.i64 l.qty); refine (decG_any l.qty _ hI.2.1.1 hI.2.1.2).mono ?_; rintro e wu ⟨rfl, hbu⟩; have bu : Below W0.heap.size W0 wu := bx.trans ((by first | exact hbu | exact undrewP hbu : Below wx.heap.size wx wu).mono bx.size); obtain ⟨⟨u0, u1, u2, u3, u4⟩, _⟩ := HC.out.2.2 wu bu; clear hbu; try dsimp only) | fail)
  rename_i hHeld
  clear hHeld
  have bN : Below W0.heap.size W0 (wu.alloc (.cells #[.string (decS l.no), .string (decS l.qty)] 9)) := bu.trans ((Below.refl _ _).alloc bu.size _)
  obtain ⟨⟨e0, e1, e2, e3, e4⟩, _⟩ := HC.out.2.2 _ bN
  by_cases hm : l.money = 0
  · have hm' : (l.money == 0) = true := by simpa using hm
    have HN : Hid (RowS (wu.alloc (.cells #[.string (decS l.no), .string (decS l.qty)] 9)) (.slice (some ⟨wu.heap.size, 0, none⟩) 2 2) [decS l.no, decS l.qty] ∧ Below W0.heap.size W0 (wu.alloc (.cells #[.string (decS l.no), .string (decS l.qty)] 9))) := ⟨row2s _ _ _ (by omega) (by omega), bN⟩
    have ho : optN l.money = [] := by unfold optN; rw [if_pos hm]
    have HE : Hid (fw = [decS l.no, decS l.qty]) := by show _ = _; rw [HF.out, ho, List.append_nil]
    clear bN hm ho
    go_wp2_with fail
    refine (l03Seg_any ⟨#[65, 67, 75]⟩ _ ([decS l.no, decS l.qty]) _ HN.out.1 (by simp)).mono ?_
    rintro e w9 ⟨u9, vals9, rfl, hO9, hb9⟩
    obtain ⟨A9, N9, C9, hu9⟩ := row_slice hO9.row
    subst hu9
    have b9 : Below W0.heap.size W0 w9 := HN.out.2.trans (hb9.mono HN.out.2.size)
    obtain ⟨_, r0, r1, rz⟩ := HC.out.2.2 w9 b9
    have z9 := HN.out.2.size
    have HO : Hid (OwnV (w.heap.size + 2) w9 (.slice A9 N9 C9) vals9 (([decS l.no, decS l.qty]).map fun t => [t]) ∧ Below w.heap.size w w9) := ⟨hO9.mono (by have := HC.out.1.2; omega), HC.out.1.1.trans (b9.mono HC.out.1.1.size)⟩
    clear hO9 hb9 b9 z9
    go_wp2
    exact bodyPost_ret (v := .agg #[.string ⟨#[65, 67, 75]⟩, .slice A9 N9 C9]) (by simp [results, Tryz.results101, go_sem, r0, r1]) rfl ⟨_, vals9, rfl, by rw [HE.out]; exact ((HO.out.1.set (by omega) _ _).set (by omega) _ _).mono (by omega), (HO.out.2.setCell (show w.heap.size ≤ w.heap.size + 1 by omega) _).setCell (show w.heap.size ≤ w.heap.size + 1 by omega) _⟩
  · have hm' : (l.money == 0) = false := by simpa using hm
    have ho : optN l.money = [decS l.money] := by unfold optN; rw [if_neg hm]
    have HE : Hid (fw = [decS l.no, decS l.qty] ++ [decS l.money]) := by show _ = _; rw [HF.out, ho]
    have HB : Hid (Below W0.heap.size W0 (wu.alloc (.cells #[.string (decS l.no), .string (decS l.qty)] 9))) := bN
    clear bN hm ho
    go_wp2_with fail
    refine (decG_any l.money _ hI.2.2.1 hI.2.2.2).mono ?_
    rintro e w3 ⟨rfl, hb3⟩
    have bw : Below W0.heap.size W0 w3 := HB.out.trans (hb3.mono HB.out.size)
    obtain ⟨W5, hW5⟩ : ∃ W5, w3.alloc (.cells #[.string (decS l.money)] 9) = W5 := ⟨_, rfl⟩
    have b5 : Below w3.heap.size w3 W5 := by rw [← hW5]; exact (Below.refl _ _).alloc (Nat.le_refl _) _
    have y5 : W5.cell? ⟨w3.heap.size, 0, none⟩ = some (.string (decS l.money)) := by rw [← hW5]; simp [go_sem]
    have hrow : W5.ownsRow W0.heap.size 9 1 (.slice (some ⟨wu.heap.size, 0, none⟩) 2 2) ([decS l.no, decS l.qty] : List ByteArray).length (([decS l.no, decS l.qty] : List ByteArray).map Value.string) := own_below (own_below (ownW wu bu.size [decS l.no, decS l.qty] (by simp)) hb3) b5
    have bw5 : Below W0.heap.size W0 W5 := bw.trans (b5.mono bw.size)
    have hbase : W0.heap.size ≤ W5.heap.size := bw5.size
    have HW5 : Hid (Below W0.heap.size W0 W5) := bw5
    have hl1 : ([decS l.no, decS l.qty] : List ByteArray).length + 1 ≤ 2000000 := by simp
    clear b5 bw5 bw hb3
    go_wp2_with (at_builtin; (try rw [hW5]); refine wpList_appTx (base := W0.heap.size) (c := w3.heap.size) (C := 1) (lv := .slice (some ⟨wu.heap.size, 0, none⟩) 2 2) (ss := [decS l.no, decS l.qty]) (t := decS l.money) rfl _ _ rfl rfl rfl hrow y5 hl1 hbase ?_; rintro v6 w6 hown6 hgrow6 ⟨A6, C6, rfl⟩; have HN : Hid (RowS w6 (.slice A6 3 C6) ([decS l.no, decS l.qty] ++ [decS l.money]) ∧ Below W0.heap.size W0 w6) := ⟨own_rowT hown6 rfl (by simp) (by intro t ht; simp only [List.cons_append, List.nil_append, List.mem_cons, List.not_mem_nil, or_false] at ht; rcases ht with rfl | rfl | rfl <;> omega), appTx_below HW5.out hrow hgrow6 hbase⟩; clear hown6 hgrow6 hrow; try dsimp only)
    refine (l03Seg_any ⟨#[65, 67, 75]⟩ _ ([decS l.no, decS l.qty] ++ [decS l.money]) _ HN.out.1 (by simp)).mono ?_
    rintro e w9 ⟨u9, vals9, rfl, hO9, hb9⟩
    obtain ⟨A9, N9, C9, hu9⟩ := row_slice hO9.row
    subst hu9
    have b9 : Below W0.heap.size W0 w9 := HN.out.2.trans (hb9.mono HN.out.2.size)
    obtain ⟨_, r0, r1, rz⟩ := HC.out.2.2 w9 b9
    have z9 := HN.out.2.size
    have HO : Hid (OwnV (w.heap.size + 2) w9 (.slice A9 N9 C9) vals9 (([decS l.no, decS l.qty] ++ [decS l.money]).map fun t => [t]) ∧ Below w.heap.size w w9) := ⟨hO9.mono (by have := HC.out.1.2; omega), HC.out.1.1.trans (b9.mono HC.out.1.1.size)⟩
    clear hO9 hb9 b9 z9
    go_wp2
    exact bodyPost_ret (v := .agg #[.string ⟨#[65, 67, 75]⟩, .slice A9 N9 C9]) (by simp [results, Tryz.results101, go_sem, r0, r1]) rfl ⟨_, vals9, rfl, by rw [HE.out]; exact ((HO.out.1.set (by omega) _ _).set (by omega) _ _).mono (by omega), (HO.out.2.setCell (show w.heap.size ≤ w.heap.size + 1 by omega) _).setCell (show w.heap.size ≤ w.heap.size + 1 by omega) _⟩
set_option maxRecDepth 20000 in
set_option maxHeartbeats 16000000 in
theorem sline_6 (l : Ln) (w : World) (hI : LnI l) (hz : l.item.size ≤ 1048576 ∧ l.note.size ≤ 1048576) :
    Calls Tryz.prog 101 #[.int .i64 6, .agg #[.int .i64 l.no, .string l.item, .int .i64 l.qty, .int .i64 l.money, .string l.note]] w fun e w' => ∃ u vals, e = .returned (.agg #[.string ⟨#[73, 84, 77]⟩, u]) ∧ OwnV w.heap.size w' u vals (([l.item, decS l.qty] ++ optT l.note).map fun t => [t]) ∧ Below w.heap.size w w' := by
  obtain ⟨zi, zn⟩ := hz
  have zo := (decS_long l.no hI.1.1 hI.1.2).2
  have zq := (decS_long l.qty hI.2.1.1 hI.2.1.2).2
  have zm := (decS_long l.money hI.2.2.1 hI.2.2.2).2
  obtain ⟨W0, hW0⟩ : ∃ W0, ((w.alloc (.cells #[.int .i64 l.no, .string l.item, .int .i64 l.qty, .int .i64 l.money, .string l.note] 121)).alloc (.cells #[.string ⟨#[]⟩, .slice none 0 0] 90)).alloc (.cells #[] 9) = W0 := ⟨_, rfl⟩
  have hb0 : Below w.heap.size w W0 := by rw [← hW0]; exact (((Below.refl _ _).alloc (Nat.le_refl _) _).alloc (by simp) _).alloc (by simp; omega) _
  have s0 : w.heap.size + 2 ≤ W0.heap.size := by rw [← hW0]; simp
  obtain ⟨x0, x1, _⟩ := thr_new w (.cells #[.int .i64 l.no, .string l.item, .int .i64 l.qty, .int .i64 l.money, .string l.note] 121) (.cells #[.string ⟨#[]⟩, .slice none 0 0] 90) (.cells #[] 9)
  rw [hW0] at x0 x1
  have HC : Hid ((Below w.heap.size w W0 ∧ w.heap.size + 2 ≤ W0.heap.size) ∧ True ∧ ∀ W, Below W0.heap.size W0 W → LB l w W) := ⟨⟨hb0, s0⟩, trivial, fun W hW => by
    have y0 := (hW.block _ (Array.getElem?_eq_some_iff.1 x0).1).trans x0
    have y1 := (hW.block _ (Array.getElem?_eq_some_iff.1 x1).1).trans x1
    exact ⟨box5 y0, (sbox y1).1, (sbox y1).2.1, (sbox y1).2.2⟩⟩
  obtain ⟨⟨c0, c1, c2, c3, c4⟩, d0, d1, d2⟩ := HC.out.2.2 W0 (Below.refl _ _)
  obtain ⟨fw, hfw⟩ : ∃ fw, fw = [l.item, decS l.qty] ++ optT l.note := ⟨_, rfl⟩
  rw [← hfw]
  have HF : Hid (fw = [l.item, decS l.qty] ++ optT l.note) := hfw
  clear hfw
  go_enter Tryz.func101, Tryz.ntmps101
  go_upto_region 2 with fail
  try rw [hW0]
  clear hW0 x0 x1 hb0 s0
  go_upto_region 17 with fail
  go_region_held3 (fun W => W.cell? ⟨w.heap.size, 0, none⟩ = some (.int .i64 l.no) ∧ W.cell? ⟨w.heap.size, 1, none⟩ = some (.string l.item) ∧ W.cell? ⟨w.heap.size, 2, none⟩ = some (.int .i64 l.qty) ∧ W.cell? ⟨w.heap.size, 3, none⟩ = some (.int .i64 l.money) ∧ W.cell? ⟨w.heap.size, 4, none⟩ = some (.string l.note)) (go_keep) (first | (go_at_call_of 64 (Value.int IntKind.i64 l.qty); refine (decG_any l.qty _ hI.2.1.1 hI.2.1.2).mono ?_; rintro e wx ⟨rfl, hbx⟩; have bx : Below W0.heap.size W0 wx := (by first | exact hbx | exact undrewP hbx); obtain ⟨⟨x0, x1, x2, x3, x4⟩, _⟩ := HC.out.2.2 wx bx; clear hbx; try dsimp only) | fail)
  rename_i hHeld
  clear hHeld
  have bN : Below W0.heap.size W0 (wx.alloc (.cells #[.string l.item, .string (decS l.qty)] 9)) := bx.trans ((Below.refl _ _).alloc bx.size _)
  obtain ⟨⟨e0, e1, e2, e3, e4⟩, _⟩ := HC.out.2.2 _ bN
  by_cases hm : l.note.toList.isEmpty = true
  · have hm' : (l.note.toList == []) = true := by simpa using hm
    have HN : Hid (RowS (wx.alloc (.cells #[.string l.item, .string (decS l.qty)] 9)) (.slice (some ⟨wx.heap.size, 0, none⟩) 2 2) [l.item, decS l.qty] ∧ Below W0.heap.size W0 (wx.alloc (.cells #[.string l.item, .string (decS l.qty)] 9))) := ⟨row2s _ _ _ (by omega) (by omega), bN⟩
    have ho : optT l.note = [] := by unfold optT; rw [if_pos hm]
    have HE : Hid (fw = [l.item, decS l.qty]) := by show _ = _; rw [HF.out, ho, List.append_nil]
    clear bN hm ho
    go_wp2_with fail
    refine (l03Seg_any ⟨#[73, 84, 77]⟩ _ ([l.item, decS l.qty]) _ HN.out.1 (by simp)).mono ?_
    rintro e w9 ⟨u9, vals9, rfl, hO9, hb9⟩
    obtain ⟨A9, N9, C9, hu9⟩ := row_slice hO9.row
    subst hu9
    have b9 : Below W0.heap.size W0 w9 := HN.out.2.trans (hb9.mono HN.out.2.size)
    obtain ⟨_, r0, r1, rz⟩ := HC.out.2.2 w9 b9
    have z9 := HN.out.2.size
    have HO : Hid (OwnV (w.heap.size + 2) w9 (.slice A9 N9 C9) vals9 (([l.item, decS l.qty]).map fun t => [t]) ∧ Below w.heap.size w w9) := ⟨hO9.mono (by have := HC.out.1.2; omega), HC.out.1.1.trans (b9.mono HC.out.1.1.size)⟩
    clear hO9 hb9 b9 z9
    go_wp2
    exact bodyPost_ret (v := .agg #[.string ⟨#[73, 84, 77]⟩, .slice A9 N9 C9]) (by simp [results, Tryz.results101, go_sem, r0, r1]) rfl ⟨_, vals9, rfl, by rw [HE.out]; exact ((HO.out.1.set (by omega) _ _).set (by omega) _ _).mono (by omega), (HO.out.2.setCell (show w.heap.size ≤ w.heap.size + 1 by omega) _).setCell (show w.heap.size ≤ w.heap.size + 1 by omega) _⟩
  · have hm' : (l.note.toList == []) = false := by simpa using hm
    have ho : optT l.note = [l.note] := by unfold optT; rw [if_neg hm]
    have HE : Hid (fw = [l.item, decS l.qty] ++ [l.note]) := by show _ = _; rw [HF.out, ho]
    have HB : Hid (Below W0.heap.size W0 (wx.alloc (.cells #[.string l.item, .string (decS l.qty)] 9))) := bN
    obtain ⟨w3, hw3⟩ : ∃ w3, (wx.alloc (.cells #[.string l.item, .string (decS l.qty)] 9)) = w3 := ⟨_, rfl⟩
    have hb3 : Below (wx.alloc (.cells #[.string l.item, .string (decS l.qty)] 9)).heap.size (wx.alloc (.cells #[.string l.item, .string (decS l.qty)] 9)) w3 := by rw [hw3]; exact Below.refl _ _
    clear bN hm ho
    have bw : Below W0.heap.size W0 w3 := HB.out.trans (hb3.mono HB.out.size)
    obtain ⟨W5, hW5⟩ : ∃ W5, w3.alloc (.cells #[.string (l.note)] 9) = W5 := ⟨_, rfl⟩
    have b5 : Below w3.heap.size w3 W5 := by rw [← hW5]; exact (Below.refl _ _).alloc (Nat.le_refl _) _
    have y5 : W5.cell? ⟨w3.heap.size, 0, none⟩ = some (.string (l.note)) := by rw [← hW5]; simp [go_sem]
    have hrow : W5.ownsRow W0.heap.size 9 1 (.slice (some ⟨wx.heap.size, 0, none⟩) 2 2) ([l.item, decS l.qty] : List ByteArray).length (([l.item, decS l.qty] : List ByteArray).map Value.string) := own_below (own_below (ownW wx bx.size [l.item, decS l.qty] (by simp)) hb3) b5
    have bw5 : Below W0.heap.size W0 W5 := bw.trans (b5.mono bw.size)
    have hbase : W0.heap.size ≤ W5.heap.size := bw5.size
    have HW5 : Hid (Below W0.heap.size W0 W5) := bw5
    have hl1 : ([l.item, decS l.qty] : List ByteArray).length + 1 ≤ 2000000 := by simp
    clear b5 bw5 bw hb3
    try rw [hw3]
    rw [hw3] at e0 e1 e2 e3 e4
    clear hw3
    go_wp2_with (at_builtin; (try rw [hW5]); refine wpList_appTx (base := W0.heap.size) (c := w3.heap.size) (C := 1) (lv := .slice (some ⟨wx.heap.size, 0, none⟩) 2 2) (ss := [l.item, decS l.qty]) (t := l.note) rfl _ _ rfl rfl rfl hrow y5 hl1 hbase ?_; rintro v6 w6 hown6 hgrow6 ⟨A6, C6, rfl⟩; have HN : Hid (RowS w6 (.slice A6 3 C6) ([l.item, decS l.qty] ++ [l.note]) ∧ Below W0.heap.size W0 w6) := ⟨own_rowT hown6 rfl (by simp) (by intro t ht; simp only [List.cons_append, List.nil_append, List.mem_cons, List.not_mem_nil, or_false] at ht; rcases ht with rfl | rfl | rfl <;> omega), appTx_below HW5.out hrow hgrow6 hbase⟩; clear hown6 hgrow6 hrow; try dsimp only)
    refine (l03Seg_any ⟨#[73, 84, 77]⟩ _ ([l.item, decS l.qty] ++ [l.note]) _ HN.out.1 (by simp)).mono ?_
    rintro e w9 ⟨u9, vals9, rfl, hO9, hb9⟩
    obtain ⟨A9, N9, C9, hu9⟩ := row_slice hO9.row
    subst hu9
    have b9 : Below W0.heap.size W0 w9 := HN.out.2.trans (hb9.mono HN.out.2.size)
    obtain ⟨_, r0, r1, rz⟩ := HC.out.2.2 w9 b9
    have z9 := HN.out.2.size
    have HO : Hid (OwnV (w.heap.size + 2) w9 (.slice A9 N9 C9) vals9 (([l.item, decS l.qty] ++ [l.note]).map fun t => [t]) ∧ Below w.heap.size w w9) := ⟨hO9.mono (by have := HC.out.1.2; omega), HC.out.1.1.trans (b9.mono HC.out.1.1.size)⟩
    clear hO9 hb9 b9 z9
    go_wp2
    exact bodyPost_ret (v := .agg #[.string ⟨#[73, 84, 77]⟩, .slice A9 N9 C9]) (by simp [results, Tryz.results101, go_sem, r0, r1]) rfl ⟨_, vals9, rfl, by rw [HE.out]; exact ((HO.out.1.set (by omega) _ _).set (by omega) _ _).mono (by omega), (HO.out.2.setCell (show w.heap.size ≤ w.heap.size + 1 by omega) _).setCell (show w.heap.size ≤ w.heap.size + 1 by omega) _⟩
set_option maxRecDepth 20000 in
set_option maxHeartbeats 16000000 in
theorem sline_e (k : Int) (q1 : (k == 1) = false) (q5 : (k == 5) = false) (q6 : (k == 6) = false) (q7 : (k == 7) = false) (l : Ln) (w : World) (hI : LnI l) (hz : l.item.size ≤ 1048576 ∧ l.note.size ≤ 1048576) :
    Calls Tryz.prog 101 #[.int .i64 k, .agg #[.int .i64 l.no, .string l.item, .int .i64 l.qty, .int .i64 l.money, .string l.note]] w fun e w' => ∃ u vals, e = .returned (.agg #[.string ⟨#[76, 73, 78]⟩, u]) ∧ OwnV w.heap.size w' u vals (([decS l.no, decS l.qty] ++ optT l.note).map fun t => [t]) ∧ Below w.heap.size w w' := by
  obtain ⟨zi, zn⟩ := hz
  have zo := (decS_long l.no hI.1.1 hI.1.2).2
  have zq := (decS_long l.qty hI.2.1.1 hI.2.1.2).2
  have zm := (decS_long l.money hI.2.2.1 hI.2.2.2).2
  obtain ⟨W0, hW0⟩ : ∃ W0, ((w.alloc (.cells #[.int .i64 l.no, .string l.item, .int .i64 l.qty, .int .i64 l.money, .string l.note] 121)).alloc (.cells #[.string ⟨#[]⟩, .slice none 0 0] 90)).alloc (.cells #[] 9) = W0 := ⟨_, rfl⟩
  have hb0 : Below w.heap.size w W0 := by rw [← hW0]; exact (((Below.refl _ _).alloc (Nat.le_refl _) _).alloc (by simp) _).alloc (by simp; omega) _
  have s0 : w.heap.size + 2 ≤ W0.heap.size := by rw [← hW0]; simp
  obtain ⟨x0, x1, _⟩ := thr_new w (.cells #[.int .i64 l.no, .string l.item, .int .i64 l.qty, .int .i64 l.money, .string l.note] 121) (.cells #[.string ⟨#[]⟩, .slice none 0 0] 90) (.cells #[] 9)
  rw [hW0] at x0 x1
  have HC : Hid ((Below w.heap.size w W0 ∧ w.heap.size + 2 ≤ W0.heap.size) ∧ True ∧ ∀ W, Below W0.heap.size W0 W → LB l w W) := ⟨⟨hb0, s0⟩, trivial, fun W hW => by
    have y0 := (hW.block _ (Array.getElem?_eq_some_iff.1 x0).1).trans x0
    have y1 := (hW.block _ (Array.getElem?_eq_some_iff.1 x1).1).trans x1
    exact ⟨box5 y0, (sbox y1).1, (sbox y1).2.1, (sbox y1).2.2⟩⟩
  obtain ⟨⟨c0, c1, c2, c3, c4⟩, d0, d1, d2⟩ := HC.out.2.2 W0 (Below.refl _ _)
  obtain ⟨fw, hfw⟩ : ∃ fw, fw = [decS l.no, decS l.qty] ++ optT l.note := ⟨_, rfl⟩
  rw [← hfw]
  have HF : Hid (fw = [decS l.no, decS l.qty] ++ optT l.note) := hfw
  clear hfw
  go_enter Tryz.func101, Tryz.ntmps101
  go_upto_region 2 with fail
  try rw [hW0]
  clear hW0 x0 x1 hb0 s0
  go_upto_region 3 with fail
  go_region_held3 (fun W => W.cell? ⟨w.heap.size, 0, none⟩ = some (.int .i64 l.no) ∧ W.cell? ⟨w.heap.size, 1, none⟩ = some (.string l.item) ∧ W.cell? ⟨w.heap.size, 2, none⟩ = some (.int .i64 l.qty) ∧ W.cell? ⟨w.heap.size, 3, none⟩ = some (.int .i64 l.money) ∧ W.cell? ⟨w.heap.size, 4, none⟩ = some (.string l.note)) (go_keep) (first | (go_at_call_of 64 (Value.int IntKind.i64 l.no); refine (decG_any l.no _ hI.1.1 hI.1.2).mono ?_; rintro e wx ⟨rfl, hbx⟩; have bx : Below W0.heap.size W0 wx := (by first | exact hbx | exact undrewP hbx); obtain ⟨⟨x0, x1, x2, x3, x4⟩, _⟩ := HC.out.2.2 wx bx; clear hbx; try dsimp only) | (go_at_call_of 64 (Value.int IntKind.i64 l.qty); refine (decG_any l.qty _ hI.2.1.1 hI.2.1.2).mono ?_; rintro e wu ⟨rfl, hbu⟩; have bu : Below W0.heap.size W0 wu := bx.trans ((by first | exact hbu | exact undrewP hbu : Below wx.heap.size wx wu).mono bx.size); obtain ⟨⟨u0, u1, u2, u3, u4⟩, _⟩ := HC.out.2.2 wu bu; clear hbu; try dsimp only) | fail)
  rename_i hHeld
  clear hHeld
  have bN : Below W0.heap.size W0 (wu.alloc (.cells #[.string (decS l.no), .string (decS l.qty)] 9)) := bu.trans ((Below.refl _ _).alloc bu.size _)
  obtain ⟨⟨e0, e1, e2, e3, e4⟩, _⟩ := HC.out.2.2 _ bN
  by_cases hm : l.note.toList.isEmpty = true
  · have hm' : (l.note.toList == []) = true := by simpa using hm
    have HN : Hid (RowS (wu.alloc (.cells #[.string (decS l.no), .string (decS l.qty)] 9)) (.slice (some ⟨wu.heap.size, 0, none⟩) 2 2) [decS l.no, decS l.qty] ∧ Below W0.heap.size W0 (wu.alloc (.cells #[.string (decS l.no), .string (decS l.qty)] 9))) := ⟨row2s _ _ _ (by omega) (by omega), bN⟩
    have ho : optT l.note = [] := by unfold optT; rw [if_pos hm]
    have HE : Hid (fw = [decS l.no, decS l.qty]) := by show _ = _; rw [HF.out, ho, List.append_nil]
    clear bN hm ho
    go_wp2_with fail
    refine (l03Seg_any ⟨#[76, 73, 78]⟩ _ ([decS l.no, decS l.qty]) _ HN.out.1 (by simp)).mono ?_
    rintro e w9 ⟨u9, vals9, rfl, hO9, hb9⟩
    obtain ⟨A9, N9, C9, hu9⟩ := row_slice hO9.row
    subst hu9
    have b9 : Below W0.heap.size W0 w9 := HN.out.2.trans (hb9.mono HN.out.2.size)
    obtain ⟨_, r0, r1, rz⟩ := HC.out.2.2 w9 b9
    have z9 := HN.out.2.size
    have HO : Hid (OwnV (w.heap.size + 2) w9 (.slice A9 N9 C9) vals9 (([decS l.no, decS l.qty]).map fun t => [t]) ∧ Below w.heap.size w w9) := ⟨hO9.mono (by have := HC.out.1.2; omega), HC.out.1.1.trans (b9.mono HC.out.1.1.size)⟩
    clear hO9 hb9 b9 z9
    go_wp2
    exact bodyPost_ret (v := .agg #[.string ⟨#[76, 73, 78]⟩, .slice A9 N9 C9]) (by simp [results, Tryz.results101, go_sem, r0, r1]) rfl ⟨_, vals9, rfl, by rw [HE.out]; exact ((HO.out.1.set (by omega) _ _).set (by omega) _ _).mono (by omega), (HO.out.2.setCell (show w.heap.size ≤ w.heap.size + 1 by omega) _).setCell (show w.heap.size ≤ w.heap.size + 1 by omega) _⟩
  · have hm' : (l.note.toList == []) = false := by simpa using hm
    have ho : optT l.note = [l.note] := by unfold optT; rw [if_neg hm]
    have HE : Hid (fw = [decS l.no, decS l.qty] ++ [l.note]) := by show _ = _; rw [HF.out, ho]
    have HB : Hid (Below W0.heap.size W0 (wu.alloc (.cells #[.string (decS l.no), .string (decS l.qty)] 9))) := bN
    obtain ⟨w3, hw3⟩ : ∃ w3, (wu.alloc (.cells #[.string (decS l.no), .string (decS l.qty)] 9)) = w3 := ⟨_, rfl⟩
    have hb3 : Below (wu.alloc (.cells #[.string (decS l.no), .string (decS l.qty)] 9)).heap.size (wu.alloc (.cells #[.string (decS l.no), .string (decS l.qty)] 9)) w3 := by rw [hw3]; exact Below.refl _ _
    clear bN hm ho
    have bw : Below W0.heap.size W0 w3 := HB.out.trans (hb3.mono HB.out.size)
    obtain ⟨W5, hW5⟩ : ∃ W5, w3.alloc (.cells #[.string (l.note)] 9) = W5 := ⟨_, rfl⟩
    have b5 : Below w3.heap.size w3 W5 := by rw [← hW5]; exact (Below.refl _ _).alloc (Nat.le_refl _) _
    have y5 : W5.cell? ⟨w3.heap.size, 0, none⟩ = some (.string (l.note)) := by rw [← hW5]; simp [go_sem]
    have hrow : W5.ownsRow W0.heap.size 9 1 (.slice (some ⟨wu.heap.size, 0, none⟩) 2 2) ([decS l.no, decS l.qty] : List ByteArray).length (([decS l.no, decS l.qty] : List ByteArray).map Value.string) := own_below (own_below (ownW wu bu.size [decS l.no, decS l.qty] (by simp)) hb3) b5
    have bw5 : Below W0.heap.size W0 W5 := bw.trans (b5.mono bw.size)
    have hbase : W0.heap.size ≤ W5.heap.size := bw5.size
    have HW5 : Hid (Below W0.heap.size W0 W5) := bw5
    have hl1 : ([decS l.no, decS l.qty] : List ByteArray).length + 1 ≤ 2000000 := by simp
    clear b5 bw5 bw hb3
    try rw [hw3]
    rw [hw3] at e0 e1 e2 e3 e4
    clear hw3
    go_wp2_with (at_builtin; (try rw [hW5]); refine wpList_appTx (base := W0.heap.size) (c := w3.heap.size) (C := 1) (lv := .slice (some ⟨wu.heap.size, 0, none⟩) 2 2) (ss := [decS l.no, decS l.qty]) (t := l.note) rfl _ _ rfl rfl rfl hrow y5 hl1 hbase ?_; rintro v6 w6 hown6 hgrow6 ⟨A6, C6, rfl⟩; have HN : Hid (RowS w6 (.slice A6 3 C6) ([decS l.no, decS l.qty] ++ [l.note]) ∧ Below W0.heap.size W0 w6) := ⟨own_rowT hown6 rfl (by simp) (by intro t ht; simp only [List.cons_append, List.nil_append, List.mem_cons, List.not_mem_nil, or_false] at ht; rcases ht with rfl | rfl | rfl <;> omega), appTx_below HW5.out hrow hgrow6 hbase⟩; clear hown6 hgrow6 hrow; try dsimp only)
    refine (l03Seg_any ⟨#[76, 73, 78]⟩ _ ([decS l.no, decS l.qty] ++ [l.note]) _ HN.out.1 (by simp)).mono ?_
    rintro e w9 ⟨u9, vals9, rfl, hO9, hb9⟩
    obtain ⟨A9, N9, C9, hu9⟩ := row_slice hO9.row
    subst hu9
    have b9 : Below W0.heap.size W0 w9 := HN.out.2.trans (hb9.mono HN.out.2.size)
    obtain ⟨_, r0, r1, rz⟩ := HC.out.2.2 w9 b9
    have z9 := HN.out.2.size
    have HO : Hid (OwnV (w.heap.size + 2) w9 (.slice A9 N9 C9) vals9 (([decS l.no, decS l.qty] ++ [l.note]).map fun t => [t]) ∧ Below w.heap.size w w9) := ⟨hO9.mono (by have := HC.out.1.2; omega), HC.out.1.1.trans (b9.mono HC.out.1.1.size)⟩
    clear hO9 hb9 b9 z9
    go_wp2
    exact bodyPost_ret (v := .agg #[.string ⟨#[76, 73, 78]⟩, .slice A9 N9 C9]) (by simp [results, Tryz.results101, go_sem, r0, r1]) rfl ⟨_, vals9, rfl, by rw [HE.out]; exact ((HO.out.1.set (by omega) _ _).set (by omega) _ _).mono (by omega), (HO.out.2.setCell (show w.heap.size ≤ w.heap.size + 1 by omega) _).setCell (show w.heap.size ≤ w.heap.size + 1 by omega) _⟩
set_option maxRecDepth 20000 in
set_option maxHeartbeats 16000000 in
theorem l05Line_any (k : Int) (l : Ln) (w : World) (hI : LnI l) (hz : l.item.size ≤ 1048576 ∧ l.note.size ≤ 1048576) :
    Calls Tryz.prog 101 #[.int .i64 k, lnV l] w fun e w' => ∃ u vals, e = .returned (.agg #[.string (sTag k), u]) ∧ OwnV w.heap.size w' u vals ((wordsS k l).map fun t => [t]) ∧ Below w.heap.size w w' := by
  by_cases h1 : k = 1
  · subst h1; exact sline_1 l w hI hz
  by_cases h5 : k = 5
  · subst h5; exact sline_5 l w hI hz
  by_cases h6 : k = 6
  · subst h6; exact sline_6 l w hI hz
  by_cases h7 : k = 7
  · subst h7; exact sline_7 l w hI hz
  have hw : wordsS k l = [decS l.no, decS l.qty] ++ optT l.note := by
    unfold wordsS wordsI
    rw [if_neg h1, if_neg h5, if_neg h6, if_neg h7]
    by_cases h3 : k = 3
    · rw [if_pos h3]
    · rw [if_neg h3, if_neg h3]
  have ht : sTag k = ⟨#[76, 73, 78]⟩ := by
    unfold sTag
    rw [if_neg h7, if_neg (by omega)]
    rfl
  rw [hw, ht]
  exact sline_e k (by simpa using h1) (by simpa using h5) (by simpa using h6) (by simpa using h7) l w hI hz
end Go.Proofs.YtkaolpnbddjdpaaGreatDoor
