/- Texts of ours put together: PiC, ShCnt, PiE, IxDa, PiF, InfoSg, IxE, PiG. -/
import Derived.Test.YtkaolpnbddjdpaaGreatDoorG08
import Derived.Shelf.Strings.Count
import Derived.Test.YtkaolpnbddjdpaaGreatDoorRows
import Derived.Test.YtkaolpnbddjdpaaGreatDoorG04
import Derived.Test.YtkaolpnbddjdpaaGreatDoorG06
import Derived.Test.YtkaolpnbddjdpaaGreatDoorG07
import Derived.Test.YtkaolpnbddjdpaaGreatDoorG00
import Derived.Test.YtkaolpnbddjdpaaGreatDoorG02
import Derived.Deep.AppendLies
namespace Go.Proofs.YtkaolpnbddjdpaaGreatDoor
open Go.ChangeShapes Go.WideShapes Go.ChangeAt Go.RowKit
/-- What is left without an empty last word. -/
def woM (ws : List ByteArray) : List ByteArray := if ((ws.getLast?).map fun t => t.toList.isEmpty) = some true then ws.dropLast else ws
theorem woM_full (k : Int) (l : Ln) (hI : LnI l) (hk : 1 ≤ k ∧ k ≤ 7) : woM (fullW k l) = wordsI k l := by
  have hd : ∀ n, i64B n → (decS n).toList.isEmpty = false := fun n hn => by
    have := (decS_long n hn.1 hn.2).1
    rw [ByteArray.toList_eq]
    cases hc : (decS n).data.toList with
    | nil =>
      have h2 : (decS n).data.toList.length = (decS n).size := rfl
      rw [hc] at h2
      simp at h2
      omega
    | cons c r => rfl
  have hu : ∀ n, i64B n → ∀ ws : List ByteArray, woM (ws ++ [unlN n]) = ws ++ optN n := fun n hn ws => by
    unfold woM optN
    rw [List.getLast?_concat]
    by_cases hz : n = 0
    · subst hz
      rw [if_pos (by show some (eT.toList.isEmpty) = some true; rw [eT_empty]), if_pos rfl, List.dropLast_concat, List.append_nil]
    · rw [unlN_n hz, if_neg (by show ¬ some ((decS n).toList.isEmpty) = some true; rw [hd n hn]; simp), if_neg hz]
  have ht : ∀ (x : ByteArray) (ws : List ByteArray), woM (ws ++ [x]) = ws ++ optT x := fun x ws => by
    unfold woM optT
    rw [List.getLast?_concat]
    cases hx : x.toList.isEmpty with
    | true => rw [if_pos (by show some (x.toList.isEmpty) = some true; rw [hx]), if_pos rfl, List.dropLast_concat, List.append_nil]
    | false => rw [if_neg (by show ¬ some (x.toList.isEmpty) = some true; rw [hx]; simp), if_neg (by simp)]
  have hw : ∀ (n : Int), i64B n → ∀ ws : List ByteArray, woM (ws ++ [decS n]) = ws ++ [decS n] := fun n hn ws => by
    unfold woM
    rw [List.getLast?_concat, if_neg (by show ¬ some ((decS n).toList.isEmpty) = some true; rw [hd n hn]; simp)]
  obtain rfl | rfl | rfl | rfl | rfl | rfl | rfl : k = 1 ∨ k = 2 ∨ k = 3 ∨ k = 4 ∨ k = 5 ∨ k = 6 ∨ k = 7 := by omega
  · exact hu l.money hI.2.2 [decS l.no, l.item, decS l.qty]
  · exact ht l.note [decS l.no, decS l.qty]
  · exact hw l.qty hI.2.1 [decS l.no]
  · exact ht l.note [decS l.no, decS l.qty]
  · exact hw l.qty hI.2.1 [l.item]
  · exact ht l.note [l.item, decS l.qty]
  · exact hu l.money hI.2.2 [decS l.no, decS l.qty]
theorem fullW_len (k : Int) (l : Ln) : 2 ≤ (fullW k l).length ∧ (fullW k l).length ≤ 4 := by
  unfold fullW
  repeat' split
  all_goals simp
theorem cells_row {W : World} {b : Nat} {ws : List ByteArray} (h : W.heap[b]? = some (.cells (ws.map Value.string).toArray 9)) : ∀ (i : Nat) (t : ByteArray), ws[i]? = some t → W.cell? ⟨b, i, none⟩ = some (.string t) := fun i t ht => by
  simp [World.cell?, h, ht]
theorem row_of_cells {W : World} {b c : Nat} {ws : List ByteArray} (h : ∀ (i : Nat) (t : ByteArray), ws[i]? = some t → W.cell? ⟨b, i, none⟩ = some (.string t)) (hl : ws.length ≤ 100) (hz : ∀ t ∈ ws, t.size ≤ 9223372036854775807) : RowS W (.slice (some ⟨b, 0, none⟩) ws.length c) ws :=
  ⟨⟨_, _, rfl, fun _ => ⟨b, 0, rfl, fun i t hi => by rw [Nat.zero_add]; exact h i t hi⟩⟩, by omega, fun i t hi => hz t (List.mem_of_getElem? hi)⟩
set_option maxHeartbeats 4000000 in
theorem without_any (ws : List ByteArray) (b : Nat) (w : World) (h : w.heap[b]? = some (.cells (ws.map Value.string).toArray 9)) (h1 : 1 ≤ ws.length) (h4 : ws.length ≤ 4) (hz : ∀ t ∈ ws, t.size ≤ 9223372036854775807) :
    Calls Tryz.prog 130 #[.slice (some ⟨b, 0, none⟩) ws.length ws.length] w fun e w' => (∃ u, e = .returned u ∧ RowS w' u (woM ws)) ∧ w' = w := by
  obtain ⟨n, hn⟩ : ∃ n, ws.length = n + 1 := ⟨ws.length - 1, by omega⟩
  obtain ⟨t, ht⟩ : ∃ t, ws[n]? = some t := ⟨_, List.getElem?_eq_getElem (by omega)⟩
  have hc := cells_row h n t ht
  have hlast : ws.getLast? = some t := by rw [List.getLast?_eq_getElem?, hn]; exact ht
  have HR : Hid (∀ (i : Nat) (t : ByteArray), ws[i]? = some t → w.cell? ⟨b, i, none⟩ = some (.string t)) := cells_row h
  have HW : Hid (woM ws = if t.toList.isEmpty = true then ws.take n else ws) := by
    show _ = _
    unfold woM
    rw [hlast]
    have : ws.dropLast = ws.take n := by rw [List.dropLast_eq_take, hn]; rfl
    rw [this]
    by_cases he : t.toList.isEmpty = true
    · rw [if_pos he, if_pos (by show some (t.toList.isEmpty) = some true; rw [he])]
    · rw [if_neg he, if_neg (by show ¬ some (t.toList.isEmpty) = some true; exact fun e => he (Option.some.inj e))]
  have HN : Hid (ws.length = n + 1) := hn
  have HZ : Hid (∀ t ∈ ws, t.size ≤ 9223372036854775807) := hz
  have hn3 : n ≤ 3 := by omega
  rw [hn]
  clear h hz hlast ht hn h1 h4
  have hsub : ((n : Int) + 1) - 1 = (n : Int) := by omega
  cases he : t.toList.isEmpty with
  | true =>
    go_enter Tryz.func130, Tryz.ntmps130
    go_wp2
    go_ret
    refine ⟨⟨_, rfl, ?_⟩, rfl⟩
    rw [HW.out, if_pos he]
    have hl : (ws.take n).length = n := by rw [List.length_take, HN.out]; omega
    have := row_of_cells (W := w) (b := b) (c := n + 1) (ws := ws.take n) (fun i x hi => HR.out i x (by rw [List.getElem?_take] at hi; split at hi; exact hi; cases hi)) (by omega) (fun x hx => HZ.out x (List.mem_of_mem_take hx))
    rw [hl] at this
    exact this
  | false =>
    go_enter Tryz.func130, Tryz.ntmps130
    go_wp2
    go_ret
    refine ⟨⟨_, rfl, ?_⟩, rfl⟩
    rw [HW.out, if_neg (by rw [he]; simp)]
    have := row_of_cells (W := w) (b := b) (c := n + 1) (ws := ws) HR.out (by have := HN.out; omega) HZ.out
    rw [HN.out] at this
    exact this
end Go.Proofs.YtkaolpnbddjdpaaGreatDoor
namespace Go.Proofs.YtkaolpnbddjdpaaGreatDoor
open Go.Shelf Go.RowKit Go.Lib
def lays138_ren : Go.Shelf.Ren := ⟨fun | 138 => 182 | 195 => 193 | 218 => 194 | 143 => 195 | 219 => 205 | 217 => 214 | 225 => 215 | 224 => 216 | 267 => 217 | 266 => 235 | 314 => 236 | n => n, fun | 9 => 9 | 3 => 3 | 4 => 4 | 5 => 5 | 0 => 0 | 46 => 86 | 146 => 270 | 51 => 238 | n => n, fun | 1 => 2 | n => n⟩
theorem lays138 : Go.Proofs.Lays.n138 Tryz.prog lays138_ren := {
  mixed := by kernel_rfl
  f138 := Tryz.func182.trans (congrArg some (by kernel_rfl))
  f143 := Tryz.func195.trans (congrArg some (by kernel_rfl))
  f195 := Tryz.func193.trans (congrArg some (by kernel_rfl))
  f217 := Tryz.func214.trans (congrArg some (by kernel_rfl))
  f218 := Tryz.func194.trans (congrArg some (by kernel_rfl))
  f219 := Tryz.func205.trans (congrArg some (by kernel_rfl))
  f224 := Tryz.func216.trans (congrArg some (by kernel_rfl))
  f225 := Tryz.func215.trans (congrArg some (by kernel_rfl))
  f266 := Tryz.func235.trans (congrArg some (by kernel_rfl))
  f267 := Tryz.func217.trans (congrArg some (by kernel_rfl))
  f314 := Tryz.func236.trans (congrArg some (by kernel_rfl))
  t0 := Tryz.underlying0
  a0 := Tryz.isAgg0
  z0 := Tryz.sizeOf0
  v0 := Tryz.zeroValue0
  t3 := Tryz.underlying3
  a3 := Tryz.isAgg3
  z3 := Tryz.sizeOf3
  v3 := Tryz.zeroValue3
  t4 := Tryz.underlying4
  a4 := Tryz.isAgg4
  z4 := Tryz.sizeOf4
  v4 := Tryz.zeroValue4
  t5 := Tryz.underlying5
  a5 := Tryz.isAgg5
  z5 := Tryz.sizeOf5
  v5 := Tryz.zeroValue5
  t9 := Tryz.underlying9
  a9 := Tryz.isAgg9
  z9 := Tryz.sizeOf9
  v9 := Tryz.zeroValue9
  t46 := Tryz.underlying86
  a46 := Tryz.isAgg86
  z46 := Tryz.sizeOf86
  v46 := Tryz.zeroValue86
  t51 := Tryz.underlying238
  a51 := Tryz.isAgg238
  z51 := Tryz.sizeOf238
  v51 := Tryz.zeroValue238
  t146 := Tryz.underlying270
  a146 := Tryz.isAgg270
  z146 := Tryz.sizeOf270
  v146 := Tryz.zeroValue270
  g1 := by kernel_rfl }
theorem count_any (s : ByteArray) (c : UInt8) (w : World) : Calls Tryz.prog 182 #[.string s, .string ⟨#[c]⟩] w fun e w' => e = .returned (.int .i64 (Lib.countByte s.data.toList c)) ∧ w' = w := Any.strings_Count_one lays138 s c w
end Go.Proofs.YtkaolpnbddjdpaaGreatDoor
namespace Go.Proofs.YtkaolpnbddjdpaaGreatDoor
open Go.ChangeShapes Go.WideShapes Go.ChangeAt Go.RowKit
set_option maxRecDepth 100000 in
set_option maxHeartbeats 4000000 in
theorem hasOther_any (k : Int) (w : World) (hk : 1 ≤ k ∧ k ≤ 7) (hT : TablesAt w) : Calls Tryz.prog 162 #[.int .i64 k] w fun e w' => e = .returned (.bool (hasO k)) ∧ w' = w := by
  obtain rfl | rfl | rfl | rfl | rfl | rfl | rfl : k = 1 ∨ k = 2 ∨ k = 3 ∨ k = 4 ∨ k = 5 ∨ k = 6 ∨ k = 7 := by omega
  · obtain ⟨_, b, off, cap, c1, hc1, hc2, hb, hR⟩ := hT 1 (by omega) (by omega)
    obtain ⟨_, _, _, r3⟩ := hR 0 _ rfl
    have c1' : w.cell? ⟨0, 3, none⟩ = some (.slice (some ⟨b, off, none⟩) 3 cap) := c1
    have r3' : w.cell? ⟨b, off + 3, none⟩ = some (.string (bs [114, 100])) := r3
    clear c1 r3 hR hT
    have hn : Lib.countByte (bs [114, 100]).data.toList 114 = 1 := by decide
    go_enter Tryz.func162, Tryz.ntmps162
    go_wp2_with (first | (go_at_call 182; refine (count_any _ _ _).mono ?_; rintro e w' ⟨rfl, rfl⟩; rw [hn]; try dsimp only))
    go_ret
    exact ⟨rfl, rfl⟩
  · obtain ⟨_, b, off, cap, c1, hc1, hc2, hb, hR⟩ := hT 2 (by omega) (by omega)
    obtain ⟨_, _, _, r3⟩ := hR 0 _ rfl
    have c1' : w.cell? ⟨0, 5, none⟩ = some (.slice (some ⟨b, off, none⟩) 2 cap) := c1
    have r3' : w.cell? ⟨b, off + 3, none⟩ = some (.string (bs [114, 114, 100])) := r3
    clear c1 r3 hR hT
    have hn : Lib.countByte (bs [114, 114, 100]).data.toList 114 = 2 := by decide
    go_enter Tryz.func162, Tryz.ntmps162
    go_wp2_with (first | (go_at_call 182; refine (count_any _ _ _).mono ?_; rintro e w' ⟨rfl, rfl⟩; rw [hn]; try dsimp only))
    go_ret
    exact ⟨rfl, rfl⟩
  · obtain ⟨_, b, off, cap, c1, hc1, hc2, hb, hR⟩ := hT 3 (by omega) (by omega)
    obtain ⟨_, _, _, r3⟩ := hR 0 _ rfl
    have c1' : w.cell? ⟨0, 7, none⟩ = some (.slice (some ⟨b, off, none⟩) 3 cap) := c1
    have r3' : w.cell? ⟨b, off + 3, none⟩ = some (.string (bs [114, 114, 100])) := r3
    clear c1 r3 hR hT
    have hn : Lib.countByte (bs [114, 114, 100]).data.toList 114 = 2 := by decide
    go_enter Tryz.func162, Tryz.ntmps162
    go_wp2_with (first | (go_at_call 182; refine (count_any _ _ _).mono ?_; rintro e w' ⟨rfl, rfl⟩; rw [hn]; try dsimp only))
    go_ret
    exact ⟨rfl, rfl⟩
  · obtain ⟨_, b, off, cap, c1, hc1, hc2, hb, hR⟩ := hT 4 (by omega) (by omega)
    obtain ⟨_, _, _, r3⟩ := hR 0 _ rfl
    have c1' : w.cell? ⟨0, 9, none⟩ = some (.slice (some ⟨b, off, none⟩) 2 cap) := c1
    have r3' : w.cell? ⟨b, off + 3, none⟩ = some (.string (bs [114, 114, 100])) := r3
    clear c1 r3 hR hT
    have hn : Lib.countByte (bs [114, 114, 100]).data.toList 114 = 2 := by decide
    go_enter Tryz.func162, Tryz.ntmps162
    go_wp2_with (first | (go_at_call 182; refine (count_any _ _ _).mono ?_; rintro e w' ⟨rfl, rfl⟩; rw [hn]; try dsimp only))
    go_ret
    exact ⟨rfl, rfl⟩
  · obtain ⟨_, b, off, cap, c1, hc1, hc2, hb, hR⟩ := hT 5 (by omega) (by omega)
    obtain ⟨_, _, _, r3⟩ := hR 0 _ rfl
    have c1' : w.cell? ⟨0, 11, none⟩ = some (.slice (some ⟨b, off, none⟩) 2 cap) := c1
    have r3' : w.cell? ⟨b, off + 3, none⟩ = some (.string (bs [114, 100])) := r3
    clear c1 r3 hR hT
    have hn : Lib.countByte (bs [114, 100]).data.toList 114 = 1 := by decide
    go_enter Tryz.func162, Tryz.ntmps162
    go_wp2_with (first | (go_at_call 182; refine (count_any _ _ _).mono ?_; rintro e w' ⟨rfl, rfl⟩; rw [hn]; try dsimp only))
    go_ret
    exact ⟨rfl, rfl⟩
  · obtain ⟨_, b, off, cap, c1, hc1, hc2, hb, hR⟩ := hT 6 (by omega) (by omega)
    obtain ⟨_, _, _, r3⟩ := hR 0 _ rfl
    have c1' : w.cell? ⟨0, 13, none⟩ = some (.slice (some ⟨b, off, none⟩) 2 cap) := c1
    have r3' : w.cell? ⟨b, off + 3, none⟩ = some (.string (bs [114, 100])) := r3
    clear c1 r3 hR hT
    have hn : Lib.countByte (bs [114, 100]).data.toList 114 = 1 := by decide
    go_enter Tryz.func162, Tryz.ntmps162
    go_wp2_with (first | (go_at_call 182; refine (count_any _ _ _).mono ?_; rintro e w' ⟨rfl, rfl⟩; rw [hn]; try dsimp only))
    go_ret
    exact ⟨rfl, rfl⟩
  · obtain ⟨_, b, off, cap, c1, hc1, hc2, hb, hR⟩ := hT 7 (by omega) (by omega)
    obtain ⟨_, _, _, r3⟩ := hR 0 _ rfl
    have c1' : w.cell? ⟨0, 15, none⟩ = some (.slice (some ⟨b, off, none⟩) 2 cap) := c1
    have r3' : w.cell? ⟨b, off + 3, none⟩ = some (.string (bs [114, 100])) := r3
    clear c1 r3 hR hT
    have hn : Lib.countByte (bs [114, 100]).data.toList 114 = 1 := by decide
    go_enter Tryz.func162, Tryz.ntmps162
    go_wp2_with (first | (go_at_call 182; refine (count_any _ _ _).mono ?_; rintro e w' ⟨rfl, rfl⟩; rw [hn]; try dsimp only))
    go_ret
    exact ⟨rfl, rfl⟩
set_option maxRecDepth 100000 in
set_option maxHeartbeats 4000000 in
theorem lineTag_any (k : Int) (w : World) (hk : 1 ≤ k ∧ k ≤ 7) (hT : TablesAt w) : Calls Tryz.prog 129 #[.int .i64 k] w fun e w' => e = .returned (.string (sTag k)) ∧ w' = w := by
  obtain rfl | rfl | rfl | rfl | rfl | rfl | rfl : k = 1 ∨ k = 2 ∨ k = 3 ∨ k = 4 ∨ k = 5 ∨ k = 6 ∨ k = 7 := by omega
  · obtain ⟨_, b, off, cap, c1, hc1, hc2, hb, hR⟩ := hT 1 (by omega) (by omega)
    obtain ⟨r0, _, _, _⟩ := hR 2 _ rfl
    have c1' : w.cell? ⟨0, 3, none⟩ = some (.slice (some ⟨b, off, none⟩) 3 cap) := c1
    have r0' : w.cell? ⟨b, off + 8, none⟩ = some (.string (bs [76, 73, 78])) := r0
    have hc1' : 3 ≤ cap := hc1
    clear c1 r0 hR hT hc1
    go_enter Tryz.func129, Tryz.ntmps129
    go_wp2
    go_ret
    exact ⟨rfl, rfl⟩
  · obtain ⟨_, b, off, cap, c1, hc1, hc2, hb, hR⟩ := hT 2 (by omega) (by omega)
    obtain ⟨r0, _, _, _⟩ := hR 1 _ rfl
    have c1' : w.cell? ⟨0, 5, none⟩ = some (.slice (some ⟨b, off, none⟩) 2 cap) := c1
    have r0' : w.cell? ⟨b, off + 4, none⟩ = some (.string (bs [76, 73, 78])) := r0
    have hc1' : 2 ≤ cap := hc1
    clear c1 r0 hR hT hc1
    go_enter Tryz.func129, Tryz.ntmps129
    go_wp2
    go_ret
    exact ⟨rfl, rfl⟩
  · obtain ⟨_, b, off, cap, c1, hc1, hc2, hb, hR⟩ := hT 3 (by omega) (by omega)
    obtain ⟨r0, _, _, _⟩ := hR 2 _ rfl
    have c1' : w.cell? ⟨0, 7, none⟩ = some (.slice (some ⟨b, off, none⟩) 3 cap) := c1
    have r0' : w.cell? ⟨b, off + 8, none⟩ = some (.string (bs [76, 73, 78])) := r0
    have hc1' : 3 ≤ cap := hc1
    clear c1 r0 hR hT hc1
    go_enter Tryz.func129, Tryz.ntmps129
    go_wp2
    go_ret
    exact ⟨rfl, rfl⟩
  · obtain ⟨_, b, off, cap, c1, hc1, hc2, hb, hR⟩ := hT 4 (by omega) (by omega)
    obtain ⟨r0, _, _, _⟩ := hR 1 _ rfl
    have c1' : w.cell? ⟨0, 9, none⟩ = some (.slice (some ⟨b, off, none⟩) 2 cap) := c1
    have r0' : w.cell? ⟨b, off + 4, none⟩ = some (.string (bs [76, 73, 78])) := r0
    have hc1' : 2 ≤ cap := hc1
    clear c1 r0 hR hT hc1
    go_enter Tryz.func129, Tryz.ntmps129
    go_wp2
    go_ret
    exact ⟨rfl, rfl⟩
  · obtain ⟨_, b, off, cap, c1, hc1, hc2, hb, hR⟩ := hT 5 (by omega) (by omega)
    obtain ⟨r0, _, _, _⟩ := hR 1 _ rfl
    have c1' : w.cell? ⟨0, 11, none⟩ = some (.slice (some ⟨b, off, none⟩) 2 cap) := c1
    have r0' : w.cell? ⟨b, off + 4, none⟩ = some (.string (bs [73, 84, 77])) := r0
    have hc1' : 2 ≤ cap := hc1
    clear c1 r0 hR hT hc1
    go_enter Tryz.func129, Tryz.ntmps129
    go_wp2
    go_ret
    exact ⟨rfl, rfl⟩
  · obtain ⟨_, b, off, cap, c1, hc1, hc2, hb, hR⟩ := hT 6 (by omega) (by omega)
    obtain ⟨r0, _, _, _⟩ := hR 1 _ rfl
    have c1' : w.cell? ⟨0, 13, none⟩ = some (.slice (some ⟨b, off, none⟩) 2 cap) := c1
    have r0' : w.cell? ⟨b, off + 4, none⟩ = some (.string (bs [73, 84, 77])) := r0
    have hc1' : 2 ≤ cap := hc1
    clear c1 r0 hR hT hc1
    go_enter Tryz.func129, Tryz.ntmps129
    go_wp2
    go_ret
    exact ⟨rfl, rfl⟩
  · obtain ⟨_, b, off, cap, c1, hc1, hc2, hb, hR⟩ := hT 7 (by omega) (by omega)
    obtain ⟨r0, _, _, _⟩ := hR 1 _ rfl
    have c1' : w.cell? ⟨0, 15, none⟩ = some (.slice (some ⟨b, off, none⟩) 2 cap) := c1
    have r0' : w.cell? ⟨b, off + 4, none⟩ = some (.string (bs [65, 67, 75])) := r0
    have hc1' : 2 ≤ cap := hc1
    clear c1 r0 hR hT hc1
    go_enter Tryz.func129, Tryz.ntmps129
    go_wp2
    go_ret
    exact ⟨rfl, rfl⟩
end Go.Proofs.YtkaolpnbddjdpaaGreatDoor
namespace Go.Proofs.YtkaolpnbddjdpaaGreatDoor
open Go.ChangeShapes Go.WideShapes Go.ChangeAt Go.RowKit
theorem row2s (w : World) (t s : ByteArray) (hz : t.size ≤ 9223372036854775807) (hs : s.size ≤ 9223372036854775807) : RowS (w.alloc (.cells #[.string t, .string s] 9)) (.slice (some ⟨w.heap.size, 0, none⟩) 2 2) [t, s] := by
  refine ⟨⟨_, _, rfl, fun _ => ⟨w.heap.size, 0, rfl, fun i x hi => ?_⟩⟩, by simp, fun i x hi => ?_⟩
  · rcases i with _ | _ | i
    · simp at hi
      subst hi
      simp [go_sem]
    · simp at hi
      subst hi
      simp [go_sem]
    · simp at hi
  · rcases i with _ | _ | i
    · simp at hi
      subst hi
      exact hz
    · simp at hi
      subst hi
      exact hs
    · simp at hi
theorem row3s (w : World) (t s r : ByteArray) (hz : t.size ≤ 9223372036854775807) (hs : s.size ≤ 9223372036854775807) (hr : r.size ≤ 9223372036854775807) : RowS (w.alloc (.cells #[.string t, .string s, .string r] 9)) (.slice (some ⟨w.heap.size, 0, none⟩) 3 3) [t, s, r] := by
  refine ⟨⟨_, _, rfl, fun _ => ⟨w.heap.size, 0, rfl, fun i x hi => ?_⟩⟩, by simp, fun i x hi => ?_⟩
  · rcases i with _ | _ | _ | i
    · simp at hi
      subst hi
      simp [go_sem]
    · simp at hi
      subst hi
      simp [go_sem]
    · simp at hi
      subst hi
      simp [go_sem]
    · simp at hi
  · rcases i with _ | _ | _ | i
    · simp at hi
      subst hi
      exact hz
    · simp at hi
      subst hi
      exact hs
    · simp at hi
      subst hi
      exact hr
    · simp at hi
theorem nDig_le : ∀ (f u : Nat), u < 10 ^ (f + 1) → Lib.nDigits u ≤ f + 1
  | 0, u, h => by rw [Lib.nDigits_small (by simpa using h)]; omega
  | f + 1, u, h => by
    by_cases q : u < 10
    · rw [Lib.nDigits_small q]; omega
    · rw [Lib.nDigits_big q]
      have := nDig_le f (u / 10) (by rw [Nat.pow_succ] at h; exact Nat.div_lt_of_lt_mul (by omega))
      omega
theorem decS_size (n : Int) (h0 : 0 ≤ n) (h1 : n ≤ 1000000) : (decS n).size ≤ 8 := by
  have hs : (decS n).size = (Lib.itoa n).length := by
    show (decS n).data.size = _
    simp [decS]
  rw [hs]
  unfold Lib.itoa
  rw [if_neg (by omega), Lib.decDigits_length]
  have := nDig_le 6 n.toNat (by omega)
  omega
end Go.Proofs.YtkaolpnbddjdpaaGreatDoor
namespace Go.Proofs.YtkaolpnbddjdpaaGreatDoor
open Go.ChangeShapes Go.WideShapes Go.ChangeAt Go.RowKit
/-- What the variables hold that papers are told and read by. -/
structure VarsAt (w : World) : Prop where
  tab : TabOk w
  tabs : TablesAt w
  errs : ErrsAt w
theorem VarsAt.below {w w' : World} (h : VarsAt w) (hb : Below w.heap.size w w') : VarsAt w' := ⟨h.tab.below hb, h.tabs.below hb rfl, h.errs.below hb⟩
theorem pbox {W : World} {B t : Nat} {a0 a1 a2 a3 a4 a5 : Value} (h : W.heap[B]? = some (.cells #[a0, a1, a2, a3, a4, a5] t)) : W.cell? ⟨B, 0, none⟩ = some a0 ∧ W.cell? ⟨B, 1, none⟩ = some a1 ∧ W.cell? ⟨B, 2, none⟩ = some a2 ∧ W.cell? ⟨B, 3, none⟩ = some a3 ∧ W.cell? ⟨B, 4, none⟩ = some a4 ∧ W.cell? ⟨B, 5, none⟩ = some a5 := by
  simp [World.cell?, h]
theorem sbox {W : World} {B t : Nat} {a0 a1 : Value} (h : W.heap[B]? = some (.cells #[a0, a1] t)) : W.cell? ⟨B, 0, none⟩ = some a0 ∧ W.cell? ⟨B, 1, none⟩ = some a1 ∧ ∀ o, W.frozen? ⟨B, o, none⟩ = false := by
  exact ⟨by simp [World.cell?, h], by simp [World.cell?, h], fun o => by simp [World.frozen?, h]⟩
theorem two_old (w : World) (a b : Obj) : ((w.alloc a).alloc b).heap[w.heap.size]? = some a := by
  have e : ((w.alloc a).alloc b).heap = (w.heap.push a).push b := rfl
  rw [e, Array.getElem?_push, Array.size_push, if_neg (by omega), Array.getElem?_push, if_pos rfl]
theorem docW_yes {p : Pap} (h : hasO p.kind = true) : docW p = [p.ref, p.other, decS p.day] := by unfold docW; rw [if_pos h]
theorem docW_no {p : Pap} (h : hasO p.kind = false) : docW p = [p.ref, decS p.day] := by unfold docW; rw [if_neg (by rw [h]; simp)]
set_option maxRecDepth 20000 in
set_option maxHeartbeats 8000000 in
theorem docOf_any (p : Pap) (un ul : Value) (w : World) (hk : 1 ≤ p.kind ∧ p.kind ≤ 7) (hi : i64B p.day) (hz : p.ref.size ≤ 1048576 ∧ p.other.size ≤ 1048576) (hV : VarsAt w) :
    Calls Tryz.prog 127 #[.agg #[.int .i64 p.kind, .string p.ref, .string p.other, .int .i64 p.day, un, ul]] w fun e w' => ∃ u vals, e = .returned (.agg #[.string sDOC, u]) ∧ OwnV w.heap.size w' u vals ((docW p).map fun t => [t]) ∧ Below w.heap.size w w' := by
  obtain ⟨z1, z2⟩ := hz
  have z0 := (decS_long p.day hi.1 hi.2).2
  obtain ⟨W0, hW0⟩ : ∃ W0, (w.alloc (.cells #[.int .i64 p.kind, .string p.ref, .string p.other, .int .i64 p.day, un, ul] 66)).alloc (.cells #[.string ⟨#[]⟩, .slice none 0 0] 90) = W0 := ⟨_, rfl⟩
  have hb0 : Below w.heap.size w W0 := by rw [← hW0]; exact ((Below.refl _ _).alloc (Nat.le_refl _) _).alloc (by simp) _
  have x0 : W0.heap[w.heap.size]? = some (.cells #[.int .i64 p.kind, .string p.ref, .string p.other, .int .i64 p.day, un, ul] 66) := by rw [← hW0]; exact two_old _ _ _
  have x1 : W0.heap[w.heap.size + 1]? = some (.cells #[.string ⟨#[]⟩, .slice none 0 0] 90) := by rw [← hW0]; exact two_new _ _ _
  have s0 : W0.heap.size = w.heap.size + 2 := by rw [← hW0]; simp
  have HX : Hid (W0.heap.size = w.heap.size + 2 ∧ Below w.heap.size w W0 ∧ ∀ W, Below W0.heap.size W0 W → (W.cell? ⟨w.heap.size, 0, none⟩ = some (.int .i64 p.kind) ∧ W.cell? ⟨w.heap.size, 1, none⟩ = some (.string p.ref) ∧ W.cell? ⟨w.heap.size, 2, none⟩ = some (.string p.other) ∧ W.cell? ⟨w.heap.size, 3, none⟩ = some (.int .i64 p.day) ∧ W.cell? ⟨w.heap.size, 4, none⟩ = some (un) ∧ W.cell? ⟨w.heap.size, 5, none⟩ = some (ul)) ∧ W.cell? ⟨w.heap.size + 1, 0, none⟩ = some (.string ⟨#[]⟩) ∧ W.cell? ⟨w.heap.size + 1, 1, none⟩ = some (.slice none 0 0) ∧ ∀ o, W.frozen? ⟨w.heap.size + 1, o, none⟩ = false) := ⟨s0, hb0, fun W hW => ⟨pbox ((hW.block _ (by omega)).trans x0), sbox ((hW.block _ (by omega)).trans x1)⟩⟩
  have HV : Hid (VarsAt W0) := hV.below hb0
  obtain ⟨⟨c0, c1, c2, c3, c4, c5⟩, _⟩ := HX.out.2.2 W0 (Below.refl _ _)
  go_enter Tryz.func127, Tryz.ntmps127
  go_upto_region 1 with fail
  try rw [hW0]
  clear hW0 x0 x1 hb0 s0 hV
  go_wp2_with fail
  refine (digitsOf_any p.day _ hi HV.out.tab).mono ?_
  rintro e w1 ⟨rfl, hb1⟩
  have H1 : Hid (Below W0.heap.size W0 w1) := hb1
  clear hb1 c0 c1 c2 c3 c4 c5
  obtain ⟨⟨c0, c1, c2, c3, c4, c5⟩, _⟩ := HX.out.2.2 w1 H1.out
  obtain ⟨o, ho⟩ : ∃ o, o = hasO p.kind := ⟨_, rfl⟩
  have Q1 := hasOther_any p.kind w1 hk (HV.out.below H1.out).tabs
  rw [← ho] at Q1
  go_wp2_with fail
  refine Q1.mono ?_
  rintro e w1 ⟨rfl, rfl⟩
  clear Q1
  cases o with
  | true =>
    have HD : Hid (docW p = [p.ref, p.other, decS p.day]) := docW_yes ho.symm
    clear ho
    have sR := row3s w1 p.ref p.other (decS p.day) (by omega) (by omega) (by omega)
    have bS : Below w1.heap.size w1 (w1.alloc (.cells #[.string p.ref, .string p.other, .string (decS p.day)] 9)) := (Below.refl _ _).alloc (Nat.le_refl _) _
    have HS : Hid (RowS (w1.alloc (.cells #[.string p.ref, .string p.other, .string (decS p.day)] 9)) (.slice (some ⟨w1.heap.size, 0, none⟩) 3 3) [p.ref, p.other, decS p.day] ∧ Below W0.heap.size W0 (w1.alloc (.cells #[.string p.ref, .string p.other, .string (decS p.day)] 9))) := ⟨sR, H1.out.trans (bS.mono H1.out.size)⟩
    clear sR bS
    go_wp2_with fail
    refine (segmentBy_any ⟨#[68, 79, 67]⟩ _ [p.ref, p.other, decS p.day] _ HS.out.1 (by simp) (by intro t ht; simp only [List.mem_cons, List.not_mem_nil, or_false] at ht; rcases ht with rfl | rfl | rfl <;> omega)).mono ?_
    rintro e w3 ⟨u, vals, rfl, hOw, hb3⟩
    obtain ⟨A3, N3, C3, hu3⟩ := row_slice hOw.row
    subst hu3
    have b3 : Below W0.heap.size W0 w3 := HS.out.2.trans (hb3.mono HS.out.2.size)
    obtain ⟨_, r0, r1, rz⟩ := HX.out.2.2 w3 b3
    have z3 := HS.out.2.size
    have HO : Hid (OwnV (w.heap.size + 2) w3 (.slice A3 N3 C3) vals ([p.ref, p.other, decS p.day].map fun t => [t]) ∧ Below w.heap.size w w3) := ⟨hOw.mono (by rw [HX.out.1] at z3; omega), HX.out.2.1.trans (b3.mono HX.out.2.1.size)⟩
    clear hOw hb3 b3
    go_wp2
    exact bodyPost_ret (v := .agg #[.string ⟨#[68, 79, 67]⟩, .slice A3 N3 C3]) (by simp [results, Tryz.results127, go_sem, r0, r1]) rfl ⟨_, vals, rfl, by rw [HD.out]; exact ((HO.out.1.set (by omega) _ _).set (by omega) _ _).mono (by omega), (HO.out.2.setCell (show w.heap.size ≤ w.heap.size + 1 by omega) _).setCell (show w.heap.size ≤ w.heap.size + 1 by omega) _⟩
  | false =>
    have HD : Hid (docW p = [p.ref, decS p.day]) := docW_no ho.symm
    clear ho
    have sR := row2s w1 p.ref (decS p.day) (by omega) (by omega)
    have bS : Below w1.heap.size w1 (w1.alloc (.cells #[.string p.ref, .string (decS p.day)] 9)) := (Below.refl _ _).alloc (Nat.le_refl _) _
    have HS : Hid (RowS (w1.alloc (.cells #[.string p.ref, .string (decS p.day)] 9)) (.slice (some ⟨w1.heap.size, 0, none⟩) 2 2) [p.ref, decS p.day] ∧ Below W0.heap.size W0 (w1.alloc (.cells #[.string p.ref, .string (decS p.day)] 9))) := ⟨sR, H1.out.trans (bS.mono H1.out.size)⟩
    clear sR bS
    go_wp2_with fail
    refine (segmentBy_any ⟨#[68, 79, 67]⟩ _ [p.ref, decS p.day] _ HS.out.1 (by simp) (by intro t ht; simp only [List.mem_cons, List.not_mem_nil, or_false] at ht; rcases ht with rfl | rfl <;> omega)).mono ?_
    rintro e w3 ⟨u, vals, rfl, hOw, hb3⟩
    obtain ⟨A3, N3, C3, hu3⟩ := row_slice hOw.row
    subst hu3
    have b3 : Below W0.heap.size W0 w3 := HS.out.2.trans (hb3.mono HS.out.2.size)
    obtain ⟨_, r0, r1, rz⟩ := HX.out.2.2 w3 b3
    have z3 := HS.out.2.size
    have HO : Hid (OwnV (w.heap.size + 2) w3 (.slice A3 N3 C3) vals ([p.ref, decS p.day].map fun t => [t]) ∧ Below w.heap.size w w3) := ⟨hOw.mono (by rw [HX.out.1] at z3; omega), HX.out.2.1.trans (b3.mono HX.out.2.1.size)⟩
    clear hOw hb3 b3
    go_wp2
    exact bodyPost_ret (v := .agg #[.string ⟨#[68, 79, 67]⟩, .slice A3 N3 C3]) (by simp [results, Tryz.results127, go_sem, r0, r1]) rfl ⟨_, vals, rfl, by rw [HD.out]; exact ((HO.out.1.set (by omega) _ _).set (by omega) _ _).mono (by omega), (HO.out.2.setCell (show w.heap.size ≤ w.heap.size + 1 by omega) _).setCell (show w.heap.size ≤ w.heap.size + 1 by omega) _⟩
end Go.Proofs.YtkaolpnbddjdpaaGreatDoor
namespace Go.Proofs.YtkaolpnbddjdpaaGreatDoor
open Go.ChangeShapes Go.WideShapes Go.ChangeAt Go.RowKit
theorem infoSg : (Tryz.prog.info? 90).map (fun i => (i.zero, i.size, i.bytes)) = some (some (.agg #[.string ⟨#[]⟩, .slice none 0 0]), 2, 40) := by kernel_rfl
end Go.Proofs.YtkaolpnbddjdpaaGreatDoor
namespace Go.Proofs.YtkaolpnbddjdpaaGreatDoor
open Go.ChangeShapes Go.WideShapes Go.ChangeAt Go.RowKit
theorem cellsL_app {gs : List Seg} {ps : List (Value × List Value)} (h : ps.length = gs.length) (hs : List Seg) (qs : List (Value × List Value)) : cellsL (gs ++ hs) (ps ++ qs) = cellsL gs ps ++ cellsL hs qs := by
  unfold cellsL
  rw [List.zip_append h.symm, List.flatMap_append]
theorem cellsL_len {gs : List Seg} {ps : List (Value × List Value)} (h : ps.length = gs.length) : (cellsL gs ps).length = gs.length * 2 := by
  induction gs generalizing ps with
  | nil => simp [cellsL]
  | cons g gs ih =>
    cases ps with
    | nil => simp at h
    | cons p ps =>
      have e : cellsL (g :: gs) (p :: ps) = .string g.1 :: p.1 :: cellsL gs ps := by simp [cellsL]
      rw [e]
      simp at h
      simp [ih h]
      omega
theorem OwnL.one {n : Nat} {W : World} {tag : ByteArray} {u : Value} {vals : List Value} {es : List (List ByteArray)} (h : OwnV n W u vals es) (hn : n ≤ W.heap.size) :
    OwnL n (W.alloc (.cells #[.string tag, u] 90)) (.slice (some ⟨W.heap.size, 0, none⟩) 1 1) [(u, vals)] [(tag, es)] := by
  have hb : Below W.heap.size W (W.alloc (.cells #[.string tag, u] 90)) := (Below.refl _ _).alloc (Nat.le_refl _) _
  refine ⟨rfl, ⟨by simp [cellsL], .inr ⟨W.heap.size, 1, #[.string tag, u], rfl, hn, World.alloc_heap_new W _, Nat.le_refl _, by unfold maxLen; omega, rfl, by simp [cellsL]⟩⟩, fun i p g hp hg => ?_, fun i j p q hij hp hq => ?_⟩
  · rcases i with _ | i
    · simp at hp hg
      subst hp hg
      exact h.below hb
    · simp at hp
  · rcases j with _ | j
    · omega
    · simp at hq
/-- Two lists, one behind the other. -/
theorem OwnL.app {n₀ : Nat} {W W2 w4 : World} {lv lv' mv : Value} {ps qs : List (Value × List Value)} {gs hs : List Seg} (h : OwnL n₀ W lv ps gs) (hn : n₀ ≤ W.heap.size) (hb2 : Below W.heap.size W W2) (h2 : OwnL W.heap.size W2 mv qs hs)
    (hown : w4.ownsRow n₀ 90 2 lv' (gs.length + hs.length) (cellsL gs ps ++ cellsL hs qs)) (hg : W2.grownBy w4 lv.ownBlock) : OwnL n₀ w4 lv' (ps ++ qs) (gs ++ hs) := by
  have h' := h.below hb2
  have hl := h.len
  have hl2 := h2.len
  refine ⟨by simp [hl, hl2], by rw [cellsL_app hl, List.length_append]; exact hown, fun i p g hp hg' => ?_, fun i j p q hij hp hq => ?_⟩
  · rcases Nat.lt_or_ge i ps.length with k | k
    · rw [List.getElem?_append_left k] at hp
      rw [List.getElem?_append_left (by omega)] at hg'
      exact (h'.segs i p g hp hg').grow2 hg h'.row
    · rw [List.getElem?_append_right k] at hp
      rw [List.getElem?_append_right (by omega), ← hl] at hg'
      exact ((h2.segs _ p g hp hg').mono hn).grow2 hg h'.row
  · rcases Nat.lt_or_ge j ps.length with k | k
    · rw [List.getElem?_append_left k] at hq
      rw [List.getElem?_append_left (by omega)] at hp
      exact h.sep i j p q hij hp hq
    · rw [List.getElem?_append_right k] at hq
      rcases Nat.lt_or_ge i ps.length with k' | k'
      · rw [List.getElem?_append_left k'] at hp
        intro x hx y hy b hb hb'
        have hi : i < gs.length := by omega
        have q1 := (h.segs i p _ hp (List.getElem?_eq_getElem hi)).base x hx b hb
        have hjl := (List.getElem?_eq_some_iff.1 hq).1
        have q2 := (h2.segs _ q _ hq (List.getElem?_eq_getElem (show j - ps.length < hs.length by omega))).base y hy b hb'
        omega
      · rw [List.getElem?_append_right k'] at hp
        exact h2.sep (i - ps.length) (j - ps.length) p q (by omega) hp hq
theorem cells_of_own {n : Nat} {W : World} {mv : Value} {qs : List (Value × List Value)} {hs : List Seg} (h : OwnL n W mv qs hs) (hpos : 0 < hs.length) : ∃ ad c, mv = .slice (some ad) hs.length c ∧ ∀ j u, (cellsL hs qs)[j]? = some u → W.cell? (ad.add j) = some u := by
  rcases h.row.2 with ⟨_, h0⟩ | ⟨g, cap, cur, e, _⟩
  · omega
  · subst e
    exact ⟨⟨g, 0, none⟩, cap, rfl, h.row.cells (g := g) rfl⟩
theorem cellsL_oneCell {n : Nat} {W : World} {mv : Value} {qs : List (Value × List Value)} {hs : List Seg} (h : OwnL n W mv qs hs) : ∀ u ∈ cellsL hs qs, u.oneCell' = true := by
  intro u hu
  unfold cellsL at hu
  rw [List.mem_flatMap] at hu
  obtain ⟨⟨g, p⟩, hx, hu⟩ := hu
  simp only [List.mem_cons, List.not_mem_nil, or_false] at hu
  rcases hu with rfl | rfl
  · simp [Value.oneCell']
  · obtain ⟨i, hi⟩ := List.mem_iff_getElem?.1 hx
    rw [List.getElem?_zip_eq_some] at hi
    obtain ⟨A, N, C, e⟩ := row_slice (h.segs i p g hi.2 hi.1).row
    rw [e]
    simp [Value.oneCell']
/-- An append of segments, at the list of a plain region's operations. -/
theorem wpList_app {ops : Array Oper} {rest : List Oper} {o : Oper} {a : Act} {Q : Exit → Act → World → Prop} {n₀ : Nat} {W W2 : World} {lv mv : Value} {ps qs : List (Value × List Value)} {gs hs : List Seg} (hgd : o.guard = none) (s x : Operand)
    (ho : o.op = .call { callee := .builtin .append, args := #[s, x], argTypes := #[60, 60] })
    (hs' : a.eval s = lv) (hx : a.eval x = mv) (h : OwnL n₀ W lv ps gs) (hn : n₀ ≤ W.heap.size) (hb2 : Below W.heap.size W W2) (h2 : OwnL W.heap.size W2 mv qs hs) (hl : gs.length + hs.length ≤ 3000000) (hpos : 0 < hs.length)
    (k : ∀ A C w4, OwnL n₀ w4 (.slice A (gs.length + hs.length) C) (ps ++ qs) (gs ++ hs) → Below n₀ W2 w4 → wpList Tryz.prog ops Q rest (a.put o.dst (.slice A (gs.length + hs.length) C)) w4) : wpList Tryz.prog ops Q (o :: rest) a W2 := by
  obtain ⟨i0, hi, hz0, hz1, hz2⟩ := info_parts infoSg
  obtain ⟨ad, c, e, hc⟩ := cells_of_own h2 hpos
  have h' := h.below hb2
  refine wpList_append_own W2 hgd s x 60 ho n₀ 90 i0 (.agg #[.string ⟨#[]⟩, .slice none 0 0]) 2 40 Tryz.underlying60 hi hz0 hz1 hz2 rfl (by decide) lv gs.length (cellsL gs ps) hs' h'.row ad hs.length c (cellsL hs qs) (by rw [hx, e]) (cellsL_len h2.len) hc (cellsL_oneCell h2) (by unfold maxLen; omega) (by omega) (Nat.le_trans hn hb2.size) ?_
  intro v' w4 hown hgrow _
  obtain ⟨A, C, hv⟩ : ∃ A C, v' = .slice A (gs.length + hs.length) C := by
    rcases hown.2 with ⟨rfl, h0⟩ | ⟨g, cap, cur, rfl, _⟩
    · exact ⟨none, 0, by rw [h0]⟩
    · exact ⟨_, _, rfl⟩
  subst hv
  refine k A C w4 (h.app hn hb2 h2 hown hgrow) ⟨hgrow.os, hgrow.tape, hgrow.output, hgrow.size, fun q hq => hgrow.block q (by have := hb2.size; omega) (row2_ne h'.row hq).symm⟩
end Go.Proofs.YtkaolpnbddjdpaaGreatDoor
namespace Go.Proofs.YtkaolpnbddjdpaaGreatDoor
open Go.ChangeShapes Go.WideShapes Go.ChangeAt Go.RowKit
theorem own_rowT {W : World} {n₀ n : Nat} {v : Value} {ss : List ByteArray} (h : W.ownsRow n₀ 9 1 v n (ss.map Value.string)) (hn : n = ss.length) (hl : ss.length ≤ 1048576) (hz : ∀ t ∈ ss, t.size ≤ 1048576) : RowS W v ss := by
  subst hn
  refine ⟨?_, by omega, fun i t hi => Nat.le_trans (hz t (List.mem_of_getElem? hi)) (by omega)⟩
  rcases h.2 with ⟨rfl, h0⟩ | ⟨g, cap, cur, rfl, _⟩
  · exact ⟨none, 0, by rw [h0], fun hn => absurd (List.length_eq_zero_iff.1 h0) hn⟩
  · refine ⟨_, _, rfl, fun _ => ⟨g, 0, rfl, fun i t hi => ?_⟩⟩
    have h1 := h.cells (g := g) rfl i (.string t) (by simp [hi])
    have e : (⟨g, 0, none⟩ : Addr).add i = ⟨g, 0 + i, none⟩ := by unfold Addr.add; split <;> simp_all
    rwa [e] at h1
/-- Segments of at most ten elements of one part each. -/
def Bd1 (gs : List Seg) : Prop := ∀ g ∈ gs, g.1.size ≤ 1048576 ∧ g.2.length ≤ 10 ∧ ∀ e ∈ g.2, e.length = 1 ∧ ∀ t ∈ e, t.size ≤ 1048576
theorem OwnV.rowT {n₀ : Nat} {W : World} {v : Value} {vals : List Value} {es : List (List ByteArray)} (h : OwnV n₀ W v vals es) (hX : ∀ e ∈ es, e.length = 1 ∧ ∀ t ∈ e, t.size ≤ 1048576) (hl : es.length ≤ 1048576) : RowE W v es := by
  refine ⟨?_, by omega⟩
  rcases h.row.2 with ⟨rfl, h0⟩ | ⟨g, cap, cur, rfl, _⟩
  · exact ⟨none, 0, by rw [h0], fun hn => absurd (List.length_eq_zero_iff.1 h0) hn⟩
  · refine ⟨_, _, rfl, fun _ => ⟨g, 0, rfl, fun i e hi => ?_⟩⟩
    have hlt := (List.getElem?_eq_some_iff.1 hi).1
    have hv : vals[i]? = some (vals[i]'(by rw [h.len]; exact hlt)) := List.getElem?_eq_getElem _
    have h1 := h.row.cells (g := g) rfl i _ hv
    have e1 : (⟨g, 0, none⟩ : Addr).add i = ⟨g, 0 + i, none⟩ := by unfold Addr.add; split <;> simp_all
    rw [e1] at h1
    have hx := hX e (List.mem_of_getElem? hi)
    exact ⟨_, h1, own_rowT (h.parts i _ e hv hi).1 rfl (by omega) hx.2⟩
theorem OwnL.rowT {n₀ : Nat} {W : World} {v : Value} {ps : List (Value × List Value)} {gs : List Seg} (h : OwnL n₀ W v ps gs) (hX : Bd1 gs) (hl : gs.length ≤ 3000000) : RowG W v gs := by
  refine ⟨?_, by omega, fun i g hi => by have := (hX g (List.mem_of_getElem? hi)).1; omega⟩
  rcases h.row.2 with ⟨rfl, h0⟩ | ⟨g, cap, cur, rfl, _⟩
  · exact ⟨none, 0, by rw [h0], fun hn => absurd (List.length_eq_zero_iff.1 h0) hn⟩
  · refine ⟨_, _, rfl, fun _ => ⟨g, 0, rfl, fun i e hi => ?_⟩⟩
    have hlt := (List.getElem?_eq_some_iff.1 hi).1
    have hv : ps[i]? = some (ps[i]'(by rw [h.len]; exact hlt)) := List.getElem?_eq_getElem _
    obtain ⟨g1, g2⟩ := cellsL_get hi hv
    have h1 := h.row.cells (g := g) rfl _ _ g1
    have h2 := h.row.cells (g := g) rfl _ _ g2
    have e1 : ∀ i, (⟨g, 0, none⟩ : Addr).add i = ⟨g, 0 + i, none⟩ := fun i => by unfold Addr.add; split <;> simp_all
    rw [e1] at h1 h2
    have hx := hX e (List.mem_of_getElem? hi)
    exact ⟨h1, _, h2, (h.segs i _ e hv hi).rowT hx.2.2 (by omega)⟩
theorem fullW_bd {k : Int} {l : Ln} (hI : LnI l) (hz : l.item.size ≤ 1048576 ∧ l.note.size ≤ 1048576) : ∀ t ∈ fullW k l, t.size ≤ 9223372036854775807 := by
  have h0 := (decS_long l.no hI.1.1 hI.1.2).2
  have h1 := (decS_long l.qty hI.2.1.1 hI.2.1.2).2
  have h2 : (unlN l.money).size ≤ 20 := by
    unfold unlN
    split
    · exact Nat.zero_le _
    · exact (decS_long l.money hI.2.2.1 hI.2.2.2).2
  unfold fullW
  repeat' split
  all_goals
    intro t ht
    simp only [List.mem_cons, List.not_mem_nil, or_false] at ht
    rcases ht with rfl | rfl | rfl | rfl <;> omega
theorem wordsI_bd {k : Int} {l : Ln} (hI : LnI l) (hz : l.item.size ≤ 1048576 ∧ l.note.size ≤ 1048576) : (wordsI k l).length ≤ 4 ∧ ∀ t ∈ wordsI k l, t.size ≤ 1048576 := by
  have h0 := (decS_long l.no hI.1.1 hI.1.2).2
  have h1 := (decS_long l.qty hI.2.1.1 hI.2.1.2).2
  have h2 := (decS_long l.money hI.2.2.1 hI.2.2.2).2
  unfold wordsI optN optT
  repeat' split
  all_goals
    refine ⟨by simp, fun t ht => ?_⟩
    simp only [List.mem_append, List.mem_cons, List.not_mem_nil, or_false] at ht
    rcases ht with (rfl | rfl | rfl) | rfl | (rfl | rfl) | rfl | rfl | rfl <;> omega
end Go.Proofs.YtkaolpnbddjdpaaGreatDoor
