/- Texts of ours put together: PiK, PiL, PiC, ShCnt. -/
import Derived.Test.YtcdebinldmblkaaGreatDoorG13
import Derived.Test.YtcdebinldmblkaaGreatDoorG15
import Derived.Test.YtcdebinldmblkaaGreatDoorG11
import Derived.Shelf.Strings.Count
import Derived.Test.YtcdebinldmblkaaGreatDoorRows
namespace Go.Proofs.YtcdebinldmblkaaGreatDoor
open Go.ChangeShapes Go.WideShapes Go.ChangeAt Go.RowKit
/-- A word, as far as there is one among the first k. -/
def wdA (ws : List ByteArray) (k i : Nat) : ByteArray := if i < k then (ws[i]?).getD eT else eT
def wd4 (ws : List ByteArray) (k : Nat) : Array Value := #[.string (wdA ws k 0), .string (wdA ws k 1), .string (wdA ws k 2), .string (wdA ws k 3)]
/-- The first four words, missing ones empty. -/
def w4 (ws : List ByteArray) : Value := .agg #[.string ((ws[0]?).getD eT), .string ((ws[1]?).getD eT), .string ((ws[2]?).getD eT), .string ((ws[3]?).getD eT)]
theorem wdA_all {ws : List ByteArray} (i : Nat) : wdA ws ws.length i = (ws[i]?).getD eT := by
  unfold wdA
  split
  · rfl
  · rename_i h
    rw [List.getElem?_eq_none (by omega)]
    rfl
theorem wdA_next {ws : List ByteArray} {k i : Nat} (h : i ≠ k) : wdA ws (k + 1) i = wdA ws k i := by
  unfold wdA
  by_cases q : i < k
  · rw [if_pos q, if_pos (by omega)]
  · rw [if_neg q, if_neg (by omega)]
theorem wdA_at {ws : List ByteArray} {k : Nat} {t : ByteArray} (h : ws[k]? = some t) : wdA ws (k + 1) k = t := by
  unfold wdA
  rw [if_pos (by omega), h]
  rfl
theorem wd4_set {ws : List ByteArray} {k : Nat} {t : ByteArray} (h : ws[k]? = some t) (hk : k < 4) : (wd4 ws k).setIfInBounds k (.string t) = wd4 ws (k + 1) := by
  unfold wd4
  match k, hk with
  | 0, _ => rw [wdA_at h, wdA_next (ws := ws) (k := 0) (i := 1) (by omega), wdA_next (ws := ws) (k := 0) (i := 2) (by omega), wdA_next (ws := ws) (k := 0) (i := 3) (by omega)]; rfl
  | 1, _ => rw [wdA_at h, wdA_next (ws := ws) (k := 1) (i := 0) (by omega), wdA_next (ws := ws) (k := 1) (i := 2) (by omega), wdA_next (ws := ws) (k := 1) (i := 3) (by omega)]; rfl
  | 2, _ => rw [wdA_at h, wdA_next (ws := ws) (k := 2) (i := 0) (by omega), wdA_next (ws := ws) (k := 2) (i := 1) (by omega), wdA_next (ws := ws) (k := 2) (i := 3) (by omega)]; rfl
  | 3, _ => rw [wdA_at h, wdA_next (ws := ws) (k := 3) (i := 0) (by omega), wdA_next (ws := ws) (k := 3) (i := 1) (by omega), wdA_next (ws := ws) (k := 3) (i := 2) (by omega)]; rfl
/-- The boxes of lineWords. -/
structure LW (w W : World) (O : Obj) (cs : Array Value) : Prop where
  seg : W.heap[w.heap.size]? = some O
  res : W.heap[w.heap.size + 1]? = some (.cells #[.string ⟨#[]⟩, .string ⟨#[]⟩, .string ⟨#[]⟩, .string ⟨#[]⟩] 111)
  box : W.heap[w.heap.size + 2]? = some (.cells cs 111)
  bel : Below w.heap.size w W
theorem LW.below {w W W' : World} {O : Obj} {cs : Array Value} (h : LW w W O cs) (hb : Below W.heap.size W W') : LW w W' O cs :=
  ⟨(hb.block _ (Array.getElem?_eq_some_iff.1 h.seg).1).trans h.seg, (hb.block _ (Array.getElem?_eq_some_iff.1 h.res).1).trans h.res, (hb.block _ (Array.getElem?_eq_some_iff.1 h.box).1).trans h.box, h.bel.trans (hb.mono h.bel.size)⟩
theorem LW.put {w W : World} {O : Obj} {cs cs' : Array Value} (h : LW w W O cs) (k : Nat) (x : Value) (hc : cs.setIfInBounds k x = cs') : LW w (W.setCell ⟨w.heap.size + 2, k, none⟩ x) O cs' := by
  have hne : ∀ j, j ≠ w.heap.size + 2 → (W.setCell ⟨w.heap.size + 2, k, none⟩ x).heap[j]? = W.heap[j]? := fun j hj => Below.heap_setCell W ⟨w.heap.size + 2, k, none⟩ x j (fun e => hj e)
  refine ⟨(hne _ (by omega)).trans h.seg, (hne _ (by omega)).trans h.res, ?_, h.bel.setCell (show w.heap.size ≤ w.heap.size + 2 by omega) _⟩
  rw [← hc]
  exact heap_setCell_same W (w.heap.size + 2) k _ _ x h.box
end Go.Proofs.YtcdebinldmblkaaGreatDoor
namespace Go.Proofs.YtcdebinldmblkaaGreatDoor
open Go.ChangeShapes Go.WideShapes Go.ChangeAt Go.RowKit
theorem sbox' {W : World} {B t : Nat} {a0 a1 : Value} (h : W.heap[B]? = some (.cells #[a0, a1] t)) : W.cell? ⟨B, 0, none⟩ = some a0 ∧ W.cell? ⟨B, 1, none⟩ = some a1 ∧ ∀ o, W.frozen? ⟨B, o, none⟩ = false := by
  exact ⟨by simp [World.cell?, h], by simp [World.cell?, h], fun o => by simp [World.frozen?, h]⟩
set_option maxRecDepth 20000 in
set_option maxHeartbeats 8000000 in
theorem lineWords_any (tag : ByteArray) (v : Value) (ws : List ByteArray) (w : World) (h : RowE w v (ws.map fun t => [t])) (hl : ws.length ≤ 4) (hz : ∀ t ∈ ws, t.size ≤ 1048576) :
    Calls Tryz.prog 74 #[.agg #[.string tag, v]] w fun e w' => e = .returned (w4 ws) ∧ Below w.heap.size w w' := by
  obtain ⟨A, C, hv⟩ := h.val
  rw [List.length_map] at hv
  subst hv
  obtain ⟨W0, hW0⟩ : ∃ W0, ((w.alloc (.cells #[.string tag, .slice A ws.length C] 46)).alloc (.cells #[.string ⟨#[]⟩, .string ⟨#[]⟩, .string ⟨#[]⟩, .string ⟨#[]⟩] 111)).alloc (.cells #[.string ⟨#[]⟩, .string ⟨#[]⟩, .string ⟨#[]⟩, .string ⟨#[]⟩] 111) = W0 := ⟨_, rfl⟩
  have hb0 : Below w.heap.size w W0 := by rw [← hW0]; exact (((Below.refl _ _).alloc (Nat.le_refl _) _).alloc (by simp) _).alloc (by simp; omega) _
  obtain ⟨x0, x1, x2⟩ := thr_new w (.cells #[.string tag, .slice A ws.length C] 46) (.cells #[.string ⟨#[]⟩, .string ⟨#[]⟩, .string ⟨#[]⟩, .string ⟨#[]⟩] 111) (.cells #[.string ⟨#[]⟩, .string ⟨#[]⟩, .string ⟨#[]⟩, .string ⟨#[]⟩] 111)
  rw [hW0] at x0 x1 x2
  obtain ⟨O, hO⟩ : ∃ O, O = Obj.cells #[.string tag, .slice A ws.length C] 46 := ⟨_, rfl⟩
  have HQ0 : Hid (LW w W0 O (wd4 ws 0)) := ⟨by rw [hO]; exact x0, x1, x2, hb0⟩
  have HR : Hid (RowE w (.slice A ws.length C) (ws.map fun t => [t]) ∧ ∀ t ∈ ws, t.size ≤ 1048576) := ⟨h, hz⟩
  obtain ⟨s0, s1, _⟩ := sbox' x0
  have hs3 : W0.heap.size = w.heap.size + 3 := by rw [← hW0]; simp
  go_enter Tryz.func74, Tryz.ntmps74
  go_upto_region 2 with fail
  try rw [hW0]
  clear hW0 x0 x1 x2 hb0 h hz hO
  go_wp2_with fail
  go_loopw [9] (fun i wr => ∃ k : Nat, i = .int .i64 (k : Int) ∧ k ≤ ws.length ∧ LW w wr O (wd4 ws k)) (fun i _ => ws.length - (intOf i).toNat)
  case atStart => exact ⟨0, rfl, by omega, HQ0.out⟩
  case round =>
    obtain ⟨k, rfl, hk, hQ⟩ := hrel
    by_cases hlt : k < ws.length
    · have hlt' : (k : Int) < (ws.length : Int) := by omega
      obtain ⟨b, o, cap', e, u, e1, hs, q0, hRS⟩ := (HR.out.1.below hQ.bel).at (k := k) (by rw [List.length_map]; exact hlt)
      rw [List.length_map] at e1
      simp only [Value.slice.injEq, true_and] at e1
      obtain ⟨rfl, rfl⟩ := e1
      obtain ⟨t, ht⟩ : ∃ t, ws[k]? = some t := ⟨_, List.getElem?_eq_getElem hlt⟩
      rw [List.getElem?_map, ht] at hs
      simp only [Option.map_some, Option.some.injEq] at hs
      subst hs
      obtain ⟨b2, o2, c2, t2, e2, hs2, q1, _⟩ := hRS.at (k := 0) (by simp)
      simp only [List.getElem?_cons_zero, Option.some.injEq] at hs2
      subst hs2
      subst e2
      have htz := HR.out.2 t (List.mem_of_getElem? ht)
      simp only [Nat.add_zero] at q1
      obtain ⟨We, hWe⟩ : ∃ We, wr.alloc (.cells #[.slice (some ⟨b2, o2, none⟩) 1 c2] 75) = We := ⟨_, rfl⟩
      have be : Below wr.heap.size wr We := by rw [← hWe]; exact (Below.refl _ _).alloc (Nat.le_refl _) _
      have f0 : We.cell? ⟨wr.heap.size, 0, none⟩ = some (.slice (some ⟨b2, o2, none⟩) 1 c2) := by rw [← hWe]; simp [go_sem]
      have q1' := (be.cell (cell_lt q1)).trans q1
      have HE : Hid (LW w We O (wd4 ws k) ∧ ws[k]? = some t) := ⟨hQ.below be, ht⟩
      clear hQ hRS ht be q1
      go_upto_region 5 with fail
      try rw [hWe]
      clear hWe q0
      go_wp2_with fail
      refine (clone_any t _ (by omega)).mono ?_
      rintro e w3 ⟨rfl, hb3⟩
      have HE3 : Hid (LW w w3 O (wd4 ws k)) := HE.out.1.below hb3
      have HP : Hid (LW w (w3.setCell ⟨w.heap.size + 2, k, none⟩ (.string t)) O (wd4 ws (k + 1))) := HE3.out.put k _ (wd4_set HE.out.2 (by omega))
      obtain ⟨g0, g1, g2, g3⟩ := bx4 HE3.out.box
      have gz := frz5 HE3.out.box
      have hk4 : (k : Int) < 4 := by omega
      have gk : ∃ x, w3.cell? ⟨w.heap.size + 2, k, none⟩ = some (.string x) := by
        match k, (show k < 4 by omega) with
        | 0, _ => exact ⟨_, g0⟩
        | 1, _ => exact ⟨_, g1⟩
        | 2, _ => exact ⟨_, g2⟩
        | 3, _ => exact ⟨_, g3⟩
      obtain ⟨xk, gk⟩ := gk
      clear hb3 f0 q1' g0 g1 g2 g3
      go_wp2
      go_roundw
      case rel => exact ⟨k + 1, by go_num, by omega, HP.out⟩
      case measure => simp [intOf]; omega
    · obtain rfl : k = ws.length := by omega
      obtain ⟨g0, g1, g2, g3⟩ := bx4 hQ.box
      obtain ⟨r0, r1, r2, r3⟩ := bx4 hQ.res
      have rz := frz5 hQ.res
      have HF : Hid (Below w.heap.size w wr) := hQ.bel
      simp only [wdA_all] at g0 g1 g2 g3
      clear hQ
      go_wp2
      exact bodyPost_ret (v := w4 ws) (by simp [results, Tryz.results74, go_sem, r0, r1, r2, r3, w4]) rfl ⟨rfl, (((HF.out.setCell (show w.heap.size ≤ w.heap.size + 1 by omega) _).setCell (show w.heap.size ≤ w.heap.size + 1 by omega) _).setCell (show w.heap.size ≤ w.heap.size + 1 by omega) _).setCell (show w.heap.size ≤ w.heap.size + 1 by omega) _⟩
end Go.Proofs.YtcdebinldmblkaaGreatDoor
namespace Go.Proofs.YtcdebinldmblkaaGreatDoor
open Go.ChangeShapes Go.WideShapes Go.ChangeAt Go.RowKit
/-- What is left without an empty last word. -/
def woM (ws : List ByteArray) : List ByteArray := if ((ws.getLast?).map fun t => t.toList.isEmpty) = some true then ws.dropLast else ws
theorem woM_full (k : Int) (l : Ln) (hI : LnI l) (hk : 1 ≤ k ∧ k ≤ 7) : woM (fullW k l) = wordsI k l := by
  have hd : ∀ n, i64B n → (decS n).toList.isEmpty = false := fun n hn => by
    have := (decS_long n hn.1 hn.2).1
    rw [ByteArray.toList_eq]
    cases hc : (decS n).data.toList with
    | nil =>
      have h2 : (decS n).data.toList.length = (decS n).size := rfl
      rw [hc] at h2
      simp at h2
      omega
    | cons c r => rfl
  have hu : ∀ n, i64B n → ∀ ws : List ByteArray, woM (ws ++ [unlN n]) = ws ++ optN n := fun n hn ws => by
    unfold woM optN
    rw [List.getLast?_concat]
    by_cases hz : n = 0
    · subst hz
      rw [if_pos (by show some (eT.toList.isEmpty) = some true; rw [eT_empty]), if_pos rfl, List.dropLast_concat, List.append_nil]
    · rw [unlN_n hz, if_neg (by show ¬ some ((decS n).toList.isEmpty) = some true; rw [hd n hn]; simp), if_neg hz]
  have ht : ∀ (x : ByteArray) (ws : List ByteArray), woM (ws ++ [x]) = ws ++ optT x := fun x ws => by
    unfold woM optT
    rw [List.getLast?_concat]
    cases hx : x.toList.isEmpty with
    | true => rw [if_pos (by show some (x.toList.isEmpty) = some true; rw [hx]), if_pos rfl, List.dropLast_concat, List.append_nil]
    | false => rw [if_neg (by show ¬ some (x.toList.isEmpty) = some true; rw [hx]; simp), if_neg (by simp)]
  have hw : ∀ (n : Int), i64B n → ∀ ws : List ByteArray, woM (ws ++ [decS n]) = ws ++ [decS n] := fun n hn ws => by
    unfold woM
    rw [List.getLast?_concat, if_neg (by show ¬ some ((decS n).toList.isEmpty) = some true; rw [hd n hn]; simp)]
  obtain rfl | rfl | rfl | rfl | rfl | rfl | rfl : k = 1 ∨ k = 2 ∨ k = 3 ∨ k = 4 ∨ k = 5 ∨ k = 6 ∨ k = 7 := by omega
  · exact hu l.money hI.2.2 [decS l.no, l.item, decS l.qty]
  · exact ht l.note [decS l.no, decS l.qty]
  · exact hw l.qty hI.2.1 [decS l.no]
  · exact ht l.note [decS l.no, decS l.qty]
  · exact hw l.qty hI.2.1 [l.item]
  · exact ht l.note [l.item, decS l.qty]
  · exact hu l.money hI.2.2 [decS l.no, decS l.qty]
theorem fullW_len (k : Int) (l : Ln) : 2 ≤ (fullW k l).length ∧ (fullW k l).length ≤ 4 := by
  unfold fullW
  repeat' split
  all_goals simp
theorem cells_row {W : World} {b : Nat} {ws : List ByteArray} (h : W.heap[b]? = some (.cells (ws.map Value.string).toArray 9)) : ∀ (i : Nat) (t : ByteArray), ws[i]? = some t → W.cell? ⟨b, i, none⟩ = some (.string t) := fun i t ht => by
  simp [World.cell?, h, ht]
theorem row_of_cells {W : World} {b c : Nat} {ws : List ByteArray} (h : ∀ (i : Nat) (t : ByteArray), ws[i]? = some t → W.cell? ⟨b, i, none⟩ = some (.string t)) (hl : ws.length ≤ 100) (hz : ∀ t ∈ ws, t.size ≤ 9223372036854775807) : RowS W (.slice (some ⟨b, 0, none⟩) ws.length c) ws :=
  ⟨⟨_, _, rfl, fun _ => ⟨b, 0, rfl, fun i t hi => by rw [Nat.zero_add]; exact h i t hi⟩⟩, by omega, fun i t hi => hz t (List.mem_of_getElem? hi)⟩
set_option maxHeartbeats 4000000 in
theorem without_any (ws : List ByteArray) (b : Nat) (w : World) (h : w.heap[b]? = some (.cells (ws.map Value.string).toArray 9)) (h1 : 1 ≤ ws.length) (h4 : ws.length ≤ 4) (hz : ∀ t ∈ ws, t.size ≤ 9223372036854775807) :
    Calls Tryz.prog 45 #[.slice (some ⟨b, 0, none⟩) ws.length ws.length] w fun e w' => (∃ u, e = .returned u ∧ RowS w' u (woM ws)) ∧ w' = w := by
  obtain ⟨n, hn⟩ : ∃ n, ws.length = n + 1 := ⟨ws.length - 1, by omega⟩
  obtain ⟨t, ht⟩ : ∃ t, ws[n]? = some t := ⟨_, List.getElem?_eq_getElem (by omega)⟩
  have hc := cells_row h n t ht
  have hlast : ws.getLast? = some t := by rw [List.getLast?_eq_getElem?, hn]; exact ht
  have HR : Hid (∀ (i : Nat) (t : ByteArray), ws[i]? = some t → w.cell? ⟨b, i, none⟩ = some (.string t)) := cells_row h
  have HW : Hid (woM ws = if t.toList.isEmpty = true then ws.take n else ws) := by
    show _ = _
    unfold woM
    rw [hlast]
    have : ws.dropLast = ws.take n := by rw [List.dropLast_eq_take, hn]; rfl
    rw [this]
    by_cases he : t.toList.isEmpty = true
    · rw [if_pos he, if_pos (by show some (t.toList.isEmpty) = some true; rw [he])]
    · rw [if_neg he, if_neg (by show ¬ some (t.toList.isEmpty) = some true; exact fun e => he (Option.some.inj e))]
  have HN : Hid (ws.length = n + 1) := hn
  have HZ : Hid (∀ t ∈ ws, t.size ≤ 9223372036854775807) := hz
  have hn3 : n ≤ 3 := by omega
  rw [hn]
  clear h hz hlast ht hn h1 h4
  have hsub : ((n : Int) + 1) - 1 = (n : Int) := by omega
  cases he : t.toList.isEmpty with
  | true =>
    go_enter Tryz.func45, Tryz.ntmps45
    go_wp2
    go_ret
    refine ⟨⟨_, rfl, ?_⟩, rfl⟩
    rw [HW.out, if_pos he]
    have hl : (ws.take n).length = n := by rw [List.length_take, HN.out]; omega
    have := row_of_cells (W := w) (b := b) (c := n + 1) (ws := ws.take n) (fun i x hi => HR.out i x (by rw [List.getElem?_take] at hi; split at hi; exact hi; cases hi)) (by omega) (fun x hx => HZ.out x (List.mem_of_mem_take hx))
    rw [hl] at this
    exact this
  | false =>
    go_enter Tryz.func45, Tryz.ntmps45
    go_wp2
    go_ret
    refine ⟨⟨_, rfl, ?_⟩, rfl⟩
    rw [HW.out, if_neg (by rw [he]; simp)]
    have := row_of_cells (W := w) (b := b) (c := n + 1) (ws := ws) HR.out (by have := HN.out; omega) HZ.out
    rw [HN.out] at this
    exact this
end Go.Proofs.YtcdebinldmblkaaGreatDoor
namespace Go.Proofs.YtcdebinldmblkaaGreatDoor
open Go.Shelf Go.RowKit Go.Lib
def lays138_ren : Go.Shelf.Ren := ⟨fun | 138 => 79 | 195 => 86 | 218 => 87 | 143 => 88 | 219 => 99 | 217 => 110 | 225 => 111 | 224 => 112 | 267 => 113 | 266 => 134 | 314 => 135 | n => n, fun | 9 => 9 | 3 => 3 | 4 => 4 | 5 => 5 | 0 => 0 | 46 => 149 | 146 => 166 | 51 => 146 | n => n, fun | 1 => 1 | n => n⟩
theorem lays138 : Go.Proofs.Lays.n138 Tryz.prog lays138_ren := {
  mixed := by kernel_rfl
  f138 := Tryz.func79.trans (congrArg some (by kernel_rfl))
  f143 := Tryz.func88.trans (congrArg some (by kernel_rfl))
  f195 := Tryz.func86.trans (congrArg some (by kernel_rfl))
  f217 := Tryz.func110.trans (congrArg some (by kernel_rfl))
  f218 := Tryz.func87.trans (congrArg some (by kernel_rfl))
  f219 := Tryz.func99.trans (congrArg some (by kernel_rfl))
  f224 := Tryz.func112.trans (congrArg some (by kernel_rfl))
  f225 := Tryz.func111.trans (congrArg some (by kernel_rfl))
  f266 := Tryz.func134.trans (congrArg some (by kernel_rfl))
  f267 := Tryz.func113.trans (congrArg some (by kernel_rfl))
  f314 := Tryz.func135.trans (congrArg some (by kernel_rfl))
  t0 := Tryz.underlying0
  a0 := Tryz.isAgg0
  z0 := Tryz.sizeOf0
  v0 := Tryz.zeroValue0
  t3 := Tryz.underlying3
  a3 := Tryz.isAgg3
  z3 := Tryz.sizeOf3
  v3 := Tryz.zeroValue3
  t4 := Tryz.underlying4
  a4 := Tryz.isAgg4
  z4 := Tryz.sizeOf4
  v4 := Tryz.zeroValue4
  t5 := Tryz.underlying5
  a5 := Tryz.isAgg5
  z5 := Tryz.sizeOf5
  v5 := Tryz.zeroValue5
  t9 := Tryz.underlying9
  a9 := Tryz.isAgg9
  z9 := Tryz.sizeOf9
  v9 := Tryz.zeroValue9
  t46 := Tryz.underlying149
  a46 := Tryz.isAgg149
  z46 := Tryz.sizeOf149
  v46 := Tryz.zeroValue149
  t51 := Tryz.underlying146
  a51 := Tryz.isAgg146
  z51 := Tryz.sizeOf146
  v51 := Tryz.zeroValue146
  t146 := Tryz.underlying166
  a146 := Tryz.isAgg166
  z146 := Tryz.sizeOf166
  v146 := Tryz.zeroValue166
  g1 := by kernel_rfl }
theorem count_any (s : ByteArray) (c : UInt8) (w : World) : Calls Tryz.prog 79 #[.string s, .string ⟨#[c]⟩] w fun e w' => e = .returned (.int .i64 (Lib.countByte s.data.toList c)) ∧ w' = w := Any.strings_Count_one lays138 s c w
end Go.Proofs.YtcdebinldmblkaaGreatDoor
