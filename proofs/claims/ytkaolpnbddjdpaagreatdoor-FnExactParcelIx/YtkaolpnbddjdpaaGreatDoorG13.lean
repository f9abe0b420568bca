/- Texts of ours put together: PiK, PiL, PiM, Flat0, AppTx, PiN, PpQ. -/
import Derived.Test.YtkaolpnbddjdpaaGreatDoorG12
import Derived.Test.YtkaolpnbddjdpaaGreatDoorG07
import Derived.Test.YtkaolpnbddjdpaaGreatDoorG09
import Derived.Deep.RegionLaw
import Derived.Test.YtkaolpnbddjdpaaGreatDoorG00
import Derived.Deep.OwnRows
import Derived.Deep.RegionHeld3
import Derived.Laws.AppendOwn
import Derived.Maps.AppendAt
import Derived.Test.YtkaolpnbddjdpaaGreatDoorG10
import Derived.Test.YtkaolpnbddjdpaaGreatDoorG06
namespace Go.Proofs.YtkaolpnbddjdpaaGreatDoor
open Go.ChangeShapes Go.WideShapes Go.ChangeAt Go.RowKit
/-- A word, as far as there is one among the first k. -/
def wdA (ws : List ByteArray) (k i : Nat) : ByteArray := if i < k then (ws[i]?).getD eT else eT
def wd4 (ws : List ByteArray) (k : Nat) : Array Value := #[.string (wdA ws k 0), .string (wdA ws k 1), .string (wdA ws k 2), .string (wdA ws k 3)]
/-- The first four words, missing ones empty. -/
def w4 (ws : List ByteArray) : Value := .agg #[.string ((ws[0]?).getD eT), .string ((ws[1]?).getD eT), .string ((ws[2]?).getD eT), .string ((ws[3]?).getD eT)]
theorem wdA_all {ws : List ByteArray} (i : Nat) : wdA ws ws.length i = (ws[i]?).getD eT := by
  unfold wdA
  split
  · rfl
  · rename_i h
    rw [List.getElem?_eq_none (by omega)]
    rfl
theorem wdA_next {ws : List ByteArray} {k i : Nat} (h : i ≠ k) : wdA ws (k + 1) i = wdA ws k i := by
  unfold wdA
  by_cases q : i < k
  · rw [if_pos q, if_pos (by omega)]
  · rw [if_neg q, if_neg (by omega)]
theorem wdA_at {ws : List ByteArray} {k : Nat} {t : ByteArray} (h : ws[k]? = some t) : wdA ws (k + 1) k = t := by
  unfold wdA
  rw [if_pos (by omega), h]
  rfl
theorem wd4_set {ws : List ByteArray} {k : Nat} {t : ByteArray} (h : ws[k]? = some t) (hk : k < 4) : (wd4 ws k).setIfInBounds k (.string t) = wd4 ws (k + 1) := by
  unfold wd4
  match k, hk with
  | 0, _ => rw [wdA_at h, wdA_next (ws := ws) (k := 0) (i := 1) (by omega), wdA_next (ws := ws) (k := 0) (i := 2) (by omega), wdA_next (ws := ws) (k := 0) (i := 3) (by omega)]; rfl
  | 1, _ => rw [wdA_at h, wdA_next (ws := ws) (k := 1) (i := 0) (by omega), wdA_next (ws := ws) (k := 1) (i := 2) (by omega), wdA_next (ws := ws) (k := 1) (i := 3) (by omega)]; rfl
  | 2, _ => rw [wdA_at h, wdA_next (ws := ws) (k := 2) (i := 0) (by omega), wdA_next (ws := ws) (k := 2) (i := 1) (by omega), wdA_next (ws := ws) (k := 2) (i := 3) (by omega)]; rfl
  | 3, _ => rw [wdA_at h, wdA_next (ws := ws) (k := 3) (i := 0) (by omega), wdA_next (ws := ws) (k := 3) (i := 1) (by omega), wdA_next (ws := ws) (k := 3) (i := 2) (by omega)]; rfl
/-- The boxes of lineWords. -/
structure LW (w W : World) (O : Obj) (cs : Array Value) : Prop where
  seg : W.heap[w.heap.size]? = some O
  res : W.heap[w.heap.size + 1]? = some (.cells #[.string ⟨#[]⟩, .string ⟨#[]⟩, .string ⟨#[]⟩, .string ⟨#[]⟩] 217)
  box : W.heap[w.heap.size + 2]? = some (.cells cs 217)
  bel : Below w.heap.size w W
theorem LW.below {w W W' : World} {O : Obj} {cs : Array Value} (h : LW w W O cs) (hb : Below W.heap.size W W') : LW w W' O cs :=
  ⟨(hb.block _ (Array.getElem?_eq_some_iff.1 h.seg).1).trans h.seg, (hb.block _ (Array.getElem?_eq_some_iff.1 h.res).1).trans h.res, (hb.block _ (Array.getElem?_eq_some_iff.1 h.box).1).trans h.box, h.bel.trans (hb.mono h.bel.size)⟩
theorem LW.put {w W : World} {O : Obj} {cs cs' : Array Value} (h : LW w W O cs) (k : Nat) (x : Value) (hc : cs.setIfInBounds k x = cs') : LW w (W.setCell ⟨w.heap.size + 2, k, none⟩ x) O cs' := by
  have hne : ∀ j, j ≠ w.heap.size + 2 → (W.setCell ⟨w.heap.size + 2, k, none⟩ x).heap[j]? = W.heap[j]? := fun j hj => Below.heap_setCell W ⟨w.heap.size + 2, k, none⟩ x j (fun e => hj e)
  refine ⟨(hne _ (by omega)).trans h.seg, (hne _ (by omega)).trans h.res, ?_, h.bel.setCell (show w.heap.size ≤ w.heap.size + 2 by omega) _⟩
  rw [← hc]
  exact heap_setCell_same W (w.heap.size + 2) k _ _ x h.box
end Go.Proofs.YtkaolpnbddjdpaaGreatDoor
namespace Go.Proofs.YtkaolpnbddjdpaaGreatDoor
open Go.ChangeShapes Go.WideShapes Go.ChangeAt Go.RowKit
theorem sbox' {W : World} {B t : Nat} {a0 a1 : Value} (h : W.heap[B]? = some (.cells #[a0, a1] t)) : W.cell? ⟨B, 0, none⟩ = some a0 ∧ W.cell? ⟨B, 1, none⟩ = some a1 ∧ ∀ o, W.frozen? ⟨B, o, none⟩ = false := by
  exact ⟨by simp [World.cell?, h], by simp [World.cell?, h], fun o => by simp [World.frozen?, h]⟩
set_option maxRecDepth 20000 in
set_option maxHeartbeats 8000000 in
theorem lineWords_any (tag : ByteArray) (v : Value) (ws : List ByteArray) (w : World) (h : RowE w v (ws.map fun t => [t])) (hl : ws.length ≤ 4) (hz : ∀ t ∈ ws, t.size ≤ 1048576) :
    Calls Tryz.prog 176 #[.agg #[.string tag, v]] w fun e w' => e = .returned (w4 ws) ∧ Below w.heap.size w w' := by
  obtain ⟨A, C, hv⟩ := h.val
  rw [List.length_map] at hv
  subst hv
  obtain ⟨W0, hW0⟩ : ∃ W0, ((w.alloc (.cells #[.string tag, .slice A ws.length C] 90)).alloc (.cells #[.string ⟨#[]⟩, .string ⟨#[]⟩, .string ⟨#[]⟩, .string ⟨#[]⟩] 217)).alloc (.cells #[.string ⟨#[]⟩, .string ⟨#[]⟩, .string ⟨#[]⟩, .string ⟨#[]⟩] 217) = W0 := ⟨_, rfl⟩
  have hb0 : Below w.heap.size w W0 := by rw [← hW0]; exact (((Below.refl _ _).alloc (Nat.le_refl _) _).alloc (by simp) _).alloc (by simp; omega) _
  obtain ⟨x0, x1, x2⟩ := thr_new w (.cells #[.string tag, .slice A ws.length C] 90) (.cells #[.string ⟨#[]⟩, .string ⟨#[]⟩, .string ⟨#[]⟩, .string ⟨#[]⟩] 217) (.cells #[.string ⟨#[]⟩, .string ⟨#[]⟩, .string ⟨#[]⟩, .string ⟨#[]⟩] 217)
  rw [hW0] at x0 x1 x2
  obtain ⟨O, hO⟩ : ∃ O, O = Obj.cells #[.string tag, .slice A ws.length C] 90 := ⟨_, rfl⟩
  have HQ0 : Hid (LW w W0 O (wd4 ws 0)) := ⟨by rw [hO]; exact x0, x1, x2, hb0⟩
  have HR : Hid (RowE w (.slice A ws.length C) (ws.map fun t => [t]) ∧ ∀ t ∈ ws, t.size ≤ 1048576) := ⟨h, hz⟩
  obtain ⟨s0, s1, _⟩ := sbox' x0
  have hs3 : W0.heap.size = w.heap.size + 3 := by rw [← hW0]; simp
  go_enter Tryz.func176, Tryz.ntmps176
  go_upto_region 2 with fail
  try rw [hW0]
  clear hW0 x0 x1 x2 hb0 h hz hO
  go_wp2_with fail
  go_loopw [9] (fun i wr => ∃ k : Nat, i = .int .i64 (k : Int) ∧ k ≤ ws.length ∧ LW w wr O (wd4 ws k)) (fun i _ => ws.length - (intOf i).toNat)
  case atStart => exact ⟨0, rfl, by omega, HQ0.out⟩
  case round =>
    obtain ⟨k, rfl, hk, hQ⟩ := hrel
    by_cases hlt : k < ws.length
    · have hlt' : (k : Int) < (ws.length : Int) := by omega
      obtain ⟨b, o, cap', e, u, e1, hs, q0, hRS⟩ := (HR.out.1.below hQ.bel).at (k := k) (by rw [List.length_map]; exact hlt)
      rw [List.length_map] at e1
      simp only [Value.slice.injEq, true_and] at e1
      obtain ⟨rfl, rfl⟩ := e1
      obtain ⟨t, ht⟩ : ∃ t, ws[k]? = some t := ⟨_, List.getElem?_eq_getElem hlt⟩
      rw [List.getElem?_map, ht] at hs
      simp only [Option.map_some, Option.some.injEq] at hs
      subst hs
      obtain ⟨b2, o2, c2, t2, e2, hs2, q1, _⟩ := hRS.at (k := 0) (by simp)
      simp only [List.getElem?_cons_zero, Option.some.injEq] at hs2
      subst hs2
      subst e2
      have htz := HR.out.2 t (List.mem_of_getElem? ht)
      simp only [Nat.add_zero] at q1
      obtain ⟨We, hWe⟩ : ∃ We, wr.alloc (.cells #[.slice (some ⟨b2, o2, none⟩) 1 c2] 141) = We := ⟨_, rfl⟩
      have be : Below wr.heap.size wr We := by rw [← hWe]; exact (Below.refl _ _).alloc (Nat.le_refl _) _
      have f0 : We.cell? ⟨wr.heap.size, 0, none⟩ = some (.slice (some ⟨b2, o2, none⟩) 1 c2) := by rw [← hWe]; simp [go_sem]
      have q1' := (be.cell (cell_lt q1)).trans q1
      have HE : Hid (LW w We O (wd4 ws k) ∧ ws[k]? = some t) := ⟨hQ.below be, ht⟩
      clear hQ hRS ht be q1
      go_upto_region 5 with fail
      try rw [hWe]
      clear hWe q0
      go_wp2_with fail
      refine (clone_any t _ (by omega)).mono ?_
      rintro e w3 ⟨rfl, hb3⟩
      have HE3 : Hid (LW w w3 O (wd4 ws k)) := HE.out.1.below hb3
      have HP : Hid (LW w (w3.setCell ⟨w.heap.size + 2, k, none⟩ (.string t)) O (wd4 ws (k + 1))) := HE3.out.put k _ (wd4_set HE.out.2 (by omega))
      obtain ⟨g0, g1, g2, g3⟩ := bx4 HE3.out.box
      have gz := frz5 HE3.out.box
      have hk4 : (k : Int) < 4 := by omega
      have gk : ∃ x, w3.cell? ⟨w.heap.size + 2, k, none⟩ = some (.string x) := by
        match k, (show k < 4 by omega) with
        | 0, _ => exact ⟨_, g0⟩
        | 1, _ => exact ⟨_, g1⟩
        | 2, _ => exact ⟨_, g2⟩
        | 3, _ => exact ⟨_, g3⟩
      obtain ⟨xk, gk⟩ := gk
      clear hb3 f0 q1' g0 g1 g2 g3
      go_wp2
      go_roundw
      case rel => exact ⟨k + 1, by go_num, by omega, HP.out⟩
      case measure => simp [intOf]; omega
    · obtain rfl : k = ws.length := by omega
      obtain ⟨g0, g1, g2, g3⟩ := bx4 hQ.box
      obtain ⟨r0, r1, r2, r3⟩ := bx4 hQ.res
      have rz := frz5 hQ.res
      have HF : Hid (Below w.heap.size w wr) := hQ.bel
      simp only [wdA_all] at g0 g1 g2 g3
      clear hQ
      go_wp2
      exact bodyPost_ret (v := w4 ws) (by simp [results, Tryz.results176, go_sem, r0, r1, r2, r3, w4]) rfl ⟨rfl, (((HF.out.setCell (show w.heap.size ≤ w.heap.size + 1 by omega) _).setCell (show w.heap.size ≤ w.heap.size + 1 by omega) _).setCell (show w.heap.size ≤ w.heap.size + 1 by omega) _).setCell (show w.heap.size ≤ w.heap.size + 1 by omega) _⟩
end Go.Proofs.YtkaolpnbddjdpaaGreatDoor
namespace Go.Proofs.YtkaolpnbddjdpaaGreatDoor
open Go.ChangeShapes Go.WideShapes Go.ChangeAt Go.RowKit
/-- The method of a kind. -/
def fnL (k : Int) : Nat := if k = 1 then 268 else if k = 2 ∨ k = 4 then 271 else if k = 3 then 273 else if k = 5 then 275 else if k = 6 then 277 else 279
theorem method_line (k : Int) (hk : 1 ≤ k ∧ k ≤ 7) (w : World) : (method 402 (tyK k) (.agg #[]) "loop.example/g00096/impl.line").run Tryz.prog w = .ok (fnL k, .agg #[]) w := by
  obtain rfl | rfl | rfl | rfl | rfl | rfl | rfl : k = 1 ∨ k = 2 ∨ k = 3 ∨ k = 4 ∨ k = 5 ∨ k = 6 ∨ k = 7 := by omega
  all_goals kernel_rfl
theorem call_line (k : Int) (hk : 1 ≤ k ∧ k ≤ 7) (a b : Value) (w : World) : (callFunc (fnL k) #[a, b]).run Tryz.prog w = .ok (.enter (fnL k) #[a, b]) w := by
  obtain rfl | rfl | rfl | rfl | rfl | rfl | rfl : k = 1 ∨ k = 2 ∨ k = 3 ∨ k = 4 ∨ k = 5 ∨ k = 6 ∨ k = 7 := by omega
  all_goals kernel_rfl
def lnV (l : Ln) : Value := .agg #[.int .i64 l.no, .string l.item, .int .i64 l.qty, .int .i64 l.money, .string l.note]
theorem optN_num (n : Int) (h : i64B n) : NumW (((optN n)[0]?).getD eT) n ∧ (((optN n)[0]?).getD eT).size ≤ 20 := by
  unfold optN
  split
  · rename_i q; exact ⟨.inr ⟨rfl, q⟩, Nat.zero_le _⟩
  · exact ⟨.inl ⟨numT_all n, h⟩, (decS_long n h.1 h.2).2⟩
theorem optT_get (t : ByteArray) : ((optT t)[0]?).getD eT = t := by
  unfold optT
  split
  · rename_i q; exact (empty_eT q).symm
  · rfl
set_option maxRecDepth 100000 in
theorem optT_one (t : ByteArray) : ((optT t)[1]?).getD eT = eT := by
  unfold optT
  split <;> rfl
theorem optN_one (n : Int) : ((optN n)[1]?).getD eT = eT := by
  unfold optN
  split <;> rfl
theorem line_any (k : Int) (hk : 1 ≤ k ∧ k ≤ 7) (l : Ln) (w : World) (hI : LnI l) (hE : ErrsAt w) : Calls Tryz.prog (fnL k) #[.agg #[], w4 (wordsI k l)] w fun e w' => e = .returned (lnV (lnI k l)) ∧ Below w.heap.size w w' := by
  have z0 := (decS_long l.no hI.1.1 hI.1.2).2
  have z1 := (decS_long l.qty hI.2.1.1 hI.2.1.2).2
  have n0 : NumW (decS l.no) l.no := .inl ⟨numT_all _, hI.1⟩
  have n1 : NumW (decS l.qty) l.qty := .inl ⟨numT_all _, hI.2.1⟩
  obtain ⟨n2, z2⟩ := optN_num l.money hI.2.2
  obtain rfl | rfl | rfl | rfl | rfl | rfl | rfl : k = 1 ∨ k = 2 ∨ k = 3 ∨ k = 4 ∨ k = 5 ∨ k = 6 ∨ k = 7 := by omega
  · have e : w4 (wordsI 1 l) = .agg #[.string (decS l.no), .string l.item, .string (decS l.qty), .string (((optN l.money)[0]?).getD eT)] := rfl
    rw [e]
    exact line_order (decS l.no) l.item (decS l.qty) (((optN l.money)[0]?).getD eT) l.no l.qty l.money w (by omega) n0 (by omega) n1 (by omega) n2 hE
  · have := line_answer (decS l.no) (decS l.qty) (((optT l.note)[0]?).getD eT) eT l.no l.qty w (by omega) n0 (by omega) n1 hE
    rw [optT_get] at this
    have e : w4 (wordsI 2 l) = .agg #[.string (decS l.no), .string (decS l.qty), .string l.note, .string eT] := by
      show Value.agg #[.string (decS l.no), .string (decS l.qty), .string (((optT l.note)[0]?).getD eT), .string (((optT l.note)[1]?).getD eT)] = _
      rw [optT_get, optT_one]
    rw [e]
    exact this
  · exact line_sent (decS l.no) (decS l.qty) eT eT l.no l.qty w (by omega) n0 (by omega) n1 hE
  · have := line_answer (decS l.no) (decS l.qty) (((optT l.note)[0]?).getD eT) eT l.no l.qty w (by omega) n0 (by omega) n1 hE
    rw [optT_get] at this
    have e : w4 (wordsI 4 l) = .agg #[.string (decS l.no), .string (decS l.qty), .string l.note, .string eT] := by
      show Value.agg #[.string (decS l.no), .string (decS l.qty), .string (((optT l.note)[0]?).getD eT), .string (((optT l.note)[1]?).getD eT)] = _
      rw [optT_get, optT_one]
    rw [e]
    exact this
  · exact line_stock l.item (decS l.qty) eT eT l.qty w (by omega) n1 hE
  · have := line_adjust l.item (decS l.qty) (((optT l.note)[0]?).getD eT) eT l.qty w (by omega) n1 hE
    rw [optT_get] at this
    have e : w4 (wordsI 6 l) = .agg #[.string l.item, .string (decS l.qty), .string l.note, .string eT] := by
      show Value.agg #[.string l.item, .string (decS l.qty), .string (((optT l.note)[0]?).getD eT), .string (((optT l.note)[1]?).getD eT)] = _
      rw [optT_get, optT_one]
    rw [e]
    exact this
  · have e : w4 (wordsI 7 l) = .agg #[.string (decS l.no), .string (decS l.qty), .string (((optN l.money)[0]?).getD eT), .string eT] := by
      show Value.agg #[.string (decS l.no), .string (decS l.qty), .string (((optN l.money)[0]?).getD eT), .string (((optN l.money)[1]?).getD eT)] = _
      rw [optN_one]
    rw [e]
    exact line_heard (decS l.no) (decS l.qty) (((optN l.money)[0]?).getD eT) eT l.no l.qty l.money w (by omega) n0 (by omega) n1 (by omega) n2 hE
/-- The one or the other. -/
def selB (o : Bool) (a b : ByteArray) : ByteArray := if o = true then a else b
theorem pb_set {W : World} {P : Nat} {cs : Array Value} {t : Nat} (h : W.heap[P]? = some (.cells cs t)) (i : Nat) (x : Value) : (W.setCell ⟨P, i, none⟩ x).heap[P]? = some (.cells (cs.setIfInBounds i x) t) := heap_setCell_same W P i _ _ x h
set_option maxRecDepth 20000 in
set_option maxHeartbeats 8000000 in
theorem setDoc_any (P : Nat) (k : Int) (r0 o0 : ByteArray) (d0 : Int) (vn vl : Value) (a0 a1 a2 a3 : ByteArray) (n : Int) (Wb w : World) (hk : 1 ≤ k ∧ k ≤ 7) (hx : w.heap[P]? = some (.cells #[.int .i64 k, .string r0, .string o0, .int .i64 d0, vn, vl] 66)) (hV : VarsAt Wb) (hb : Below Wb.heap.size Wb w) (hP : Wb.heap.size ≤ P)
    (hz : a1.size ≤ 281474976710656 ∧ a2.size ≤ 281474976710656) (hn : NumW (selB (hasO k) a2 a1) n) :
    Calls Tryz.prog 177 #[.pointer (some ⟨P, 0, none⟩), .agg #[.string a0, .string a1, .string a2, .string a3]] w fun e w' => e = .returned (.tuple #[]) ∧ w'.heap[P]? = some (.cells #[.int .i64 k, .string a0, .string (selB (hasO k) a1 o0), .int .i64 n, vn, vl] 66) ∧ Keep P w w' := by
  obtain ⟨o, ho⟩ : ∃ o, o = hasO k := ⟨_, rfl⟩
  rw [← ho] at hn ⊢
  have HO : Hid (o = hasO k) := ho
  clear ho
  have hlt := (Array.getElem?_eq_some_iff.1 hx).1
  obtain ⟨W1, hW1⟩ : ∃ W1, w.alloc (.cells #[.string a0, .string a1, .string a2, .string a3] 217) = W1 := ⟨_, rfl⟩
  have b1 : Below w.heap.size w W1 := by rw [← hW1]; exact (Below.refl _ _).alloc (Nat.le_refl _) _
  have y1 : W1.heap[w.heap.size]? = some (.cells #[.string a0, .string a1, .string a2, .string a3] 217) := by rw [← hW1]; exact World.alloc_heap_new _ _
  have x1 : W1.heap[P]? = some (.cells #[.int .i64 k, .string r0, .string o0, .int .i64 d0, vn, vl] 66) := (b1.block _ hlt).trans hx
  obtain ⟨c0, c1, c2, c3, c4, c5⟩ := pbox x1
  have cz := frz5 x1
  obtain ⟨W2, hW2⟩ : ∃ W2, W1.setCell ⟨P, 1, none⟩ (.string a0) = W2 := ⟨_, rfl⟩
  have x2 : W2.heap[P]? = some (.cells #[.int .i64 k, .string a0, .string o0, .int .i64 d0, vn, vl] 66) := by rw [← hW2]; exact pb_set x1 1 _
  have k2 : Keep P w W2 := by rw [← hW2]; exact (Keep.of_below b1).setCell 1 _
  have y2 : W2.heap[w.heap.size]? = some (.cells #[.string a0, .string a1, .string a2, .string a3] 217) := by rw [← hW2, Below.heap_setCell _ _ _ _ (show w.heap.size ≠ P by omega)]; exact y1
  have v2 : VarsAt W2 := hV.below (hb.trans (k2.below hP hb.size))
  obtain ⟨s0, s1, s2, s3⟩ := bx4 y1
  go_enter Tryz.func177, Tryz.ntmps177
  go_upto_region 2 with fail
  try rw [hW1]
  try rw [hW2]
  clear hW2 hW1 b1 y1 x1 c0 c1 c2 c3 c4 c5 cz hx hV hb hlt s0 s1 s2 s3
  obtain ⟨c0, c1, c2, c3, c4, c5⟩ := pbox x2
  obtain ⟨s0, s1, s2, s3⟩ := bx4 y2
  have HK : Hid (Keep P w W2 ∧ W2.heap[P]? = some (.cells #[.int .i64 k, .string a0, .string o0, .int .i64 d0, vn, vl] 66) ∧ ErrsAt W2 ∧ W2.heap[w.heap.size]? = some (.cells #[.string a0, .string a1, .string a2, .string a3] 217)) := ⟨k2, x2, v2.errs, y2⟩
  have hv2 := v2.tabs
  clear k2 x2 v2 y2
  have Q1 := hasOther_any k W2 hk hv2
  rw [← HO.out] at Q1
  clear HO hv2
  go_wp2_with fail
  refine Q1.mono ?_
  rintro e W2 ⟨rfl, rfl⟩
  clear Q1
  have HX : Hid (∀ W, Below W2.heap.size W2 W → (W.cell? ⟨P, 0, none⟩ = some (.int .i64 k) ∧ W.cell? ⟨P, 1, none⟩ = some (.string a0) ∧ W.cell? ⟨P, 2, none⟩ = some (.string o0) ∧ W.cell? ⟨P, 3, none⟩ = some (.int .i64 d0) ∧ W.cell? ⟨P, 4, none⟩ = some (vn) ∧ W.cell? ⟨P, 5, none⟩ = some (vl)) ∧ (W.cell? ⟨w.heap.size, 0, none⟩ = some (.string a0) ∧ W.cell? ⟨w.heap.size, 1, none⟩ = some (.string a1) ∧ W.cell? ⟨w.heap.size, 2, none⟩ = some (.string a2) ∧ W.cell? ⟨w.heap.size, 3, none⟩ = some (.string a3)) ∧ (∀ o, W.frozen? ⟨P, o, none⟩ = false) ∧ W.heap[P]? = some (.cells #[.int .i64 k, .string a0, .string o0, .int .i64 d0, vn, vl] 66)) := fun W hW => by
    have q1 := (hW.block _ (Array.getElem?_eq_some_iff.1 HK.out.2.1).1).trans HK.out.2.1
    have q2 := (hW.block _ (Array.getElem?_eq_some_iff.1 HK.out.2.2.2).1).trans HK.out.2.2.2
    exact ⟨pbox q1, bx4 q2, frz5 q1, q1⟩
  cases o with
  | true =>
    clear c0 c1 c2 c3 c4 c5 s0 s1 s2 s3
    obtain ⟨⟨c0, c1, c2, c3, c4, c5⟩, ⟨s0, s1, s2, s3⟩, cz, _⟩ := HX.out W2 (Below.refl _ _)
    go_upto_region 3 with fail
    go_region_law (first | (go_simp; go_at_call 192; refine (numberOf_any a2 n _ hz.2 (by first | exact HK.out.2.2.1 | exact HK.out.2.2.1.drewP) hn).mono ?_; rintro e w5 ⟨rfl, hb5⟩; have b5 : Below W2.heap.size W2 w5 := (by first | exact hb5 | exact undrewP hb5); obtain ⟨⟨g0, g1, g2, g3, g4, g5⟩, ⟨h0, h1, h2, h3⟩, gz, hx5⟩ := HX.out w5 b5; clear hb5; try dsimp only) | fail)
    all_goals
      go_wp2
      exact bodyPost_ret (v := .tuple #[]) (by simp [results, Tryz.results177, go_sem]) rfl ⟨rfl, by first | exact pb_set (pb_set hx5 2 _) 3 _ | exact pb_set (pb_set hx5 3 _) 2 _, ((HK.out.1.trans (Keep.of_below b5)).setCell _ _).setCell _ _⟩
  | false =>
    clear c0 c1 c2 c3 c4 c5 s0 s1 s2 s3
    obtain ⟨⟨c0, c1, c2, c3, c4, c5⟩, ⟨s0, s1, s2, s3⟩, cz, _⟩ := HX.out W2 (Below.refl _ _)
    go_wp2_with fail
    refine (numberOf_any a1 n _ hz.1 HK.out.2.2.1 hn).mono ?_
    rintro e w5 ⟨rfl, b5⟩
    obtain ⟨⟨g0, g1, g2, g3, g4, g5⟩, ⟨h0, h1, h2, h3⟩, gz, hx5⟩ := HX.out w5 b5
    have HF : Hid (Keep P w (w5.setCell ⟨P, 3, none⟩ (.int .i64 n)) ∧ w5.heap[P]? = some (.cells #[.int .i64 k, .string a0, .string o0, .int .i64 d0, vn, vl] 66)) := ⟨(HK.out.1.trans (Keep.of_below b5)).setCell _ _, hx5⟩
    clear b5 hx5
    go_wp2
    go_end0
    exact ⟨rfl, pb_set HF.out.2 3 _, HF.out.1⟩
end Go.Proofs.YtkaolpnbddjdpaaGreatDoor
namespace Go.Proofs.YtkaolpnbddjdpaaGreatDoor
open Go.ChangeShapes Go.WideShapes Go.ChangeAt Go.RowKit
theorem fl_addr (b o i : Nat) : (⟨b, o, none⟩ : Addr).add i = ⟨b, o + i, none⟩ := by unfold Addr.add; split <;> simp_all
end Go.Proofs.YtkaolpnbddjdpaaGreatDoor
namespace Go.Proofs.YtkaolpnbddjdpaaGreatDoor
open Go.ChangeShapes Go.WideShapes Go.ChangeAt Go.RowKit
theorem infoTx : (Tryz.prog.info? 9).map (fun i => (i.zero, i.size, i.bytes)) = some (some (.string ⟨#[]⟩), 1, 16) := by kernel_rfl
/-- An append of one text, at the list of a plain region's operations. -/
theorem wpList_appTx {ops : Array Oper} {rest : List Oper} {o : Oper} {a : Act} {Q : Exit → Act → World → Prop} {W : World} {base c C : Nat} {lv : Value} {ss : List ByteArray} {t : ByteArray} (hgd : o.guard = none) (s x : Operand)
    (ho : o.op = .call { callee := .builtin .append, args := #[s, x], argTypes := #[63, 63] })
    (hs' : a.eval s = lv) (hx : a.eval x = .slice (some ⟨c, 0, none⟩) 1 C) (h : W.ownsRow base 9 1 lv ss.length (ss.map Value.string)) (hg : W.cell? ⟨c, 0, none⟩ = some (.string t)) (hl : ss.length + 1 ≤ 2000000) (hbase : base ≤ W.heap.size)
    (k : ∀ v' w', w'.ownsRow base 9 1 v' (ss.length + 1) ((ss ++ [t]).map Value.string) → W.grownBy w' lv.ownBlock → (∃ A C, v' = .slice A (ss.length + 1) C) → wpList Tryz.prog ops Q rest (a.put o.dst v') w') : wpList Tryz.prog ops Q (o :: rest) a W := by
  obtain ⟨i0, hi, hz0, hz1, hz2⟩ := info_parts infoTx
  refine wpList_append_own W hgd s x 63 ho base 9 i0 (.string ⟨#[]⟩) 1 16 Tryz.underlying63 hi hz0 hz1 hz2 rfl (by decide) lv ss.length (ss.map Value.string) hs' h ⟨c, 0, none⟩ 1 C [.string t] hx rfl (fun j u hu => ?_) (fun u hu => ?_) (by unfold maxLen; omega) (by omega) hbase ?_
  · have hj := (List.getElem?_eq_some_iff.1 hu).1
    have hj1 : j < 1 := hj
    obtain rfl : j = 0 := by omega
    simp only [List.getElem?_cons_zero, Option.some.injEq] at hu
    subst hu
    rw [fl_addr]
    exact hg
  · rw [List.mem_singleton.1 hu]
    rfl
  · intro v' w' hown hgrow hnil
    have hown' : w'.ownsRow base 9 1 v' (ss.length + 1) ((ss ++ [t]).map Value.string) := by
      rw [List.map_append]
      exact hown
    refine k v' w' hown' hgrow ?_
    rcases hown'.2 with ⟨rfl, h0⟩ | ⟨b, cap, cur, rfl, _⟩
    · omega
    · exact ⟨_, _, rfl⟩
theorem appTx_below {w W w' : World} {base : Nat} {lv : Value} {n : Nat} {xs : List Value} (hb : Below base w W) (h : W.ownsRow base 9 1 lv n xs) (hg : W.grownBy w' lv.ownBlock) (hB : base ≤ W.heap.size) : Below base w w' :=
  hb.trans ⟨hg.os, hg.tape, hg.output, hg.size, fun q hq => hg.block q (by omega) (fun e => by have := (h.lt q e.symm).1; omega)⟩
end Go.Proofs.YtkaolpnbddjdpaaGreatDoor
namespace Go.Proofs.YtkaolpnbddjdpaaGreatDoor
open Go.ChangeShapes Go.WideShapes Go.ChangeAt Go.RowKit
theorem setNe {W : World} {b c i : Nat} (y : Value) (h : b ≠ c) : (W.setCell ⟨c, i, none⟩ y).heap[b]? = W.heap[b]? := by
  simp [World.setCell, Array.getElem?_modify]
  intro e
  omega
theorem own_ne {W : World} {base b : Nat} {e e' : TypeId} {size : Nat} {v : Value} {k : Nat} {xs : List Value} {c : Array Value} (h : W.ownsRow base e size v k xs) (hb : W.heap[b]? = some (.cells c e')) (hne : e ≠ e') : v.ownBlock = none ∨ v.ownBlock ≠ some b := by
  rcases h.2 with ⟨e1, _⟩ | ⟨g, cap, cur, e1, _, h2, _⟩
  · exact .inl (by rw [e1]; rfl)
  · refine .inr ?_
    rw [e1]
    intro e2
    simp only [Value.ownBlock, Option.some.injEq] at e2
    rw [e2, hb] at h2
    simp only [Option.some.injEq, Obj.cells.injEq] at h2
    exact hne h2.2.1.symm
theorem own_ne2 {W : World} {base base' : Nat} {e e' : TypeId} {size size' : Nat} {v v' : Value} {k k' : Nat} {xs xs' : List Value} (h : W.ownsRow base e size v k xs) (h' : W.ownsRow base' e' size' v' k' xs') (hne : e ≠ e') : v.ownBlock = none ∨ v.ownBlock ≠ v'.ownBlock := by
  rcases h'.2 with ⟨e1, _⟩ | ⟨g, cap, cur, e1, _, h2, _⟩
  · rcases h.2 with ⟨e3, _⟩ | ⟨g, cap, cur, e3, _⟩
    · exact .inl (by rw [e3]; rfl)
    · exact .inr (by rw [e1, e3]; simp [Value.ownBlock])
  · rcases own_ne h h2 hne with h3 | h3
    · exact .inl h3
    · exact .inr (by rw [e1]; exact h3)
theorem own_set {W : World} {base b i : Nat} {e e' : TypeId} {size : Nat} {v x : Value} {k : Nat} {xs : List Value} {c : Array Value} (h : W.ownsRow base e size v k xs) (hb : W.heap[b]? = some (.cells c e')) (hne : e ≠ e') : (W.setCell ⟨b, i, none⟩ x).ownsRow base e size v k xs :=
  h.kept (row := some b) ⟨rfl, rfl, rfl, by simp, fun j _ hn => setNe x (fun e => hn (by rw [e]))⟩ (own_ne h hb hne)
theorem own_below {W W' : World} {base : Nat} {e : TypeId} {size : Nat} {v : Value} {k : Nat} {xs : List Value} (h : W.ownsRow base e size v k xs) (hb : Below W.heap.size W W') : W'.ownsRow base e size v k xs := by
  refine h.kept (row := none) ⟨hb.os, hb.tape, hb.output, hb.size, fun j hj _ => hb.block j hj⟩ ?_
  rcases h.2 with ⟨e, _⟩ | ⟨g, cap, cur, e, _⟩
  · exact .inl (by rw [e]; rfl)
  · exact .inr (by rw [e]; simp [Value.ownBlock])
/-- A line's cells, one behind the other. -/
def clL (l : Ln) : List Value := [.int .i64 l.no, .string l.item, .int .i64 l.qty, .int .i64 l.money, .string l.note]
def clLs (ls : List Ln) : List Value := ls.flatMap clL
theorem clLs_app (ls : List Ln) (g : Ln) : clLs (ls ++ [g]) = clLs ls ++ clL g := by simp [clLs]
theorem clLs_at : ∀ {ls : List Ln} {i : Nat} {l : Ln}, ls[i]? = some l → (clLs ls)[i * 5]? = some (.int .i64 l.no) ∧ (clLs ls)[i * 5 + 1]? = some (.string l.item) ∧ (clLs ls)[i * 5 + 2]? = some (.int .i64 l.qty) ∧ (clLs ls)[i * 5 + 3]? = some (.int .i64 l.money) ∧ (clLs ls)[i * 5 + 4]? = some (.string l.note)
  | [], i, g, h => by simp at h
  | x :: r, 0, g, h => by
    simp only [List.getElem?_cons_zero, Option.some.injEq] at h
    subst h
    exact ⟨rfl, rfl, rfl, rfl, rfl⟩
  | x :: r, i + 1, g, h => by
    rw [List.getElem?_cons_succ] at h
    obtain ⟨e0, e1, e2, e3, e4⟩ := clLs_at h
    have hc : clLs (x :: r) = clL x ++ clLs r := rfl
    have hl : (clL x).length = 5 := rfl
    refine ⟨?_, ?_, ?_, ?_, ?_⟩
    · rw [hc, List.getElem?_append_right (by omega), hl, ← e0]; congr 1; omega
    · rw [hc, List.getElem?_append_right (by omega), hl, ← e1]; congr 1; omega
    · rw [hc, List.getElem?_append_right (by omega), hl, ← e2]; congr 1; omega
    · rw [hc, List.getElem?_append_right (by omega), hl, ← e3]; congr 1; omega
    · rw [hc, List.getElem?_append_right (by omega), hl, ← e4]; congr 1; omega
theorem rowL_of_owns {W : World} {base : Nat} {v : Value} {ls : List Ln} (h : W.ownsRow base 121 5 v ls.length (clLs ls)) (hl : ls.length ≤ 100) (hz : ∀ l ∈ ls, l.item.size ≤ 9223372036854775807 ∧ l.note.size ≤ 9223372036854775807) : RowL W v ls := by
  refine ⟨?_, by omega, fun i l hi => hz l (List.mem_of_getElem? hi)⟩
  rcases h.2 with ⟨rfl, h0⟩ | ⟨g, cap, cur, rfl, _⟩
  · exact ⟨none, 0, by rw [h0], fun hn => absurd (List.length_eq_zero_iff.1 h0) hn⟩
  · refine ⟨_, _, rfl, fun _ => ⟨g, 0, rfl, fun i l hi => ?_⟩⟩
    obtain ⟨e0, e1, e2, e3, e4⟩ := clLs_at hi
    have ea : ∀ i, (⟨g, 0, none⟩ : Addr).add i = ⟨g, 0 + i, none⟩ := fun i => by unfold Addr.add; split <;> simp_all
    have h0 := h.cells (g := g) rfl _ _ e0
    have h1 := h.cells (g := g) rfl _ _ e1
    have h2 := h.cells (g := g) rfl _ _ e2
    have h3 := h.cells (g := g) rfl _ _ e3
    have h4 := h.cells (g := g) rfl _ _ e4
    rw [ea, Nat.zero_add] at h0 h1 h2 h3 h4
    rw [Nat.zero_add]
    exact ⟨h0, h1, h2, h3, h4⟩
theorem rowS_of_owns {W : World} {base : Nat} {v : Value} {ss : List ByteArray} (h : W.ownsRow base 9 1 v ss.length (ss.map Value.string)) (hl : ss.length ≤ 100) (hz : ∀ t ∈ ss, t.size ≤ 1048576) : RowS W v ss := own_rowT h rfl (by omega) hz
theorem rowL_of_owns' {W W0 : World} {base : Nat} {v : Value} {ls : List Ln} (h : W.ownsRow base 121 5 v ls.length (clLs ls)) (hr : RowL W0 v ls) : RowL W v ls := by
  refine ⟨?_, hr.len, hr.sizes⟩
  rcases h.2 with ⟨rfl, h0⟩ | ⟨g, cap, cur, rfl, _⟩
  · exact ⟨none, 0, by rw [h0], fun hn => absurd (List.length_eq_zero_iff.1 h0) hn⟩
  · refine ⟨_, _, rfl, fun _ => ⟨g, 0, rfl, fun i l hi => ?_⟩⟩
    obtain ⟨e0, e1, e2, e3, e4⟩ := clLs_at hi
    have ea : ∀ i, (⟨g, 0, none⟩ : Addr).add i = ⟨g, 0 + i, none⟩ := fun i => by unfold Addr.add; split <;> simp_all
    have h0 := h.cells (g := g) rfl _ _ e0
    have h1 := h.cells (g := g) rfl _ _ e1
    have h2 := h.cells (g := g) rfl _ _ e2
    have h3 := h.cells (g := g) rfl _ _ e3
    have h4 := h.cells (g := g) rfl _ _ e4
    rw [ea, Nat.zero_add] at h0 h1 h2 h3 h4
    rw [Nat.zero_add]
    exact ⟨h0, h1, h2, h3, h4⟩
theorem rowS_of_owns' {W W0 : World} {base : Nat} {v : Value} {ss : List ByteArray} (h : W.ownsRow base 9 1 v ss.length (ss.map Value.string)) (hr : RowS W0 v ss) : RowS W v ss := by
  refine ⟨?_, hr.len, hr.sizes⟩
  rcases h.2 with ⟨rfl, h0⟩ | ⟨g, cap, cur, rfl, _⟩
  · exact ⟨none, 0, by rw [h0], fun hn => absurd (List.length_eq_zero_iff.1 h0) hn⟩
  · refine ⟨_, _, rfl, fun _ => ⟨g, 0, rfl, fun i t hi => ?_⟩⟩
    have h1 := h.cells (g := g) rfl i (.string t) (by simp [hi])
    have e : (⟨g, 0, none⟩ : Addr).add i = ⟨g, 0 + i, none⟩ := by unfold Addr.add; split <;> simp_all
    rwa [e] at h1
/-- A paper's lists in rows of the call's own. -/
structure OwnQ (B : Nat) (W : World) (q : Pap) (vn vl : Value) : Prop where
  ns : W.ownsRow B 9 1 vn q.notes.length (q.notes.map Value.string)
  ls : W.ownsRow B 121 5 vl q.lines.length (clLs q.lines)
theorem own_old {B b : Nat} (hb : b < B) {e : TypeId} {size : Nat} {v : Value} {len : Nat} {xs : List Value} {W : World} (hr : W.ownsRow B e size v len xs) (i : Nat) (a : Value) : (W.setCell ⟨b, i, none⟩ a).ownsRow B e size v len xs := by
  refine hr.kept (row := some b) ⟨rfl, rfl, rfl, by simp, fun k _ hne => setNe _ (fun e => hne (by rw [e]))⟩ ?_
  rcases hr.2 with ⟨e, _⟩ | ⟨g, cap, cur, e, hg, _⟩
  · exact .inl (by rw [e]; rfl)
  · refine .inr ?_
    rw [e]
    simp only [Value.ownBlock]
    intro e2
    simp only [Option.some.injEq] at e2
    omega
theorem OwnQ.set {B b : Nat} {W : World} {q : Pap} {vn vl : Value} (h : OwnQ B W q vn vl) (hb : b < B) (i : Nat) (a : Value) : OwnQ B (W.setCell ⟨b, i, none⟩ a) q vn vl := ⟨own_old hb h.ns i a, own_old hb h.ls i a⟩
theorem OwnQ.below {B : Nat} {W W' : World} {q : Pap} {vn vl : Value} (h : OwnQ B W q vn vl) (hb : Below W.heap.size W W') : OwnQ B W' q vn vl := ⟨own_below h.ns hb, own_below h.ls hb⟩
theorem OwnQ.mono {B B' : Nat} {W : World} {q : Pap} {vn vl : Value} (h : OwnQ B W q vn vl) (hb : B' ≤ B) : OwnQ B' W q vn vl :=
  ⟨⟨h.ns.1, h.ns.2.imp id fun ⟨g, cap, cur, e, hg, r⟩ => ⟨g, cap, cur, e, by omega, r⟩⟩, ⟨h.ls.1, h.ls.2.imp id fun ⟨g, cap, cur, e, hg, r⟩ => ⟨g, cap, cur, e, by omega, r⟩⟩⟩
theorem PapR.ofQ {B : Nat} {W W0 : World} {q : Pap} {vn vl : Value} (h0 : PapR W0 vn vl q) (h : OwnQ B W q vn vl) : PapR W vn vl q := ⟨rowS_of_owns' h.ns h0.ns, rowL_of_owns' h.ls h0.ls, h0.rz, h0.oz⟩
/-- The boxes of paperOf: the answer's, the paper's; its lists in rows of their own. -/
structure PO (w W : World) (q : Pap) (vn vl : Value) : Prop where
  res : W.heap[w.heap.size]? = some (.cells #[.int .i64 0, .string ⟨#[]⟩, .string ⟨#[]⟩, .int .i64 0, .slice none 0 0, .slice none 0 0] 66)
  box : W.heap[w.heap.size + 1]? = some (.cells #[.int .i64 q.kind, .string q.ref, .string q.other, .int .i64 q.day, vn, vl] 66)
  ns : W.ownsRow (w.heap.size + 2) 9 1 vn q.notes.length (q.notes.map Value.string)
  ls : W.ownsRow (w.heap.size + 2) 121 5 vl q.lines.length (clLs q.lines)
  bel : Below w.heap.size w W
theorem PO.below {w W W' : World} {q : Pap} {vn vl : Value} (h : PO w W q vn vl) (hb : Below W.heap.size W W') : PO w W' q vn vl :=
  ⟨(hb.block _ (Array.getElem?_eq_some_iff.1 h.res).1).trans h.res, (hb.block _ (Array.getElem?_eq_some_iff.1 h.box).1).trans h.box, own_below h.ns hb, own_below h.ls hb, h.bel.trans (hb.mono h.bel.size)⟩
theorem PO.lt {w W : World} {q : Pap} {vn vl : Value} (h : PO w W q vn vl) : w.heap.size + 2 ≤ W.heap.size := (Array.getElem?_eq_some_iff.1 h.box).1
/-- The first segment's fields are set. -/
theorem PO.doc {w W W' : World} {q q' : Pap} {vn vl : Value} (h : PO w W q vn vl) (hk : Keep (w.heap.size + 1) W W') (hx : W'.heap[w.heap.size + 1]? = some (.cells #[.int .i64 q'.kind, .string q'.ref, .string q'.other, .int .i64 q'.day, vn, vl] 66)) (hn : q'.notes = q.notes) (hl : q'.lines = q.lines) : PO w W' q' vn vl := by
  have hlt := h.lt
  have kp : ∀ {e : TypeId} {size : Nat} {v : Value} {len : Nat} {xs : List Value}, W.ownsRow (w.heap.size + 2) e size v len xs → W'.ownsRow (w.heap.size + 2) e size v len xs := fun hr => by
    refine hr.kept (row := some (w.heap.size + 1)) ⟨hk.os, hk.tape, hk.output, hk.size, fun k hk' hne => hk.block k hk' (fun e => hne (by rw [e]))⟩ ?_
    rcases hr.2 with ⟨e, _⟩ | ⟨g, cap, cur, e, hg, _⟩
    · exact .inl (by rw [e]; rfl)
    · refine .inr ?_
      rw [e]
      simp only [Value.ownBlock]
      intro e2
      simp only [Option.some.injEq] at e2
      omega
  refine ⟨(hk.block _ (by omega) (by omega)).trans h.res, hx, by rw [hn]; exact kp h.ns, by rw [hl]; exact kp h.ls, h.bel.trans (hk.below (by omega) h.bel.size)⟩
/-- One note more, stored. -/
theorem PO.note {w W w' : World} {q : Pap} {vn vl v' : Value} {t : ByteArray} (h : PO w W q vn vl) (ho : w'.ownsRow (w.heap.size + 2) 9 1 v' (q.notes.length + 1) ((q.notes ++ [t]).map Value.string)) (hg : W.grownBy w' vn.ownBlock) :
    w'.heap[w.heap.size + 1]? = some (.cells #[.int .i64 q.kind, .string q.ref, .string q.other, .int .i64 q.day, vn, vl] 66) ∧ PO w (w'.setCell ⟨w.heap.size + 1, 4, none⟩ v') ⟨q.kind, q.ref, q.other, q.day, q.notes ++ [t], q.lines⟩ v' vl := by
  have hlt := h.lt
  have hne : ∀ j, j < w.heap.size + 2 → some j ≠ vn.ownBlock := fun j hj e => by
    have := (h.ns.lt j e.symm).1
    omega
  have hbx : w'.heap[w.heap.size + 1]? = some (.cells #[.int .i64 q.kind, .string q.ref, .string q.other, .int .i64 q.day, vn, vl] 66) := (hg.block _ (by omega) (hne _ (by omega))).trans h.box
  have hls : w'.ownsRow (w.heap.size + 2) 121 5 vl q.lines.length (clLs q.lines) := h.ls.kept hg (own_ne2 h.ls h.ns (by decide))
  refine ⟨hbx, (setNe _ (by omega)).trans ((hg.block _ (by omega) (hne _ (by omega))).trans h.res), heap_setCell_same w' _ 4 _ _ v' hbx, by rw [List.length_append]; exact own_set ho hbx (by decide), own_set hls hbx (by decide), ?_⟩
  exact (h.bel.trans ⟨hg.os, hg.tape, hg.output, hg.size, fun j hj => hg.block j (by have := h.bel.size; omega) (hne j (by omega))⟩).setCell (show w.heap.size ≤ w.heap.size + 1 by omega) _
/-- One line more, stored. -/
theorem PO.line {w W w' : World} {q : Pap} {vn vl v' : Value} {l : Ln} (h : PO w W q vn vl) (ho : w'.ownsRow (w.heap.size + 2) 121 5 v' (q.lines.length + 1) (clLs q.lines ++ clL l)) (hg : W.grownBy w' vl.ownBlock) :
    w'.heap[w.heap.size + 1]? = some (.cells #[.int .i64 q.kind, .string q.ref, .string q.other, .int .i64 q.day, vn, vl] 66) ∧ PO w (w'.setCell ⟨w.heap.size + 1, 5, none⟩ v') ⟨q.kind, q.ref, q.other, q.day, q.notes, q.lines ++ [l]⟩ vn v' := by
  have hlt := h.lt
  have hne : ∀ j, j < w.heap.size + 2 → some j ≠ vl.ownBlock := fun j hj e => by
    have := (h.ls.lt j e.symm).1
    omega
  have hbx : w'.heap[w.heap.size + 1]? = some (.cells #[.int .i64 q.kind, .string q.ref, .string q.other, .int .i64 q.day, vn, vl] 66) := (hg.block _ (by omega) (hne _ (by omega))).trans h.box
  have hns : w'.ownsRow (w.heap.size + 2) 9 1 vn q.notes.length (q.notes.map Value.string) := h.ns.kept hg (own_ne2 h.ns h.ls (by decide))
  refine ⟨hbx, (setNe _ (by omega)).trans ((hg.block _ (by omega) (hne _ (by omega))).trans h.res), heap_setCell_same w' _ 5 _ _ v' hbx, own_set hns hbx (by decide), by rw [List.length_append, clLs_app]; exact own_set ho hbx (by decide), ?_⟩
  exact (h.bel.trans ⟨hg.os, hg.tape, hg.output, hg.size, fun j hj => hg.block j (by have := h.bel.size; omega) (hne j (by omega))⟩).setCell (show w.heap.size ≤ w.heap.size + 1 by omega) _
/-- What is read of the first j segments. -/
def prt (p : Pap) (j : Nat) : Pap := if j = 0 then ⟨p.kind, eT, eT, 0, [], []⟩ else ⟨p.kind, p.ref, selB (hasO p.kind) p.other eT, p.day, p.notes.take (j - 1), (p.lines.map (lnI p.kind)).take (j - 1 - p.notes.length)⟩
theorem prt_all (p : Pap) : prt p (1 + (p.notes.length + p.lines.length)) = rdP lnI p := by
  unfold prt rdP
  rw [if_neg (by omega), List.take_of_length_le (by omega), List.take_of_length_le (by rw [List.length_map]; omega)]
  rfl
theorem prt_note {p : Pap} {k : Nat} {t : ByteArray} (h : p.notes[k]? = some t) : prt p (k + 1 + 1) = ⟨(prt p (k + 1)).kind, (prt p (k + 1)).ref, (prt p (k + 1)).other, (prt p (k + 1)).day, (prt p (k + 1)).notes ++ [t], (prt p (k + 1)).lines⟩ := by
  have hk := (List.getElem?_eq_some_iff.1 h).1
  unfold prt
  rw [if_neg (by omega), if_neg (by omega)]
  simp only [Nat.add_sub_cancel]
  rw [List.take_add_one, h, show k + 1 - p.notes.length = 0 by omega, show k - p.notes.length = 0 by omega]
  rfl
theorem prt_line {p : Pap} {k : Nat} {l : Ln} (h : p.lines[k]? = some l) : prt p (p.notes.length + k + 1 + 1) = ⟨(prt p (p.notes.length + k + 1)).kind, (prt p (p.notes.length + k + 1)).ref, (prt p (p.notes.length + k + 1)).other, (prt p (p.notes.length + k + 1)).day, (prt p (p.notes.length + k + 1)).notes, (prt p (p.notes.length + k + 1)).lines ++ [lnI p.kind l]⟩ := by
  unfold prt
  rw [if_neg (by omega), if_neg (by omega)]
  simp only [Nat.add_sub_cancel]
  have e1 : p.notes.take (p.notes.length + k + 1) = p.notes := List.take_of_length_le (by omega)
  have e2 : p.notes.take (p.notes.length + k) = p.notes := List.take_of_length_le (by omega)
  rw [e1, e2, show p.notes.length + k + 1 - p.notes.length = k + 1 by omega, show p.notes.length + k - p.notes.length = k by omega, List.take_add_one, List.getElem?_map, h]
  rfl
end Go.Proofs.YtkaolpnbddjdpaaGreatDoor
namespace Go.Proofs.YtkaolpnbddjdpaaGreatDoor
def formK (k : Int) : List UInt8 := if k = 1 then [110, 114, 113, 63, 110] else if k = 3 then [110, 113] else if k = 5 then [114, 110] else if k = 6 then [114, 122, 63, 116] else if k = 7 then [110, 110, 63, 110] else [110, 113, 63, 116]
def formD (k : Int) : List UInt8 := if hasO k = true then [114, 114, 100] else [114, 100]
theorem sTag_doc (k : Int) : sTag k ≠ sDOC := by
  unfold sTag sDOC
  split
  · exact fun e => absurd (bs_inj e) (by decide)
  · split <;> exact fun e => absurd (bs_inj e) (by decide)
theorem sTag_not (k : Int) : sTag k ≠ sNOT := by
  unfold sTag sNOT
  split
  · exact fun e => absurd (bs_inj e) (by decide)
  · split <;> exact fun e => absurd (bs_inj e) (by decide)
theorem sDOC_not : sDOC ≠ sNOT := fun e => absurd (bs_inj e) (by decide)
theorem seg_taken {k : Int} {body : List Seg} (h : (tcV k body).2.2 = 0) {g : Seg} (hg : g ∈ body) :
    (g.1 = sDOC ∧ frV (bs (formD k)) g.2 = -1) ∨ (g.1 = sNOT ∧ frV (bs [116]) g.2 = -1) ∨ (g.1 = sTag k ∧ frV (bs (formK k)) g.2 = -1) := by
  obtain ⟨j, hj⟩ := List.getElem?_of_mem hg
  obtain ⟨hk, _, hA⟩ := tcV_each h
  obtain ⟨i, r, hr, ht, hf⟩ := hA j g hj
  rcases rows_of hk hr with ⟨e1, _, e2⟩ | ⟨e1, _, e2⟩ | ⟨e1, _, _, _, e2⟩
  · exact .inl ⟨by rw [ht, e1]; rfl, by rw [e2] at hf; exact hf⟩
  · exact .inr (.inl ⟨by rw [ht, e1]; rfl, by rw [e2] at hf; exact hf⟩)
  · exact .inr (.inr ⟨by rw [ht, e1], by rw [e2] at hf; exact hf⟩)
theorem doc_taken {k : Int} {body : List Seg} (h : (tcV k body).2.2 = 0) {ws : List ByteArray} (hg : hdS sDOC ws ∈ body) : frV (bs (formD k)) (ws.map fun t => [t]) = -1 := by
  rcases seg_taken h hg with ⟨_, q⟩ | ⟨q, _⟩ | ⟨q, _⟩
  · exact q
  · exact absurd q sDOC_not
  · exact absurd q.symm (sTag_doc k)
theorem not_taken {k : Int} {body : List Seg} (h : (tcV k body).2.2 = 0) {ws : List ByteArray} (hg : hdS sNOT ws ∈ body) : frV (bs [116]) (ws.map fun t => [t]) = -1 := by
  rcases seg_taken h hg with ⟨q, _⟩ | ⟨_, q⟩ | ⟨q, _⟩
  · exact absurd q.symm sDOC_not
  · exact q
  · exact absurd q.symm (sTag_not k)
theorem lin_taken {k : Int} {body : List Seg} (h : (tcV k body).2.2 = 0) {ws : List ByteArray} (hg : hdS (sTag k) ws ∈ body) : frV (bs (formK k)) (ws.map fun t => [t]) = -1 := by
  rcases seg_taken h hg with ⟨q, _⟩ | ⟨q, _⟩ | ⟨_, q⟩
  · exact absurd q (sTag_doc k)
  · exact absurd q (sTag_not k)
  · exact q
/-- The words that a form takes. -/
theorem form_words {f ls : List UInt8} {m : Nat} {ws : List ByteArray} (hf : formF f = some (ls, m)) (h : frV (bs f) (ws.map fun t => [t]) = -1) : m ≤ ws.length ∧ ws.length ≤ ls.length ∧ ∀ (j : Nat) (c : UInt8) (t : ByteArray), ls[j]? = some c → ws[j]? = some t → wordB (c.toNat : Int) t = true := by
  obtain ⟨h1, h2, h3⟩ := frV_ok hf h
  rw [List.length_map] at h1 h2
  exact ⟨h1, h2, fun j c t hc ht => elem_word (h3 j c [t] hc (by rw [List.getElem?_map, ht]; rfl))⟩
theorem form_parts {f ls : List UInt8} {m : Nat} {ws : List ByteArray} (hf : formF f = some (ls, m)) (h : frV (bs f) (ws.map fun t => [t]) = -1) : ∀ t ∈ ws, partB t = true ∧ t.toList.isEmpty = false := fun t ht => by
  obtain ⟨h1, h2, h3⟩ := form_words hf h
  obtain ⟨j, hj⟩ := List.getElem?_of_mem ht
  have hl := (List.getElem?_eq_some_iff.1 hj).1
  exact word_part (h3 j _ t (List.getElem?_eq_getElem (show j < ls.length by omega)) hj)
theorem right_hd {tag : ByteArray} {ws : List ByteArray} (ht : tagB tag = true) (hl : ws.length ≤ 10) (h : ∀ t ∈ ws, partB t = true ∧ t.toList.isEmpty = false) : rightG tag (ws.map fun t => [t]) = true := by
  unfold rightG
  rw [ht]
  simp only [Bool.true_and, Bool.and_eq_true, decide_eq_true_eq, Bool.not_eq_true', List.length_map, List.all_eq_true]
  refine ⟨hl, ?_, fun e he => ?_⟩
  · unfold blankB
    rw [List.length_map]
    rcases Nat.eq_zero_or_pos ws.length with q | q
    · simp [q]
    · have hlt : ws.length - 1 < ws.length := by omega
      rw [List.getElem?_map, List.getElem?_eq_getElem hlt]
      have := (h _ (List.getElem_mem hlt)).2
      simp [blank1, isE, this]
  · obtain ⟨t, ht, rfl⟩ := List.mem_map.1 he
    have := (h t ht).1
    simp [elB, endsE, this]
theorem formF_D (k : Int) : ∃ ls m, formF (formD k) = some (ls, m) ∧ ls.length ≤ 10 ∧ ls = (if hasO k = true then [114, 114, 100] else [114, 100]) := by
  unfold formD
  split
  · exact ⟨[114, 114, 100], 3, by decide, by decide, rfl⟩
  · exact ⟨[114, 100], 2, by decide, by decide, rfl⟩
theorem formF_K (k : Int) : ∃ ls m, formF (formK k) = some (ls, m) ∧ ls.length ≤ 10 ∧ ls = (if k = 1 then [110, 114, 113, 110] else if k = 3 then [110, 113] else if k = 5 then [114, 110] else if k = 6 then [114, 122, 116] else if k = 7 then [110, 110, 110] else [110, 113, 116]) := by
  unfold formK
  split
  · exact ⟨[110, 114, 113, 110], 3, by decide, by decide, rfl⟩
  · split
    · exact ⟨[110, 113], 2, by decide, by decide, rfl⟩
    · split
      · exact ⟨[114, 110], 2, by decide, by decide, rfl⟩
      · split
        · exact ⟨[114, 122, 116], 2, by decide, by decide, rfl⟩
        · split
          · exact ⟨[110, 110, 110], 2, by decide, by decide, rfl⟩
          · exact ⟨[110, 113, 116], 2, by decide, by decide, rfl⟩
theorem tag_right (k : Int) : tagB (sTag k) = true := by
  unfold sTag
  split
  · decide
  · split <;> decide
/-- How many segments a table takes at most. -/
theorem tk_most (r : TRow) : ∀ (l : List Seg) (c : Nat), (c : Int) ≤ r.most → ((tk r l c).1 : Int) ≤ r.most := by
  intro l
  induction l with
  | nil => intro c hc; simpa [tk] using hc
  | cons g l ih =>
    intro c hc
    unfold tk
    split
    · exact hc
    · rename_i hm
      split
      · exact hc
      · refine ih (c + 1) ?_
        have : ¬ (c : Int) = r.most := fun e => hm (.inl e)
        omega
theorem tc_most (body : List Seg) : ∀ (rs : List TRow) (a : Nat) (last : ByteArray), (∀ r ∈ rs, 0 ≤ r.most) → (tc body rs a last).2.2 = 0 → body.length ≤ a + (rs.map fun r => r.most.toNat).sum := by
  intro rs
  induction rs with
  | nil =>
    intro a last _ h
    unfold tc at h
    split at h
    · omega
    · split at h <;> simp at h
  | cons r rs ih =>
    intro a last hr h
    unfold tc at h
    split at h
    · simp at h
    · split at h
      · simp at h
      · have h1 := ih _ _ (fun x hx => hr x (List.mem_cons_of_mem _ hx)) h
        have h0 := hr r (List.mem_cons_self ..)
        have h2 := tk_most r (body.drop a) 0 (by omega)
        simp only [List.map_cons, List.sum_cons]
        omega
theorem rows_most {k : Int} (hk : 1 ≤ k ∧ k ≤ 7) : (∀ r ∈ rowsI k, 0 ≤ r.most) ∧ ((rowsI k).map fun r => r.most.toNat).sum ≤ 23 := by
  obtain rfl | rfl | rfl | rfl | rfl | rfl | rfl : k = 1 ∨ k = 2 ∨ k = 3 ∨ k = 4 ∨ k = 5 ∨ k = 6 ∨ k = 7 := by omega
  all_goals exact ⟨by decide, by decide⟩
theorem tcV_most {k : Int} {body : List Seg} (h : (tcV k body).2.2 = 0) : body.length ≤ 23 := by
  obtain ⟨hk, h4, _⟩ := tcV_each h
  unfold tcV at h
  rw [if_neg (by omega), if_pos hk] at h
  have h1 := tc_most body (rowsI k) 0 _ (rows_most hk).1 h
  have h2 := (rows_most hk).2
  omega
theorem body_lines (f : Int → Ln → List ByteArray) (p : Pap) {l : Ln} (h : l ∈ p.lines) : hdS (sTag p.kind) (f p.kind l) ∈ bodyW f p := by
  unfold bodyW
  exact List.mem_cons_of_mem _ (List.mem_append_right _ (List.mem_map.2 ⟨l, h, rfl⟩))
theorem body_doc (f : Int → Ln → List ByteArray) (p : Pap) : hdS sDOC (docW p) ∈ bodyW f p := List.mem_cons_self ..
theorem body_len (f : Int → Ln → List ByteArray) (p : Pap) : (bodyW f p).length = 1 + (p.notes.length + p.lines.length) := by
  unfold bodyW
  simp only [List.length_cons, List.length_append, List.length_map]
  omega
/-- Each segment of a body that the table takes is right. -/
theorem body_right {f : Int → Ln → List ByteArray} {p : Pap} (h : (tcV p.kind (bodyW f p)).2.2 = 0) : ∀ g ∈ bodyW f p, rightG g.1 g.2 = true := by
  intro g hg
  have hg' := hg
  unfold bodyW at hg'
  obtain ⟨ls, m, hf, hl, _⟩ := formF_D p.kind
  obtain ⟨ls', m', hf', hl', _⟩ := formF_K p.kind
  rcases List.mem_cons.1 hg' with rfl | hg'
  · have q := doc_taken h hg
    exact right_hd (show tagB sDOC = true by decide) (by have := (form_words hf q).2.1; omega) (form_parts hf q)
  · rcases List.mem_append.1 hg' with hg' | hg'
    · obtain ⟨t, _, rfl⟩ := List.mem_map.1 hg'
      have q := not_taken h hg
      exact right_hd (show tagB sNOT = true by decide) (by simp) (form_parts (f := [116]) (ls := [116]) (m := 1) (by decide) q)
    · obtain ⟨l, _, rfl⟩ := List.mem_map.1 hg'
      have q := lin_taken h hg
      exact right_hd (tag_right p.kind) (by have := (form_words hf' q).2.1; omega) (form_parts hf' q)
theorem wordsS_eq {k : Int} {l : Ln} (h : k = 3 → l.note = eT) : wordsS k l = wordsI k l := by
  unfold wordsS
  split
  · rename_i hk
    rw [h hk, optT_eT, hk]
    rfl
  · rfl
theorem lnS_eq {k : Int} {l : Ln} (h : k = 3 → l.note = eT) : lnS k l = lnI k l := by
  unfold lnS
  split
  · rename_i hk
    rw [h hk, hk]
    rfl
  · rfl
theorem body_eq {p : Pap} (h : p.kind = 3 → ∀ l ∈ p.lines, l.note = eT) : bodyW wordsS p = bodyW wordsI p := by
  unfold bodyW
  congr 2
  apply List.map_congr_left
  intro l hl
  unfold lineG
  rw [wordsS_eq fun hk => h hk l hl]
theorem lines_eq {p : Pap} (h : p.kind = 3 → ∀ l ∈ p.lines, l.note = eT) : p.lines.map (lnS p.kind) = p.lines.map (lnI p.kind) := by
  apply List.map_congr_left
  intro l hl
  exact lnS_eq fun hk => h hk l hl
theorem rdP_eq {p : Pap} (h : p.kind = 3 → ∀ l ∈ p.lines, l.note = eT) : rdP lnS p = rdP lnI p := by
  unfold rdP
  rw [lines_eq h]
theorem note3 {p : Pap} (h : (tcV p.kind (bodyW wordsS p)).2.2 = 0) : p.kind = 3 → ∀ l ∈ p.lines, l.note = eT := by
  intro hk l hl
  have q := lin_taken h (body_lines wordsS p hl)
  rw [hk] at q
  have q2 := (form_words (f := [110, 113]) (ls := [110, 113]) (m := 2) (by decide) q).2.1
  apply optT_nil
  apply List.eq_nil_of_length_eq_zero
  have e : wordsS 3 l = [decS l.no, decS l.qty] ++ optT l.note := rfl
  rw [e, List.length_append] at q2
  simp only [List.length_cons, List.length_nil] at q2
  omega
theorem note3I {p : Pap} (h : rdP lnI p = p) : p.kind = 3 → ∀ l ∈ p.lines, l.note = eT := by
  intro hk l hl
  have e : p.lines.map (lnI p.kind) = p.lines := congrArg Pap.lines h
  rw [← e] at hl
  obtain ⟨m, _, rfl⟩ := List.mem_map.1 hl
  rw [hk]
  rfl
theorem papOk_iff (p : Pap) : PapOk p ↔ PapOkS p := by
  constructor
  · intro h
    have h3 := note3I h.sm
    have eb := body_eq h3
    have hl := tcV_most h.tb
    refine ⟨?_, h.ln, ?_, by rw [eb]; exact h.tb, by rw [lines_eq h3]; exact h.pl, by rw [rdP_eq h3]; exact h.sm⟩
    · rw [body_len] at hl
      omega
    · rw [eb]
      exact body_right h.tb
  · intro h
    have h3 := note3 h.tb
    have eb := body_eq h3
    exact ⟨(tcV_each h.tb).1, h.ln, by rw [← eb]; exact h.tb, by rw [← lines_eq h3]; exact h.pl, by rw [← rdP_eq h3]; exact h.sm⟩
end Go.Proofs.YtkaolpnbddjdpaaGreatDoor
