/- Texts of ours put together: ItV. -/
import Derived.Test.YtkgkahlhekecmaaGreatG33
import Derived.Deep.RegionHeld3
import Derived.Deep.Cut
import Derived.Deep.CutRange
namespace Go.Proofs.YtkgkahlhekecmaaGreat
open Go.ChangeShapes Go.WideShapes Go.ChangeAt Go.RowKit
theorem undrew {a b : World} (h : Below a.drew.heap.size a.drew b) : Below a.heap.size a b := (Below.refl _ _).drew.trans h
theorem fl_four (w : World) (a b c d : Obj) : ((((w.alloc a).alloc b).alloc c).alloc d).heap[w.heap.size]? = some a ∧ ((((w.alloc a).alloc b).alloc c).alloc d).heap[w.heap.size + 1]? = some b ∧ ((((w.alloc a).alloc b).alloc c).alloc d).heap[w.heap.size + 2]? = some c ∧ ((((w.alloc a).alloc b).alloc c).alloc d).heap[w.heap.size + 3]? = some d := by
  have e : ((((w.alloc a).alloc b).alloc c).alloc d).heap = (((w.heap.push a).push b).push c).push d := rfl
  rw [e]
  simp only [Array.getElem?_push, Array.size_push]
  refine ⟨?_, ?_, ?_, ?_⟩
  · rw [if_neg (by omega), if_neg (by omega), if_neg (by omega), if_pos trivial]
  · rw [if_neg (by omega), if_neg (by omega), if_pos trivial]
  · rw [if_neg (by omega), if_pos trivial]
  · rw [if_pos trivial]
theorem zeroCross (w : World) : (zeroValue 106).run Tryz.prog w = .ok (cv ⟨⟨#[]⟩, ⟨#[]⟩, ⟨#[]⟩⟩) w := by kernel_rfl
theorem MC.look_at {w : World} {b : Nat} {kf : Crs → ByteArray × ByteArray} {l : List Crs} (h : MC w b kf l) (hp : l.Pairwise fun a b => kf a ≠ kf b) {k : ByteArray × ByteArray} (hk : KS k) :
    (Instr.lookup 153 (.map (some b)) (kv k) true).run Tryz.prog w = .ok (.tuple #[cv ((atK kf k l).getD ⟨⟨#[]⟩, ⟨#[]⟩, ⟨#[]⟩⟩), .bool (atK kf k l).isSome]) w := by
  rcases h.look hk (zeroCross w) with ⟨h1, h2⟩ | ⟨c, hc, rfl, h1⟩
  · rw [h1, atK_none h2]
    rfl
  · rw [h1, atK_some hp hc]
    rfl
/-- The boxes of crossWaysOf ahead of place k, and its maps. -/
structure QX (w W : World) (rs : List Crs) (k : Nat) (q : ByteArray × ByteArray) : Prop where
  bel : Below w.heap.size w W
  rb : W.heap[w.heap.size]? = some (.cells #[.map none, .map none] 155)
  wb : W.heap[w.heap.size + 3]? = some (.cells #[.map (some (w.heap.size + 1)), .map (some (w.heap.size + 2))] 155)
  lb : W.heap[w.heap.size + 4]? = some (.cells #[.string q.1, .string q.2] 180)
  m1 : MC W (w.heap.size + 1) thK (rs.take k)
  m2 : MC W (w.heap.size + 2) owK (rs.take k)
theorem QX.below {w W W' : World} {rs : List Crs} {k : Nat} {q : ByteArray × ByteArray} (h : QX w W rs k q) (hb : Below W.heap.size W W') : QX w W' rs k q :=
  ⟨h.bel.trans (hb.mono h.bel.size), (hb.block _ (Array.getElem?_eq_some_iff.1 h.rb).1).trans h.rb, (hb.block _ (Array.getElem?_eq_some_iff.1 h.wb).1).trans h.wb, (hb.block _ (Array.getElem?_eq_some_iff.1 h.lb).1).trans h.lb, h.m1.below hb, h.m2.below hb⟩
theorem QX.lt {w W : World} {rs : List Crs} {k : Nat} {q : ByteArray × ByteArray} (h : QX w W rs k q) : w.heap.size + 4 < W.heap.size := (Array.getElem?_eq_some_iff.1 h.lb).1
theorem QX.cells {w W : World} {rs : List Crs} {k : Nat} {q : ByteArray × ByteArray} (h : QX w W rs k q) : (W.cell? ⟨w.heap.size, 0, none⟩ = some (.map none) ∧ W.cell? ⟨w.heap.size, 1, none⟩ = some (.map none) ∧ ∀ o, W.frozen? ⟨w.heap.size, o, none⟩ = false) ∧ (W.cell? ⟨w.heap.size + 3, 0, none⟩ = some (.map (some (w.heap.size + 1))) ∧ W.cell? ⟨w.heap.size + 3, 1, none⟩ = some (.map (some (w.heap.size + 2)))) ∧ W.cell? ⟨w.heap.size + 4, 0, none⟩ = some (.string q.1) ∧ W.cell? ⟨w.heap.size + 4, 1, none⟩ = some (.string q.2) ∧ ∀ o, W.frozen? ⟨w.heap.size + 4, o, none⟩ = false := by
  have h1 := h.rb
  have h2 := h.wb
  have h3 := h.lb
  refine ⟨⟨?_, ?_, fun o => ?_⟩, ⟨?_, ?_⟩, ?_, ?_, fun o => ?_⟩ <;> simp [World.cell?, World.frozen?, h1, h2, h3]
/-- .. with the boxes of the cross at place k and of its key. -/
structure QY (w W : World) (rs : List Crs) (k : Nat) (q : ByteArray × ByteArray) (C K : Nat) (c : Crs) : Prop where
  x : QX w W rs k q
  cb : W.heap[C]? = some (.cells #[.string c.partner, .string c.theirs, .string c.own] 106)
  kb : W.heap[K]? = some (.cells #[.string c.partner, .string c.theirs] 180)
  lc : w.heap.size + 4 < C
  lk : w.heap.size + 4 < K
theorem QY.below {w W W' : World} {rs : List Crs} {k : Nat} {q : ByteArray × ByteArray} {C K : Nat} {c : Crs} (h : QY w W rs k q C K c) (hb : Below W.heap.size W W') : QY w W' rs k q C K c :=
  ⟨h.x.below hb, (hb.block _ (Array.getElem?_eq_some_iff.1 h.cb).1).trans h.cb, (hb.block _ (Array.getElem?_eq_some_iff.1 h.kb).1).trans h.kb, h.lc, h.lk⟩
theorem QY.cells {w W : World} {rs : List Crs} {k : Nat} {q : ByteArray × ByteArray} {C K : Nat} {c : Crs} (h : QY w W rs k q C K c) : (W.cell? ⟨C, 0, none⟩ = some (.string c.partner) ∧ W.cell? ⟨C, 1, none⟩ = some (.string c.theirs) ∧ W.cell? ⟨C, 2, none⟩ = some (.string c.own)) ∧ W.cell? ⟨K, 0, none⟩ = some (.string c.partner) ∧ W.cell? ⟨K, 1, none⟩ = some (.string c.theirs) := by
  have h1 := h.cb
  have h2 := h.kb
  refine ⟨⟨?_, ?_, ?_⟩, ?_, ?_⟩ <;> simp [World.cell?, h1, h2]
theorem set3_below {w1 w3 : World} {o : Obj} (hb : Below (w1.alloc o).heap.size (w1.alloc o) w3) (x y z : Value) : Below w1.heap.size w1 (((w3.setCell ⟨w1.heap.size, 0, none⟩ x).setCell ⟨w1.heap.size, 1, none⟩ y).setCell ⟨w1.heap.size, 2, none⟩ z) :=
  ((((((Below.refl _ _).alloc (Nat.le_refl _) _).trans (hb.mono (by simp))).setCell (Nat.le_refl _) _).setCell (Nat.le_refl _) _).setCell (Nat.le_refl _) _)
theorem kp3 {W : World} {b o U : Nat} {v : Value} (h : W.cell? ⟨b, o, none⟩ = some v) (hne : b ≠ U) (x y z : Value) : (((W.setCell ⟨U, 0, none⟩ x).setCell ⟨U, 1, none⟩ y).setCell ⟨U, 2, none⟩ z).cell? ⟨b, o, none⟩ = some v := by
  rw [World.cell?_setCell_other _ _ _ _ (by simp), World.cell?_setCell_other _ _ _ _ (by simp), World.cell?_setCell_other _ _ _ _ (by simp)]
  exact h
theorem set2_ne {W : World} {D j : Nat} (hj : j ≠ D) (x y : Value) : ((W.setCell ⟨D, 0, none⟩ x).setCell ⟨D, 1, none⟩ y).heap[j]? = W.heap[j]? := by
  rw [Below.heap_setCell _ _ _ _ (show j ≠ D from hj), Below.heap_setCell _ _ _ _ (show j ≠ D from hj)]
theorem set2_at {W : World} {D t : Nat} {x y x' y' : Value} (h : W.heap[D]? = some (.cells #[x, y] t)) : ((W.setCell ⟨D, 0, none⟩ x').setCell ⟨D, 1, none⟩ y').heap[D]? = some (.cells #[x', y'] t) := by
  simp [World.setCell, Array.getElem?_modify, h]
theorem take_put {rs : List Crs} {k : Nat} {c : Crs} (kf : Crs → ByteArray × ByteArray) (hc : rs[k]? = some c) (h : ∀ j d, j < k → rs[j]? = some d → kf d ≠ kf c) : putC kf c (rs.take k) = rs.take (k + 1) := by
  rw [putC_new, List.take_add_one, hc]
  · rfl
  · intro d hd
    obtain ⟨j, hj⟩ := List.getElem?_of_mem hd
    have hjk : j < k := by
      have := (List.getElem?_eq_some_iff.1 hj).1
      rw [List.length_take] at this
      omega
    rw [List.getElem?_take_of_lt hjk] at hj
    exact h j d hjk hj
/-- One place further. -/
theorem QX.next {w W W' : World} {rs : List Crs} {k : Nat} {q : ByteArray × ByteArray} {c : Crs} (h : QX w W rs k q) (hc : rs[k]? = some c) (hok : ∀ i d, i ≤ k → rs[i]? = some d → OkAt rs i d) (hk : KeepM (w.heap.size + 1) (w.heap.size + 2) W W') (m1 : MC W' (w.heap.size + 1) thK (putC thK c (rs.take k))) (m2 : MC W' (w.heap.size + 2) owK (putC owK c (rs.take k))) :
    QX w ((W'.setCell ⟨w.heap.size + 4, 0, none⟩ (.string c.partner)).setCell ⟨w.heap.size + 4, 1, none⟩ (.string c.theirs)) rs (k + 1) (thK c) := by
  have hl := h.lt
  have hb : Below w.heap.size w W' := h.bel.trans (hk.below (by omega) (by omega) h.bel.size)
  rw [take_put thK hc fun j d hj hd => befB_key (rise_all (k := k) (fun i c hi => hok i c hi) j d c hj hd hc)] at m1
  rw [take_put owK hc (hok k c (Nat.le_refl _) hc).once] at m2
  refine ⟨(hb.setCell (show w.heap.size ≤ w.heap.size + 4 by omega) _).setCell (show w.heap.size ≤ w.heap.size + 4 by omega) _, ?_, ?_, ?_, ?_, ?_⟩
  · rw [set2_ne (by omega)]
    exact (hk.block _ (by omega) (by omega) (by omega)).trans h.rb
  · rw [set2_ne (by omega)]
    exact (hk.block _ (by omega) (by omega) (by omega)).trans h.wb
  · exact set2_at ((hk.block _ (by omega) (by omega) (by omega)).trans h.lb)
  · exact m1.of_block (set2_ne (by omega) _ _)
  · exact m2.of_block (set2_ne (by omega) _ _)
set_option maxHeartbeats 8000000 in
theorem ways_any (v : Value) (rs : List Crs) (w : World) (h : RowCs w v rs) : Calls Tryz.prog 100 #[v] w fun e w' => ∃ b1 b2, e = .returned (.tuple #[.agg #[.map (some b1), .map (some b2)], .bool (rightB rs)]) ∧ w.heap.size ≤ b1 ∧ w.heap.size ≤ b2 ∧ b1 ≠ b2 ∧ Below w.heap.size w w' ∧ (rightB rs = true → MC w' b1 thK rs ∧ MC w' b2 owK rs) := by
  have hlen := h.len
  obtain ⟨A, Cp, rfl⟩ := h.val
  have hmm := @run_makeMap Tryz.prog
  have H0 : Hid (RowCs w (.slice A rs.length Cp) rs) := h
  clear h
  obtain ⟨W0, hW0⟩ : ∃ W0, ((((w.alloc (.cells #[.map none, .map none] 155)).alloc (.map #[] 0)).alloc (.map #[] 0)).alloc (.cells #[.map (some (w.heap.size + 1)), .map (some (w.heap.size + 2))] 155)) = W0 := ⟨_, rfl⟩
  have hb0 : Below w.heap.size w W0 := by rw [← hW0]; exact ((((Below.refl _ _).alloc (Nat.le_refl _) _).alloc (by simp) _).alloc (by simp; omega) _).alloc (by simp; omega) _
  obtain ⟨k0, k1, k2, k3⟩ := fl_four w (.cells #[.map none, .map none] 155) (.map #[] 0) (.map #[] 0) (.cells #[.map (some (w.heap.size + 1)), .map (some (w.heap.size + 2))] 155)
  rw [hW0] at k0 k1 k2 k3
  have hs0 : W0.heap.size = w.heap.size + 4 := by rw [← hW0]; simp
  go_enter Tryz.func100, Tryz.ntmps100
  go_upto_region 2 with fail
  try rw [hW0]
  clear hW0 hmm
  have z0 : W0.cell? ⟨w.heap.size, 0, none⟩ = some (.map none) := by simp [World.cell?, k0]
  have z1 : W0.cell? ⟨w.heap.size, 1, none⟩ = some (.map none) := by simp [World.cell?, k0]
  have zf : ∀ o, W0.frozen? ⟨w.heap.size, o, none⟩ = false := fun o => by simp [World.frozen?, k0]
  have x0 : W0.cell? ⟨w.heap.size + 3, 0, none⟩ = some (.map (some (w.heap.size + 1))) := by simp [World.cell?, k3]
  have x1 : W0.cell? ⟨w.heap.size + 3, 1, none⟩ = some (.map (some (w.heap.size + 2))) := by simp [World.cell?, k3]
  have HQ0 : Hid (Below w.heap.size w W0 ∧ QX w (W0.alloc (.cells #[.string ⟨#[]⟩, .string ⟨#[]⟩] 180)) rs 0 (⟨#[]⟩, ⟨#[]⟩)) := by
    refine ⟨hb0, ?_⟩
    have ha : Below W0.heap.size W0 (W0.alloc (.cells #[.string ⟨#[]⟩, .string ⟨#[]⟩] 180)) := (Below.refl _ _).alloc (Nat.le_refl _) _
    refine ⟨hb0.trans (ha.mono hb0.size), (ha.block _ (by omega)).trans k0, (ha.block _ (by omega)).trans k3, ?_, ?_, ?_⟩
    · rw [← hs0]
      exact World.alloc_heap_new _ _
    · exact MC.nil thK ((ha.block _ (by omega)).trans k1)
    · exact MC.nil owK ((ha.block _ (by omega)).trans k2)
  clear hb0 k0 k1 k2 k3
  by_cases hl : 200 < rs.length
  · have hl' : (200 : Int) < (rs.length : Int) := by omega
    have HN : Hid (rightB rs = false) := rightB_no fun h => by have := h.len; omega
    go_wp2
    refine bodyPost_ret (v := .tuple #[.agg #[.map (some (w.heap.size + 1)), .map (some (w.heap.size + 2))], .bool false]) (by simp [results, Tryz.results100, go_sem, z0, z1]) rfl ⟨w.heap.size + 1, w.heap.size + 2, by rw [HN.out], by omega, by omega, by omega, (HQ0.out.1.setCell (Nat.le_refl _) _).setCell (Nat.le_refl _) _, fun e => by rw [HN.out] at e; cases e⟩
  have hl' : ¬ (200 : Int) < (rs.length : Int) := by omega
  go_wp2_with fail
  clear z0 z1 zf x0 x1
  go_loopw [21] (fun i wr => ∃ (k : Nat) (q : ByteArray × ByteArray), i = .int .i64 (k : Int) ∧ k ≤ rs.length ∧ QX w wr rs k q ∧ (∀ i c, i < k → rs[i]? = some c → OkAt rs i c) ∧ (k = 0 → q = (⟨#[]⟩, ⟨#[]⟩)) ∧ ∀ d, 0 < k → rs[k - 1]? = some d → q = thK d) (fun i _ => rs.length - (intOf i).toNat)
  case atStart => exact ⟨0, (⟨#[]⟩, ⟨#[]⟩), rfl, by omega, HQ0.out.2, fun i c hi => by omega, fun _ => rfl, fun d hd => by omega⟩
  case round =>
    obtain ⟨k, q, rfl, hk, hq, hok⟩ := hrel
    have HI : Hid (QX w wr rs k q ∧ (∀ i c, i < k → rs[i]? = some c → OkAt rs i c) ∧ (k = 0 → q = (⟨#[]⟩, ⟨#[]⟩)) ∧ ∀ d, 0 < k → rs[k - 1]? = some d → q = thK d) := ⟨hq, hok⟩
    clear hok
    by_cases hlt : k < rs.length
    · have hlt' : (k : Int) < (rs.length : Int) := by omega
      obtain ⟨b, o, cap', c, e, hs, ⟨q0, q1, q2⟩, hz⟩ := (H0.out.below hq.bel).at hlt
      simp only [Value.slice.injEq, true_and] at e
      obtain ⟨rfl, rfl⟩ := e
      have HS : Hid (rs[k]? = some c ∧ KS (thK c) ∧ KS (owK c)) := ⟨hs, ⟨hz.1, hz.2.1⟩, hz.1, hz.2.2⟩
      clear hs hz hq
      go_wp2_with fail
      refine (theirKey_any c _).mono ?_
      rintro e w2 ⟨rfl, hb2⟩
      have h1b : Below wr.heap.size wr (wr.alloc (.cells #[.string c.partner, .string c.theirs, .string c.own] 106)) := (Below.refl _ _).alloc (Nat.le_refl _) _
      have h2b : Below w2.heap.size w2 (w2.alloc (.cells #[.string c.partner, .string c.theirs] 180)) := (Below.refl _ _).alloc (Nat.le_refl _) _
      have hl4 := HI.out.1.lt
      have hs2 := hb2.size
      simp only [World.size_alloc] at hs2
      have qy : QY w (w2.alloc (.cells #[.string c.partner, .string c.theirs] 180)) rs k q wr.heap.size w2.heap.size c :=
        ⟨((HI.out.1.below h1b).below hb2).below h2b, (h2b.block _ (by omega)).trans ((hb2.block _ (by simp)).trans (World.alloc_heap_new _ _)), World.alloc_heap_new _ _, hl4, by omega⟩
      obtain ⟨C, hC⟩ : ∃ C, C = wr.heap.size := ⟨_, rfl⟩
      obtain ⟨K, hK⟩ : ∃ K, K = w2.heap.size := ⟨_, rfl⟩
      obtain ⟨W3, hW3⟩ : ∃ W3, w2.alloc (.cells #[.string c.partner, .string c.theirs] 180) = W3 := ⟨_, rfl⟩
      rw [hW3, ← hC, ← hK] at qy
      clear h1b h2b hl4 hs2 hb2 q0 q1 q2
      go_upto_region 9 with fail
      try rw [hW3]
      try rw [← hC]
      try rw [← hK]
      clear hW3 hC hK
      obtain ⟨tw, xo, htw⟩ : ∃ (tw : Bool) (xo : Crs), tw = (atK owK (owK c) (rs.take k)).isSome ∧ xo = (atK owK (owK c) (rs.take k)).getD ⟨⟨#[]⟩, ⟨#[]⟩, ⟨#[]⟩⟩ := ⟨_, _, rfl, rfl⟩
      have hLook : ∀ W, QY w W rs k q C K c → (Instr.lookup 153 (.map (some (w.heap.size + 2))) (.agg #[.string c.partner, .string c.own]) true).run Tryz.prog W = .ok (.tuple #[.agg #[.string xo.partner, .string xo.theirs, .string xo.own], .bool tw]) W := fun W hW => by
        have hp : (rs.take k).Pairwise fun a b => owK a ≠ owK b := by
          rw [List.pairwise_iff_getElem]
          intro i j hi hj hij
          simp only [List.length_take] at hi hj
          have e1 : rs[i]? = some (rs.take k)[i] := by rw [List.getElem_take]; exact List.getElem?_eq_getElem _
          have e2 : rs[j]? = some (rs.take k)[j] := by rw [List.getElem_take]; exact List.getElem?_eq_getElem _
          exact (HI.out.2.1 j _ (by omega) e2).once i _ hij e1
        have := hW.x.m2.look_at hp (k := owK c) HS.out.2.2
        rw [htw.1, htw.2]
        exact this
      have HL : Hid (tw = (atK owK (owK c) (rs.take k)).isSome ∧ ∀ W, QY w W rs k q C K c → (Instr.lookup 153 (.map (some (w.heap.size + 2))) (.agg #[.string c.partner, .string c.own]) true).run Tryz.prog W = .ok (.tuple #[.agg #[.string xo.partner, .string xo.theirs, .string xo.own], .bool tw]) W) := ⟨htw.1, hLook⟩
      have HY : Hid (QY w W3 rs k q C K c) := qy
      obtain ⟨⟨c0, c1, c2⟩, y0, y1⟩ := qy.cells
      obtain ⟨_, ⟨x0, x1⟩, _⟩ := qy.x.cells
      clear htw hLook
      go_cut [9, 10] from 27 to 34 (fun u t wx => t = .bool tw ∧ QY w wx rs k q C K c)
      case first =>
        have qa : QY w W3.drew rs k q C K c := qy.below (Below.refl _ _).drew
        have qb : QY w (W3.alloc (.cells #[.string ⟨#[]⟩, .string ⟨#[]⟩, .string ⟨#[]⟩] 106)).drew rs k q C K c := qy.below ((Below.refl _ _).alloc (Nat.le_refl _) _).drew
        have HQ4 : Hid (QY w W3.drew rs k q C K c ∧ QY w (W3.alloc (.cells #[.string ⟨#[]⟩, .string ⟨#[]⟩, .string ⟨#[]⟩] 106)).drew rs k q C K c) := ⟨qa, qb⟩
        have hlw : w.heap.size + 3 ≠ W3.heap.size := by have := qy.x.lt; omega
        have hlc : C ≠ W3.heap.size := by have := (Array.getElem?_eq_some_iff.1 qy.cb).1; omega
        clear qa qb qy
        go_region_held3 (fun W => W.cell? ⟨w.heap.size + 3, 1, none⟩ = some (.map (some (w.heap.size + 2))) ∧ W.cell? ⟨C, 0, none⟩ = some (.string c.partner) ∧ W.cell? ⟨C, 1, none⟩ = some (.string c.theirs) ∧ W.cell? ⟨C, 2, none⟩ = some (.string c.own)) (first | go_keep | exact ⟨kp3 v0 hlw _ _ _, kp3 v1 hlc _ _ _, kp3 v2 hlc _ _ _, kp3 v3 hlc _ _ _⟩) (first | (go_at_call 130; refine (ownKey_any c _).mono ?_; rintro e w4 ⟨rfl, hb4⟩; have q4 : QY w w4 rs k q C K c := (by with_reducible first | exact HQ4.out.1.below hb4 | exact HQ4.out.2.below hb4); obtain ⟨⟨v1, v2, v3⟩, _⟩ := q4.cells; obtain ⟨_, ⟨_, v0⟩, _⟩ := q4.x.cells; have L4 := HL.out.2 _ q4; have L5 := HL.out.2 _ (q4.below ((Below.refl _ _).alloc (Nat.le_refl _) (.cells #[.string ⟨#[]⟩, .string ⟨#[]⟩, .string ⟨#[]⟩] 106))); clear q4; try (have hbx : w4.heap[W3.heap.size]? = some (.cells #[.string ⟨#[]⟩, .string ⟨#[]⟩, .string ⟨#[]⟩] 106) := (hb4.block W3.heap.size (by simp)).trans (World.alloc_heap_new _ _); have k0 : w4.cell? ⟨W3.heap.size, 0, none⟩ = some (.string ⟨#[]⟩) := (by simp [World.cell?, hbx]); have k1 : w4.cell? ⟨W3.heap.size, 1, none⟩ = some (.string ⟨#[]⟩) := (by simp [World.cell?, hbx]); have k2 : w4.cell? ⟨W3.heap.size, 2, none⟩ = some (.string ⟨#[]⟩) := (by simp [World.cell?, hbx]); have kz : ∀ o, w4.frozen? ⟨W3.heap.size, o, none⟩ = false := (fun o => by simp [World.frozen?, hbx]))))
        all_goals (go_wp2_with fail; go_meet)
        all_goals first | (have _h := hbx; exact ⟨rfl, HY.out.below (set3_below (undrew hb4) _ _ _)⟩) | exact ⟨rfl, (HY.out.below (undrew hb4)).below ((Below.refl _ _).alloc (Nat.le_refl _) _)⟩
      case rest =>
        obtain ⟨rfl, hqy⟩ := hcut
        rename World => w5
        clear c0 c1 c2 y0 y1 x0 x1 qy HY
        have H5 : Hid (QY w w5 rs k q C K c) := hqy
        obtain ⟨⟨c0, c1, c2⟩, y0, y1⟩ := hqy.cells
        clear hqy
        go_wp2_with fail
        refine (isCross_any c _).mono ?_
        rintro e w6 ⟨rfl, hb6⟩
        have q6 := H5.out.below hb6
        clear hb6 H5 c0 c1 c2 y0 y1
        cases hcr : crsB c
        · have HN : Hid (rightB rs = false) := rightB_no fun h => by have := (h.ok k c HS.out.1).names; rw [hcr] at this; cases this
          have HB : Hid (Below w.heap.size w w6) := q6.x.bel
          obtain ⟨⟨r0, r1, rf⟩, ⟨x0, x1⟩, _⟩ := q6.x.cells
          clear q6
          go_wp2
          exact bodyPost_ret (v := .tuple #[.agg #[.map (some (w.heap.size + 1)), .map (some (w.heap.size + 2))], .bool false]) (by simp [results, Tryz.results100, go_sem, r0, r1]) rfl ⟨w.heap.size + 1, w.heap.size + 2, by rw [HN.out], by omega, by omega, by omega, (HB.out.setCell (Nat.le_refl _) _).setCell (Nat.le_refl _) _, fun e => by rw [HN.out] at e; cases e⟩
        obtain ⟨_, ⟨x0, x1⟩, l0, l1, lf⟩ := q6.x.cells
        obtain ⟨⟨c0, c1, c2⟩, y0, y1⟩ := q6.cells
        have H6 : Hid (QY w w6 rs k q C K c) := q6
        clear q6
        go_wp2_with fail
        refine (kcmp_any (thK c) q _).mono ?_
        rintro e w7 ⟨rfl, hb7⟩
        have q7 := H6.out.below hb7
        clear hb7 H6 c0 c1 c2 y0 y1 x0 x1 l0 l1 lf
        by_cases hcm : kcmp (thK c) q ≤ 0
        · have HN : Hid (rightB rs = false) := rightB_no fun h => by
            have h1 := h.ok k c HS.out.1
            rcases Nat.eq_zero_or_pos k with e | e
            · rw [HI.out.2.2.1 e] at hcm
              have hn := h1.names
              simp only [crsB, Bool.and_eq_true] at hn
              have := kcmp_first hn.1
              omega
            · have hk1 : k - 1 < rs.length := by omega
              have hd := List.getElem?_eq_getElem hk1
              rw [HI.out.2.2.2 _ e hd] at hcm
              have := (kcmp_pos c _).2 (h1.rise _ e hd)
              omega
          have HB : Hid (Below w.heap.size w w7) := q7.x.bel
          obtain ⟨⟨r0, r1, rf⟩, ⟨x0, x1⟩, _⟩ := q7.x.cells
          clear q7
          go_wp2
          exact bodyPost_ret (v := .tuple #[.agg #[.map (some (w.heap.size + 1)), .map (some (w.heap.size + 2))], .bool false]) (by simp [results, Tryz.results100, go_sem, r0, r1]) rfl ⟨w.heap.size + 1, w.heap.size + 2, by rw [HN.out], by omega, by omega, by omega, (HB.out.setCell (Nat.le_refl _) _).setCell (Nat.le_refl _) _, fun e => by rw [HN.out] at e; cases e⟩
        cases tw with
        | true =>
          have HN : Hid (rightB rs = false) := rightB_no fun h => by
            obtain ⟨d, hd⟩ := Option.isSome_iff_exists.1 HL.out.1.symm
            have hm := List.mem_of_find?_eq_some hd
            have he : owK d = owK c := by simpa using List.find?_some hd
            obtain ⟨j, hj⟩ := List.getElem?_of_mem hm
            have hjk : j < k := by
              have := (List.getElem?_eq_some_iff.1 hj).1
              rw [List.length_take] at this
              omega
            rw [List.getElem?_take_of_lt hjk] at hj
            exact (h.ok k c HS.out.1).once j d hjk hj he
          have HB : Hid (Below w.heap.size w w7) := q7.x.bel
          obtain ⟨⟨r0, r1, rf⟩, ⟨x0, x1⟩, _⟩ := q7.x.cells
          clear q7
          go_wp2
          exact bodyPost_ret (v := .tuple #[.agg #[.map (some (w.heap.size + 1)), .map (some (w.heap.size + 2))], .bool false]) (by simp [results, Tryz.results100, go_sem, r0, r1]) rfl ⟨w.heap.size + 1, w.heap.size + 2, by rw [HN.out], by omega, by omega, by omega, (HB.out.setCell (Nat.le_refl _) _).setCell (Nat.le_refl _) _, fun e => by rw [HN.out] at e; cases e⟩
        | false =>
          have HO : Hid (OkAt rs k c) := by
            refine ⟨hcr, fun d hk0 hd => ?_, fun j d hjk hd he => ?_⟩
            · rw [HI.out.2.2.2 d hk0 hd] at hcm
              exact (kcmp_pos c d).1 (by omega)
            · have hm : d ∈ rs.take k := List.mem_of_getElem? ((List.getElem?_take_of_lt hjk).trans hd)
              have h1 := HL.out.1
              cases ha : atK owK (owK c) (rs.take k) with
              | some y => rw [ha] at h1; cases h1
              | none =>
                have := List.find?_eq_none.1 ha d hm
                simp [he] at this
          obtain ⟨_, ⟨x0, x1⟩, _⟩ := q7.x.cells
          obtain ⟨⟨c0, c1, c2⟩, _⟩ := q7.cells
          have H7 : Hid (QY w w7 rs k q C K c) := q7
          clear q7
          go_wp2_with fail
          refine (put_any (w.heap.size + 1) (w.heap.size + 2) c _ _ _ H7.out.x.m1 H7.out.x.m2 (by omega) HS.out.2.1 HS.out.2.2).mono ?_
          rintro e w8 ⟨rfl, m1, m2, hk8⟩
          have hall : ∀ i d, i ≤ k → rs[i]? = some d → OkAt rs i d := fun i d hi hd => by
            rcases Nat.lt_or_ge i k with g | g
            · exact HI.out.2.1 i d g hd
            · obtain rfl : i = k := by omega
              rw [HS.out.1] at hd
              cases hd
              exact HO.out
          have H9 : Hid (QX w ((w8.setCell ⟨w.heap.size + 4, 0, none⟩ (.string c.partner)).setCell ⟨w.heap.size + 4, 1, none⟩ (.string c.theirs)) rs (k + 1) (thK c) ∧ ∀ i d, i ≤ k → rs[i]? = some d → OkAt rs i d) := ⟨H7.out.x.next HS.out.1 hall hk8 m1 m2, hall⟩
          have hkb := (hk8.block K (Array.getElem?_eq_some_iff.1 H7.out.kb).1 (by have := H7.out.lk; omega) (by have := H7.out.lk; omega)).trans H7.out.kb
          have hlb := (hk8.block (w.heap.size + 4) (by have := H7.out.x.lt; omega) (by omega) (by omega)).trans H7.out.x.lb
          have y0 : w8.cell? ⟨K, 0, none⟩ = some (.string c.partner) := by simp [World.cell?, hkb]
          have y1 : w8.cell? ⟨K, 1, none⟩ = some (.string c.theirs) := by simp [World.cell?, hkb]
          have l0 : w8.cell? ⟨w.heap.size + 4, 0, none⟩ = some (.string q.1) := by simp [World.cell?, hlb]
          have l1 : w8.cell? ⟨w.heap.size + 4, 1, none⟩ = some (.string q.2) := by simp [World.cell?, hlb]
          have lf : ∀ o, w8.frozen? ⟨w.heap.size + 4, o, none⟩ = false := fun o => by simp [World.frozen?, hlb]
          clear hall m1 m2 hk8 hkb hlb c0 c1 c2 x0 x1
          go_wp2
          go_roundw
          case rel =>
            refine ⟨k + 1, thK c, by go_num, by omega, H9.out.1, fun i d hi => H9.out.2 i d (by omega), fun e => by omega, fun d _ hd => ?_⟩
            rw [show k + 1 - 1 = k by omega, HS.out.1] at hd
            cases hd
            rfl
          case measure => simp [intOf]; omega
    · obtain rfl : k = rs.length := by omega
      have HN : Hid (rightB rs = true) := rightB_yes ⟨by omega, fun i c hc => HI.out.2.1 i c (List.getElem?_eq_some_iff.1 hc).1 hc⟩
      have HB : Hid (Below w.heap.size w wr ∧ MC wr (w.heap.size + 1) thK rs ∧ MC wr (w.heap.size + 2) owK rs) := by
        have h1 := hq.m1
        have h2 := hq.m2
        rw [List.take_length] at h1 h2
        exact ⟨hq.bel, h1, h2⟩
      obtain ⟨⟨r0, r1, rf⟩, ⟨x0, x1⟩, _⟩ := hq.cells
      clear hq
      go_wp2
      exact bodyPost_ret (v := .tuple #[.agg #[.map (some (w.heap.size + 1)), .map (some (w.heap.size + 2))], .bool true]) (by simp [results, Tryz.results100, go_sem, r0, r1]) rfl ⟨w.heap.size + 1, w.heap.size + 2, by rw [HN.out], by omega, by omega, by omega, (HB.out.1.setCell (Nat.le_refl _) _).setCell (Nat.le_refl _) _, fun _ => ⟨HB.out.2.1.of_block (set2_ne (by omega) _ _), HB.out.2.2.of_block (set2_ne (by omega) _ _)⟩⟩
end Go.Proofs.YtkgkahlhekecmaaGreat
