/- Texts of ours put together: IxOf. -/
import Derived.Test.YtkaolpnbddjdpaaGreatDoorG02
import Derived.Test.YtkaolpnbddjdpaaGreatDoorG06
import Derived.Test.YtkaolpnbddjdpaaGreatDoorG10
import Derived.Deep.RegionHeld3
import Derived.Deep.RegionLaw
import Derived.Deep.AppendLies
import Derived.BigQuiet
import Derived.Deep.DeepMust
import Derived.Deep.Cut
import Derived.Deep.CutRange
namespace Go.Proofs.YtkaolpnbddjdpaaGreatDoor
open Go.ChangeShapes Go.WideShapes Go.ChangeAt Go.RowKit
theorem ix4 {W : World} {b t : Nat} {x0 x1 x2 x3 : Value} (h : W.heap[b]? = some (.cells #[x0, x1, x2, x3] t)) : (∀ o, W.frozen? ⟨b, o, none⟩ = false) ∧ W.cell? ⟨b, 0, none⟩ = some x0 ∧ W.cell? ⟨b, 1, none⟩ = some x1 ∧ W.cell? ⟨b, 2, none⟩ = some x2 ∧ W.cell? ⟨b, 3, none⟩ = some x3 := by
  refine ⟨fun o => by simp [World.frozen?, h], ?_, ?_, ?_, ?_⟩ <;> simp [World.cell?, h]
theorem ix_two {w : World} {o0 o1 : Obj} : ((w.alloc o0).alloc o1).heap[w.heap.size]? = some o0 ∧ ((w.alloc o0).alloc o1).heap[w.heap.size + 1]? = some o1 := by
  have e : ((w.alloc o0).alloc o1).heap = (w.heap.push o0).push o1 := rfl
  rw [e]
  simp only [Array.getElem?_push, Array.size_push]
  exact ⟨by rw [if_neg (by omega), if_pos trivial], by rw [if_pos trivial]⟩
theorem undrewX {n : Nat} {a b : World} (h : Below n a.drew b) : Below n a b := ⟨h.os, h.tape, h.output, h.size, h.block⟩
theorem ix_set4 {W : World} {B t : Nat} {z0 z1 z2 z3 : Value} (v0 v1 v2 v3 : Value) (hb : W.heap[B]? = some (.cells #[z0, z1, z2, z3] t)) : ((((W.setCell ⟨B, 0, none⟩ v0).setCell ⟨B, 1, none⟩ v1).setCell ⟨B, 2, none⟩ v2).setCell ⟨B, 3, none⟩ v3).heap[B]? = some (.cells #[v0, v1, v2, v3] t) :=
  heap_setCell_same _ B 3 _ t v3 (heap_setCell_same _ B 2 _ t v2 (heap_setCell_same _ B 1 _ t v1 (heap_setCell_same W B 0 _ t v0 hb)))
theorem ix_keep4 {W : World} {B b o : Nat} {v v0 v1 v2 v3 : Value} (h : W.cell? ⟨b, o, none⟩ = some v) (hb : b ≠ B) : ((((W.setCell ⟨B, 0, none⟩ v0).setCell ⟨B, 1, none⟩ v1).setCell ⟨B, 2, none⟩ v2).setCell ⟨B, 3, none⟩ v3).cell? ⟨b, o, none⟩ = some v := by
  have hn : ∀ i, (⟨B, i, none⟩ : Addr) ≠ ⟨b, o, none⟩ := fun i e => hb (by cases e; rfl)
  exact (World.cell?_setCell_other _ _ _ _ (hn 3)).trans ((World.cell?_setCell_other _ _ _ _ (hn 2)).trans ((World.cell?_setCell_other _ _ _ _ (hn 1)).trans ((World.cell?_setCell_other _ _ _ _ (hn 0)).trans h)))
/-- The interchange in block X, so far. -/
def IOx (X N k : Nat) (frm tto : ByteArray) (num : Int) (W0 W : World) (L : List Bun) : Prop := ∃ Ab Cb bs, W.heap[X]? = some (.cells #[.string frm, .string tto, .int .i64 num, .slice Ab bs.length Cb] 44) ∧ OwnBs N W (.slice Ab bs.length Cb) bs ∧ bs.map (·.1) = L ∧ Below W0.heap.size W0 W ∧ N ≤ W.heap.size ∧ bs.length ≤ k
/-- And a last bundle that waits for a message. -/
def IOl (X N k : Nat) (frm tto : ByteArray) (num : Int) (W0 W : World) (m : Msg) (L : List Bun) : Prop := ∃ g Cb pre b mv ms, W.heap[X]? = some (.cells #[.string frm, .string tto, .int .i64 num, .slice (some ⟨g, 0, none⟩) (pre.length + 1) Cb] 44) ∧ OwnBs N W (.slice (some ⟨g, 0, none⟩) (pre.length + 1) Cb) (pre ++ [(b, mv, ms)]) ∧ pre.map (·.1) ++ [⟨b.kind, b.num, b.msgs ++ [m]⟩] = L ∧ Below W0.heap.size W0 W ∧ N ≤ W.heap.size ∧ pre.length ≤ k ∧ ms.length ≤ k
theorem IOx.below {X N k : Nat} {frm tto : ByteArray} {num : Int} {W0 W W' : World} {L : List Bun} (h : IOx X N k frm tto num W0 W L) (hb : Below W.heap.size W W') : IOx X N k frm tto num W0 W' L := by
  obtain ⟨Ab, Cb, bs, h1, h2, h3, h4, h5, h6⟩ := h
  exact ⟨Ab, Cb, bs, (hb.block _ (Array.getElem?_eq_some_iff.1 h1).1).trans h1, h2.below hb, h3, h4.trans (hb.mono h4.size), Nat.le_trans h5 hb.size, h6⟩
theorem msgsN_app (l m : List Bun) : msgsN (l ++ m) = msgsN l + msgsN m := by
  induction l with
  | nil => simp [msgsN]
  | cons a r ih => simp only [List.cons_append, msgsN, ih]; omega
theorem infoBunX : (Tryz.prog.info? 95).map (fun i => (i.zero, i.size, i.bytes)) = some (some (.agg #[.int .i64 0, .int .i64 0, .slice none 0 0]), 3, 40) := by kernel_rfl
theorem infoMsgX : (Tryz.prog.info? 98).map (fun i => (i.zero, i.size, i.bytes)) = some (some (.agg #[.int .i64 0, .slice none 0 0]), 2, 32) := by kernel_rfl
theorem own_gX {N e s n : Nat} {W : World} {v : Value} {xs : List Value} (h : W.ownsRow N e s v (n + 1) xs) : ∃ g C, v = .slice (some ⟨g, 0, none⟩) (n + 1) C ∧ N ≤ g ∧ g < W.heap.size := by
  obtain ⟨g, C, e, h1, h2⟩ := h.form (by omega)
  exact ⟨g, C, e, h1, h2⟩
theorem own_formX {N e s n : Nat} {W : World} {v : Value} {xs : List Value} (h : W.ownsRow N e s v n xs) : ∃ A C, v = .slice A n C := by
  rcases h.2 with ⟨rfl, rfl⟩ | ⟨g, cap, cur, rfl, _⟩
  · exact ⟨_, _, rfl⟩
  · exact ⟨_, _, rfl⟩
/-- The last bundle is of the paper's kind. -/
theorem IOx.same {X N k : Nat} {frm tto : ByteArray} {num : Int} {W0 W : World} {qs : List Pap} {q q' : Pap} (h : IOx X N k frm tto num W0 W (bunsP qs)) (hl : qs.getLast? = some q') (hk : q'.kind = q.kind) (hn : qs.length = k) : IOl X N k frm tto num W0 W (msgP k q) (bunsP (qs ++ [q])) := by
  obtain ⟨Ab, Cb, bs, h1, h2, h3, h4, h5, h6⟩ := h
  obtain ⟨pr, b, e, hb⟩ := bunsP_last hl
  rcases List.eq_nil_or_concat bs with rfl | ⟨pre, x, rfl⟩
  · rw [e] at h3; simp at h3
  rw [List.concat_eq_append] at h1 h2 h3 h6
  obtain ⟨b', mv, ms⟩ := x
  rw [e, List.map_append] at h3
  simp only [List.map_cons, List.map_nil] at h3
  obtain ⟨e1, e2⟩ := List.append_inj' h3 rfl
  simp only [List.cons.injEq, and_true] at e2
  subst e2
  have hL : (pre ++ [((b', mv, ms) : BunV)]).length = pre.length + 1 := by simp
  have hr := h2.row
  rw [hL] at h1 h2 hr h6
  obtain ⟨g, C, ev, hg1, hg2⟩ := own_gX hr
  cases ev
  have hmm := (h2.msgs (b', mv, ms) (by simp)).2
  have hms : ms.length = b'.msgs.length := by rw [← hmm]; simp
  have hN := msgsN_buns qs
  rw [e, msgsN_app] at hN
  simp only [msgsN] at hN
  refine ⟨g, Cb, pre, b', mv, ms, h1, h2, ?_, h4, h5, by omega, by omega⟩
  rw [bunsP_snoc, e, hn, addB_in _ _ _ _ (by rw [hb, hk]), e1]
/-- A new bundle is begun. -/
theorem IOl.new {X N k g cap : Nat} {frm tto : ByteArray} {num kk nn : Int} {W0 W W' : World} {qs : List Pap} {q : Pap} {Ab : Option Addr} {Cb : Nat} {bs : List BunV} (hX : W'.heap[X]? = some (.cells #[.string frm, .string tto, .int .i64 num, .slice (some ⟨g, 0, none⟩) (bs.length + 1) cap] 44)) (h2 : OwnBs N W (.slice Ab bs.length Cb) bs) (h3 : bs.map (·.1) = bunsP qs) (h4 : Below W0.heap.size W0 W') (h5 : N ≤ W'.heap.size) (h6 : bs.length ≤ k)
    (hq : qs = [] ∨ ∃ q', qs.getLast? = some q' ∧ q'.kind ≠ q.kind) (hn : qs.length = k) (hO : OwnBs N W' (.slice (some ⟨g, 0, none⟩) (bs.length + 1) cap) (bs ++ [(⟨kk, nn, []⟩, .slice none 0 0, [])])) (hkk : kk = q.kind) (hnn : nn = ((bs.length + 1 : Nat) : Int)) : IOl X N k frm tto num W0 W' (msgP k q) (bunsP (qs ++ [q])) := by
  refine ⟨g, cap, bs, ⟨kk, nn, []⟩, .slice none 0 0, [], hX, hO, ?_, h4, h5, h6, by simp⟩
  subst hkk hnn
  rw [bunsP_snoc, hn, h3]
  rcases hq with rfl | ⟨q', hl, hne⟩
  · have hb : bs = [] := by
      have : bs.length = 0 := by rw [← List.length_map (·.1), h3]; rfl
      exact List.eq_nil_of_length_eq_zero this
    subst hb
    simp [bunsP_nil, addB]
  · obtain ⟨pr, b, e, hb⟩ := bunsP_last hl
    have hnum := bunsP_num qs pr.length b (by rw [e]; simp)
    have hbl : bs.length = pr.length + 1 := by rw [← List.length_map (·.1), h3, e]; simp
    rw [e, addB_new _ _ _ _ (by rw [hb]; exact hne)]
    simp [hnum, hbl]
theorem IOl.done {X N k g Cb : Nat} {frm tto : ByteArray} {num : Int} {W0 W : World} {m : Msg} {L : List Bun} {pre : List BunV} {b : Bun} {mv' : Value} {ms : List MsgV} {gv : Value} {pp : List (Value × List Value)}
    (h1 : W.heap[X]? = some (.cells #[.string frm, .string tto, .int .i64 num, .slice (some ⟨g, 0, none⟩) (pre.length + 1) Cb] 44)) (h2 : OwnBs N W (.slice (some ⟨g, 0, none⟩) (pre.length + 1) Cb) (pre ++ [(⟨b.kind, b.num, b.msgs ++ [m]⟩, mv', ms ++ [(m, gv, pp)])])) (h3 : pre.map (·.1) ++ [⟨b.kind, b.num, b.msgs ++ [m]⟩] = L) (h4 : Below W0.heap.size W0 W) (h5 : N ≤ W.heap.size) (h6 : pre.length ≤ k) : IOx X N (k + 1) frm tto num W0 W L := by
  refine ⟨some ⟨g, 0, none⟩, Cb, pre ++ [(⟨b.kind, b.num, b.msgs ++ [m]⟩, mv', ms ++ [(m, gv, pp)])], by simpa using h1, by simpa using h2, ?_, h4, h5, by simp; omega⟩
  rw [← h3]
  simp
theorem below_drewX {B : Nat} {a w : World} (h : Below B a w) (n : Nat) : Below B a (w.drewN n) := h.trans ⟨rfl, rfl, rfl, Nat.le_refl _, fun _ _ => rfl⟩
theorem box6P {W : World} {b t : Nat} {x0 x1 x2 x3 x4 x5 : Value} (h : W.heap[b]? = some (.cells #[x0, x1, x2, x3, x4, x5] t)) : (∀ o, W.frozen? ⟨b, o, none⟩ = false) ∧ W.cell? ⟨b, 0, none⟩ = some x0 ∧ W.cell? ⟨b, 1, none⟩ = some x1 ∧ W.cell? ⟨b, 2, none⟩ = some x2 ∧ W.cell? ⟨b, 3, none⟩ = some x3 ∧ W.cell? ⟨b, 4, none⟩ = some x4 ∧ W.cell? ⟨b, 5, none⟩ = some x5 := by
  refine ⟨fun o => by simp [World.frozen?, h], ?_, ?_, ?_, ?_, ?_, ?_⟩ <;> simp [World.cell?, h]
theorem OwnBs.setX {N B : Nat} {W : World} {v : Value} {bs : List BunV} (h : OwnBs N W v bs) (hB : B < N) (i : Nat) (x : Value) : OwnBs N (W.setCell ⟨B, i, none⟩ x) v bs := by
  have hne : ∀ {e s k : Nat} {u : Value} {xs : List Value}, W.ownsRow N e s u k xs → (W.setCell ⟨B, i, none⟩ x).ownsRow N e s u k xs := fun hr => by
    refine ⟨hr.1, ?_⟩
    rcases hr.2 with g | ⟨b, cap, cur, e, hb, hh, r⟩
    · exact .inl g
    · exact .inr ⟨b, cap, cur, e, hb, (heap_setCell_other _ _ _ _ (show b ≠ B by omega)).trans hh, r⟩
  have hV : ∀ {v : Value} {vals : List Value} {es : List (List ByteArray)}, OwnV N W v vals es → OwnV N (W.setCell ⟨B, i, none⟩ x) v vals es := fun h => ⟨h.len, hne h.row, fun j u e hu he => ⟨hne (h.parts j u e hu he).1, (h.parts j u e hu he).2⟩, h.apart⟩
  have hLL : ∀ {v : Value} {ps : List (Value × List Value)} {gs : List Seg}, OwnL N W v ps gs → OwnL N (W.setCell ⟨B, i, none⟩ x) v ps gs := fun h => ⟨h.len, hne h.row, fun j p g hp hg => hV (h.segs j p g hp hg), h.sep⟩
  exact ⟨hne h.row, fun y hy => ⟨⟨hne (h.msgs y hy).1.row, fun z hz => hLL ((h.msgs y hy).1.body z hz)⟩, (h.msgs y hy).2⟩, h.sep⟩
theorem newB_next {X N P g cap : Nat} {frm tto : ByteArray} {num kk nn : Int} {W0 W w7 : World} {Ab : Option Addr} {Cb : Nat} {bs : List BunV} {pc : Array Value} {o : Obj} (h1 : W.heap[X]? = some (.cells #[.string frm, .string tto, .int .i64 num, .slice Ab bs.length Cb] 44)) (h2 : OwnBs N W (.slice Ab bs.length Cb) bs) (hP : W.heap[P]? = some (.cells pc 66)) (h3 : Below W0.heap.size W0 W) (h4 : N ≤ W.heap.size) (ha : Below W.heap.size W (W.alloc o)) (hX : X < N) (h0 : W0.heap.size ≤ N)
    (hr : w7.ownsRow N 95 3 (.slice (some ⟨g, 0, none⟩) (bs.length + 1) cap) (bs.length + 1) (bs.flatMap clBv ++ [.int .i64 kk, .int .i64 nn, .slice none 0 0])) (hg : (W.alloc o).grownBy w7 (Value.slice Ab bs.length Cb).ownBlock) :
    w7.heap[X]? = some (.cells #[.string frm, .string tto, .int .i64 num, .slice Ab bs.length Cb] 44) ∧ OwnBs N w7 (.slice (some ⟨g, 0, none⟩) (bs.length + 1) cap) (bs ++ [(⟨kk, nn, []⟩, .slice none 0 0, [])]) ∧ Below W0.heap.size W0 w7 ∧ N ≤ w7.heap.size ∧ w7.heap[P]? = some (.cells pc 66) := by
  have h2' := h2.below ha
  have hrl : ∀ j, (Value.slice Ab bs.length Cb).ownBlock = some j → N ≤ j := fun j e => (h2'.row.lt j e).1
  have hs := SameT.of_grown h2'.row hg
  have h3' := h3.trans (ha.mono h3.size)
  refine ⟨?_, h2'.add hr hg, h3'.trans ⟨hg.os, hg.tape, hg.output, hg.size, fun q hq => hg.block q (Nat.lt_of_lt_of_le hq h3'.size) (fun e => by have := hrl q e.symm; omega)⟩, Nat.le_trans (Nat.le_trans h4 ha.size) hg.size, hs P pc 66 (by decide) ((ha.block P (Array.getElem?_eq_some_iff.1 hP).1).trans hP)⟩
  exact (hg.block X (Nat.lt_of_lt_of_le (Array.getElem?_eq_some_iff.1 h1).1 ha.size) (fun e => by have := hrl X e.symm; omega)).trans ((ha.block X (Array.getElem?_eq_some_iff.1 h1).1).trans h1)
theorem addM_next {X N P g gg Cb cap H : Nat} {frm tto : ByteArray} {num nn : Int} {W0 wz wc w7 : World} {pre : List BunV} {b : Bun} {mv : Value} {ms : List MsgV} {pc : Array Value} {gv : Value} {pp : List (Value × List Value)} {body : List Seg} {o : Obj} {c0 : Value}
    (h : (wc.alloc o).cell? ⟨g, pre.length * 3 + 2, none⟩ = some c0 ∧ (wc.alloc o).heap[P]? = some (.cells pc 66) ∧ OwnBs N (wc.alloc o) (.slice (some ⟨g, 0, none⟩) (pre.length + 1) Cb) (pre ++ [(b, mv, ms)]) ∧ Below W0.heap.size W0 (wc.alloc o) ∧ N ≤ (wc.alloc o).heap.size ∧ (wc.alloc o).heap[X]? = some (.cells #[.string frm, .string tto, .int .i64 num, .slice (some ⟨g, 0, none⟩) (pre.length + 1) Cb] 44))
    (hV : OwnL wz.heap.size wc gv pp body) (_hc : Below wz.heap.size wz wc) (hN : N ≤ wz.heap.size) (hX : X < N) (h0 : W0.heap.size ≤ N)
    (hr : w7.ownsRow N 98 2 (.slice (some ⟨gg, 0, none⟩) (ms.length + 1) cap) (ms.length + 1) (ms.flatMap clMv ++ [.int .i64 nn, gv])) (hg : (wc.alloc o).grownBy w7 mv.ownBlock) (hat : mv.ownBlock = some gg ∨ gg = H) (hH : H = (wc.alloc o).heap.size) :
    (w7.cell? ⟨g, pre.length * 3 + 2, none⟩ = some mv ∧ w7.frozen? ⟨g, pre.length * 3 + 2, none⟩ = false) ∧ OwnBs N (w7.setCell ⟨g, pre.length * 3 + 2, none⟩ (.slice (some ⟨gg, 0, none⟩) (ms.length + 1) cap)) (.slice (some ⟨g, 0, none⟩) (pre.length + 1) Cb) (pre ++ [(⟨b.kind, b.num, b.msgs ++ [⟨nn, body⟩]⟩, .slice (some ⟨gg, 0, none⟩) (ms.length + 1) cap, ms ++ [(⟨nn, body⟩, gv, pp)])]) ∧ Below W0.heap.size W0 w7 ∧ N ≤ w7.heap.size ∧ w7.heap[X]? = some (.cells #[.string frm, .string tto, .int .i64 num, .slice (some ⟨g, 0, none⟩) (pre.length + 1) Cb] 44) := by
  obtain ⟨_, _, hO, hB, hN2, hXX⟩ := h
  have ha : Below wc.heap.size wc (wc.alloc o) := (Below.refl _ _).alloc (Nat.le_refl _) _
  have hrow := (hO.msgs (b, mv, ms) (by simp)).1.row
  have hrl : ∀ j, mv.ownBlock = some j → N ≤ j := fun j e => (hrow.lt j e).1
  obtain ⟨k1, k2, k3⟩ := hO.addM (m := ⟨nn, body⟩) (gg := gg) (cap := cap) ((hV.below ha).mono hN) hr hg (by rw [← hH]; exact hat)
  exact ⟨⟨k2, k3⟩, k1, hB.trans ⟨hg.os, hg.tape, hg.output, hg.size, fun q hq => hg.block q (Nat.lt_of_lt_of_le hq hB.size) (fun e => by have := hrl q e.symm; omega)⟩, Nat.le_trans hN2 hg.size, (hg.block X (Array.getElem?_eq_some_iff.1 hXX).1 (fun e => by have := hrl X e.symm; omega)).trans hXX⟩
theorem OwnBs.monoX {N M : Nat} {W : World} {v : Value} {bs : List BunV} (h : OwnBs N W v bs) (hB : M ≤ N) : OwnBs M W v bs := by
  have hne : ∀ {e s k : Nat} {u : Value} {xs : List Value}, W.ownsRow N e s u k xs → W.ownsRow M e s u k xs := fun hr => by
    refine ⟨hr.1, ?_⟩
    rcases hr.2 with g | ⟨b, cap, cur, e, hb, r⟩
    · exact .inl g
    · exact .inr ⟨b, cap, cur, e, Nat.le_trans hB hb, r⟩
  exact ⟨hne h.row, fun y hy => ⟨⟨hne (h.msgs y hy).1.row, fun z hz => ((h.msgs y hy).1.body z hz).mono hB⟩, (h.msgs y hy).2⟩, h.sep⟩
set_option maxRecDepth 100000 in
set_option maxHeartbeats 16000000 in
theorem ixOf_any (p : Pcl) (v : Value) (w : World) (h : PclR w v p) (hI : ∀ q ∈ p.papers, PapI q ∧ 1 ≤ q.kind ∧ q.kind ≤ 7) (hB : BdPc 1048576 p) (hV : VarsAt w) :
    Calls Tryz.prog 46 #[.agg #[.string p.frm, .string p.to, .int .i64 p.num, v]] w fun e w' => ∃ u bs, e = .returned (.agg #[.string p.frm, .string p.to, .int .i64 p.num, u]) ∧ OwnBs w.heap.size w' u bs ∧ bs.map (·.1) = bunsP p.papers ∧ Below w.heap.size w w' := by
  obtain ⟨frm, tto, num, ps⟩ := p
  dsimp only at hI ⊢
  obtain ⟨z1, z2, hBp⟩ := hB
  dsimp only at z1 z2 hBp
  have hps := h.ps
  dsimp only at hps
  obtain ⟨A, C, rfl⟩ := hps.val
  obtain ⟨W0, hW0⟩ : ∃ W0, (w.alloc (.cells #[.string frm, .string tto, .int .i64 num, .slice A ps.length C] 27)).alloc (.cells #[.string ⟨#[]⟩, .string ⟨#[]⟩, .int .i64 0, .slice none 0 0] 44) = W0 := ⟨_, rfl⟩
  have hb0 : Below w.heap.size w W0 := by rw [← hW0]; exact ((Below.refl _ _).alloc (Nat.le_refl _) _).alloc (by simp) _
  obtain ⟨x0, x1⟩ : W0.heap[w.heap.size]? = some (.cells #[.string frm, .string tto, .int .i64 num, .slice A ps.length C] 27) ∧ W0.heap[w.heap.size + 1]? = some (.cells #[.string ⟨#[]⟩, .string ⟨#[]⟩, .int .i64 0, .slice none 0 0] 44) := by rw [← hW0]; exact ix_two
  have HP : Hid (∀ W, Below W0.heap.size W0 W → (W.cell? ⟨w.heap.size, 0, none⟩ = some (.string frm) ∧ W.cell? ⟨w.heap.size, 1, none⟩ = some (.string tto) ∧ W.cell? ⟨w.heap.size, 2, none⟩ = some (.int .i64 num) ∧ W.cell? ⟨w.heap.size, 3, none⟩ = some (.slice A ps.length C))) := fun W hW => (ix4 ((hW.block _ (Array.getElem?_eq_some_iff.1 x0).1).trans x0)).2
  have HR : Hid (W0.heap[w.heap.size + 1]? = some (.cells #[.string ⟨#[]⟩, .string ⟨#[]⟩, .int .i64 0, .slice none 0 0] 44) ∧ Below w.heap.size w W0 ∧ RowPs W0 (.slice A ps.length C) ps ∧ VarsAt W0 ∧ BdPs 1048576 ps ∧ ∀ q ∈ ps, PapI q ∧ 1 ≤ q.kind ∧ q.kind ≤ 7) := ⟨x1, hb0, hps.below hb0, hV.below hb0, hBp, hI⟩
  have HLt : Hid (w.heap.size < W0.heap.size) := (Array.getElem?_eq_some_iff.1 x0).1
  obtain ⟨p0, p1, p2, p3⟩ := HP.out W0 (Below.refl _ _)
  clear h hps hI hBp hV hb0 x0 x1
  go_enter Tryz.func46, Tryz.ntmps46
  go_upto_region 1 with fail
  try rw [hW0]
  clear hW0
  have HA : Hid (∀ Wq, Below W0.heap.size W0 Wq → ∀ W', (Below (Wq.alloc (.cells #[.string ⟨#[]⟩, .string ⟨#[]⟩, .int .i64 0, .slice none 0 0] 44)).heap.size (Wq.alloc (.cells #[.string ⟨#[]⟩, .string ⟨#[]⟩, .int .i64 0, .slice none 0 0] 44)) W' ∨ Below (Wq.alloc (.cells #[.string ⟨#[]⟩, .string ⟨#[]⟩, .int .i64 0, .slice none 0 0] 44)).heap.size (Wq.alloc (.cells #[.string ⟨#[]⟩, .string ⟨#[]⟩, .int .i64 0, .slice none 0 0] 44)).drew W' ∨ Below (Wq.alloc (.cells #[.string ⟨#[]⟩, .string ⟨#[]⟩, .int .i64 0, .slice none 0 0] 44)).heap.size (Wq.drew.alloc (.cells #[.string ⟨#[]⟩, .string ⟨#[]⟩, .int .i64 0, .slice none 0 0] 44)) W') → Below W0.heap.size W0 W' ∧ W'.heap[Wq.heap.size]? = some (.cells #[.string ⟨#[]⟩, .string ⟨#[]⟩, .int .i64 0, .slice none 0 0] 44)) := fun Wq hq W' hW => by
    have h1 : Below (Wq.alloc (.cells #[.string ⟨#[]⟩, .string ⟨#[]⟩, .int .i64 0, .slice none 0 0] 44)).heap.size (Wq.alloc (.cells #[.string ⟨#[]⟩, .string ⟨#[]⟩, .int .i64 0, .slice none 0 0] 44)) W' := by
      rcases hW with h | h | h
      · exact h
      · exact undrewX h
      · exact ⟨h.os, h.tape, h.output, h.size, h.block⟩
    have ha : Below Wq.heap.size Wq (Wq.alloc (.cells #[.string ⟨#[]⟩, .string ⟨#[]⟩, .int .i64 0, .slice none 0 0] 44)) := (Below.refl _ _).alloc (Nat.le_refl _) _
    exact ⟨hq.trans ((ha.trans (h1.mono ha.size)).mono hq.size), (h1.block _ (by simp)).trans (World.alloc_heap_new _ _)⟩
  have HA0 := HA.out W0 (Below.refl _ _)
  have HA0' : Hid _ := HA0
  clear HA0
  go_cut [3] from 7 to 15 (fun x3 wx => ∃ X, x3 = .pointer (some ⟨X, 0, none⟩) ∧ wx.heap[X]? = some (.cells #[.string frm, .string tto, .int .i64 num, .slice none 0 0] 44) ∧ Below W0.heap.size W0 wx ∧ W0.heap.size ≤ X)
  case first =>
    refine wp_region_held_drew (S := fun W => W.cell? ⟨w.heap.size, 0, none⟩ = some (.string frm) ∧ W.cell? ⟨w.heap.size, 1, none⟩ = some (.string tto) ∧ W.cell? ⟨w.heap.size, 2, none⟩ = some (.int .i64 num)) (by kernel_rfl) ?_ (fun hHeld => ?_)
    · try dsimp only
      exact ⟨p0, p1, p2⟩
    refine wpAnyH_take (i := 0) (oi := { dst := some 7, op := Op.fieldAddr 27 (Operand.tmp 1) 0, type := 0, pos := "l06_parcel.go:188", after := #[], guard := none }) (v := ?_) rfl (by kernel_rfl) (by kernel_rfl) (by kernel_rfl) (fun _ _ _ h => h) (Or.inl ⟨by rfl, ?_⟩) (by assumption) ?_
    rotate_left 1
    · intro w hSw
      (try dsimp only at hSw)
      go_simp
      try with_reducible rfl
    try simp only [Act.put, List.setIfInBounds_toArray, List.set_cons_zero, List.set_cons_succ]
    refine wpAnyH_take (i := 1) (oi := { dst := some 8, op := Op.load 9 (Operand.tmp 7), type := 9, pos := "l06_parcel.go:188", after := #[{ on := 0, ground := Ground.data }], guard := none }) (v := ?_) rfl (by kernel_rfl) (by kernel_rfl) (by kernel_rfl) (fun _ _ _ h => h) (Or.inl ⟨by rfl, ?_⟩) (by assumption) ?_
    rotate_left 1
    · intro w hSw
      (try dsimp only at hSw)
      go_simp
      try with_reducible rfl
    try simp only [Act.put, List.setIfInBounds_toArray, List.set_cons_zero, List.set_cons_succ]
    refine wpAnyH_take (i := 3) (oi := { dst := some 10, op := Op.fieldAddr 27 (Operand.tmp 1) 1, type := 0, pos := "l06_parcel.go:188", after := #[], guard := none }) (v := ?_) rfl (by kernel_rfl) (by kernel_rfl) (by kernel_rfl) (fun _ _ _ h => h) (Or.inl ⟨by rfl, ?_⟩) (by assumption) ?_
    rotate_left 1
    · intro w hSw
      (try dsimp only at hSw)
      go_simp
      try with_reducible rfl
    try simp only [Act.put, List.setIfInBounds_toArray, List.set_cons_zero, List.set_cons_succ]
    refine wpAnyH_take (i := 4) (oi := { dst := some 11, op := Op.load 9 (Operand.tmp 10), type := 9, pos := "l06_parcel.go:188", after := #[{ on := 3, ground := Ground.data }], guard := none }) (v := ?_) rfl (by kernel_rfl) (by kernel_rfl) (by kernel_rfl) (fun _ _ _ h => h) (Or.inl ⟨by rfl, ?_⟩) (by assumption) ?_
    rotate_left 1
    · intro w hSw
      (try dsimp only at hSw)
      go_simp
      try with_reducible rfl
    try simp only [Act.put, List.setIfInBounds_toArray, List.set_cons_zero, List.set_cons_succ]
    refine wpAnyH_take (i := 6) (oi := { dst := some 13, op := Op.fieldAddr 27 (Operand.tmp 1) 2, type := 0, pos := "l06_parcel.go:188", after := #[], guard := none }) (v := ?_) rfl (by kernel_rfl) (by kernel_rfl) (by kernel_rfl) (fun _ _ _ h => h) (Or.inl ⟨by rfl, ?_⟩) (by assumption) ?_
    rotate_left 1
    · intro w hSw
      (try dsimp only at hSw)
      go_simp
      try with_reducible rfl
    try simp only [Act.put, List.setIfInBounds_toArray, List.set_cons_zero, List.set_cons_succ]
    refine wpAnyH_take (i := 7) (oi := { dst := some 14, op := Op.load 2 (Operand.tmp 13), type := 2, pos := "l06_parcel.go:188", after := #[{ on := 6, ground := Ground.data }], guard := none }) (v := ?_) rfl (by kernel_rfl) (by kernel_rfl) (by kernel_rfl) (fun _ _ _ h => h) (Or.inl ⟨by rfl, ?_⟩) (by assumption) ?_
    rotate_left 1
    · intro w hSw
      (try dsimp only at hSw)
      go_simp
      try with_reducible rfl
    try simp only [Act.put, List.setIfInBounds_toArray, List.set_cons_zero, List.set_cons_succ]
    refine wpAnyH_ready (rs := [2, 9]) (by kernel_rfl) (by simp) ?_
    refine AllReadyH.cons (o := { dst := some 9, op := Op.call { callee := Callee.value (Operand.func 84), args := #[Operand.tmp 8], argTypes := #[9] }, type := 9, pos := "l06_parcel.go:188", after := #[{ on := 1, ground := Ground.data }], guard := none }) rfl (fun K hK => ?_) ?_
    · skip
      go_simp
      go_at_call_of 84 (Value.string frm)
      refine (clone_any _ _ (by omega)).mono ?_
      rintro e wa ⟨rfl, hbwa⟩
      have bwa : Below W0.heap.size W0 wa := (by first | exact hbwa | exact undrewX hbwa)
      obtain ⟨k0, k1, k2, k3⟩ := HP.out wa bwa
      clear hbwa
      try dsimp only
      try go_wp2_with fail
      refine hK.out _ _ ?_ (fun hHeld => ?_)
      · try dsimp only
        exact ⟨k0, k1, k2⟩
      clear hK K
      try simp only [Act.put, List.setIfInBounds_toArray, List.set_cons_zero, List.set_cons_succ]
      refine wpAnyH_ready (rs := [5, 9]) (by kernel_rfl) (by simp) ?_
      refine AllReadyH.cons (o := { dst := some 12, op := Op.call { callee := Callee.value (Operand.func 84), args := #[Operand.tmp 11], argTypes := #[9] }, type := 9, pos := "l06_parcel.go:188", after := #[{ on := 4, ground := Ground.data }, { on := 2, ground := Ground.chain }], guard := none }) rfl (fun K hK => ?_) ?_
      · skip
        go_simp
        go_at_call_of 84 (Value.string tto)
        refine (clone_any _ _ (by omega)).mono ?_
        rintro e wb ⟨rfl, hbwb⟩
        have bwb : Below W0.heap.size W0 wb := bwa.trans ((by first | exact hbwb | exact undrewX hbwb : Below wa.heap.size wa wb).mono bwa.size)
        obtain ⟨m0, m1, m2, m3⟩ := HP.out wb bwb
        clear hbwb
        try dsimp only
        try go_wp2_with fail
        refine hK.out _ _ ?_ (fun hHeld => ?_)
        · try dsimp only
          exact ⟨m0, m1, m2⟩
        clear hK K
        try simp only [Act.put, List.setIfInBounds_toArray, List.set_cons_zero, List.set_cons_succ]
        refine wpAnyH_take (i := 8) (oi := { dst := some 15, op := Op.build 44 #[(0, Operand.tmp 9), (1, Operand.tmp 12), (2, Operand.tmp 14)], type := 44, pos := "l06_parcel.go:188", after := #[{ on := 2, ground := Ground.data }, { on := 5, ground := Ground.data }, { on := 7, ground := Ground.data }], guard := none }) (v := ?_) rfl (by kernel_rfl) (by kernel_rfl) (by kernel_rfl) (fun _ _ _ h => h) (Or.inl ⟨by rfl, ?_⟩) (by assumption) ?_
        rotate_left 1
        · intro w hSw
          (try dsimp only at hSw)
          go_simp
          try with_reducible rfl
        try simp only [Act.put, List.setIfInBounds_toArray, List.set_cons_zero, List.set_cons_succ]
        refine wpAnyH_ready (rs := [9]) (by kernel_rfl) (by simp) ?_
        refine AllReadyH.cons (o := { dst := some 3, op := Op.alloc 44, type := 0, pos := "l06_parcel.go:188", after := #[], guard := none }) rfl (fun K hK => ?_) AllReadyH.nil
        go_simp
        refine hK.out _ _ ?_ (fun hHeld => ?_)
        · try dsimp only
          go_keep
        clear hK K
        try simp only [Act.put, List.setIfInBounds_toArray, List.set_cons_zero, List.set_cons_succ]
        have HP2 : ∀ o, (wb.alloc o).cell? ⟨w.heap.size, 0, none⟩ = some (.string frm) ∧ (wb.alloc o).cell? ⟨w.heap.size, 1, none⟩ = some (.string tto) ∧ (wb.alloc o).cell? ⟨w.heap.size, 2, none⟩ = some (.int .i64 num) := fun o => by
          obtain ⟨g0, g1, g2, _⟩ := HP.out (wb.alloc o) (bwb.trans (((Below.refl _ _).alloc (Nat.le_refl _) _).mono bwb.size))
          exact ⟨g0, g1, g2⟩
        refine wpAnyH_ready (rs := [10]) (by kernel_rfl) (by simp) ?_
        refine AllReadyH.cons (o := { dst := none, op := Op.store 44 (Operand.tmp 3) (Operand.tmp 15), type := 0, pos := "l06_parcel.go:188", after := #[{ on := 9, ground := Ground.data }, { on := 8, ground := Ground.data }, { on := 5, ground := Ground.chain }, { on := 0, ground := Ground.phase }, { on := 1, ground := Ground.phase }, { on := 2, ground := Ground.phase }, { on := 3, ground := Ground.phase }, { on := 4, ground := Ground.phase }, { on := 5, ground := Ground.phase }, { on := 6, ground := Ground.phase }, { on := 7, ground := Ground.phase }, { on := 8, ground := Ground.phase }, { on := 9, ground := Ground.phase }], guard := none }) rfl (fun K hK => ?_) AllReadyH.nil
        go_simp
        refine hK.out _ _ ?_ (fun hHeld => ?_)
        · try dsimp only
          exact ⟨(HP2 _).1, (HP2 _).2.1, (HP2 _).2.2⟩
        clear hK K
        try simp only [Act.put, List.setIfInBounds_toArray, List.set_cons_zero, List.set_cons_succ]
        refine wpAnyH_done (by kernel_rfl) ?_ _
        go_wp2_with fail
        go_meet
        exact ⟨wb.heap.size, rfl, World.alloc_heap_new _ _, bwb.trans (((Below.refl _ _).alloc (Nat.le_refl _) _).mono bwb.size), bwb.size⟩
      refine AllReadyH.cons (o := { dst := some 3, op := Op.alloc 44, type := 0, pos := "l06_parcel.go:188", after := #[], guard := none }) rfl (fun K hK => ?_) AllReadyH.nil
      go_simp
      refine hK.out _ _ ?_ (fun hHeld => ?_)
      · try dsimp only
        go_keep
      clear hK K
      try simp only [Act.put, List.setIfInBounds_toArray, List.set_cons_zero, List.set_cons_succ]
      refine wpAnyH_ready (rs := [5]) (by kernel_rfl) (by simp) ?_
      refine AllReadyH.cons (o := { dst := some 12, op := Op.call { callee := Callee.value (Operand.func 84), args := #[Operand.tmp 11], argTypes := #[9] }, type := 9, pos := "l06_parcel.go:188", after := #[{ on := 4, ground := Ground.data }, { on := 2, ground := Ground.chain }], guard := none }) rfl (fun K hK => ?_) AllReadyH.nil
      go_simp
      go_at_call_of 84 (Value.string tto)
      refine (clone_any _ _ (by omega)).mono ?_
      rintro e wb ⟨rfl, hbwb⟩
      obtain ⟨bwb, xwb⟩ := HA.out wa bwa wb (by first | exact .inl hbwb | exact .inr (.inl hbwb) | exact .inr (.inr hbwb))
      obtain ⟨m0, m1, m2, m3⟩ := HP.out wb bwb
      clear hbwb
      try dsimp only
      try go_wp2_with fail
      refine hK.out _ _ ?_ (fun hHeld => ?_)
      · try dsimp only
        exact ⟨m0, m1, m2⟩
      clear hK K
      try simp only [Act.put, List.setIfInBounds_toArray, List.set_cons_zero, List.set_cons_succ]
      have hXn : w.heap.size ≠ wa.heap.size := by have := HLt.out; have := bwa.size; omega
      have hXl : W0.heap.size ≤ wa.heap.size := bwa.size
      refine wpAnyH_take (i := 8) (oi := { dst := some 15, op := Op.build 44 #[(0, Operand.tmp 9), (1, Operand.tmp 12), (2, Operand.tmp 14)], type := 44, pos := "l06_parcel.go:188", after := #[{ on := 2, ground := Ground.data }, { on := 5, ground := Ground.data }, { on := 7, ground := Ground.data }], guard := none }) (v := ?_) rfl (by kernel_rfl) (by kernel_rfl) (by kernel_rfl) (fun _ _ _ h => h) (Or.inl ⟨by rfl, ?_⟩) (by assumption) ?_
      rotate_left 1
      · intro w hSw
        (try dsimp only at hSw)
        go_simp
        try with_reducible rfl
      try simp only [Act.put, List.setIfInBounds_toArray, List.set_cons_zero, List.set_cons_succ]
      obtain ⟨xf, x0, x1, x2, x3⟩ := ix4 xwb
      refine wpAnyH_ready (rs := [10]) (by kernel_rfl) (by simp) ?_
      refine AllReadyH.cons (o := { dst := none, op := Op.store 44 (Operand.tmp 3) (Operand.tmp 15), type := 0, pos := "l06_parcel.go:188", after := #[{ on := 9, ground := Ground.data }, { on := 8, ground := Ground.data }, { on := 5, ground := Ground.chain }, { on := 0, ground := Ground.phase }, { on := 1, ground := Ground.phase }, { on := 2, ground := Ground.phase }, { on := 3, ground := Ground.phase }, { on := 4, ground := Ground.phase }, { on := 5, ground := Ground.phase }, { on := 6, ground := Ground.phase }, { on := 7, ground := Ground.phase }, { on := 8, ground := Ground.phase }, { on := 9, ground := Ground.phase }], guard := none }) rfl (fun K hK => ?_) AllReadyH.nil
      go_simp
      refine hK.out _ _ ?_ (fun hHeld => ?_)
      · try dsimp only
        exact ⟨ix_keep4 m0 hXn, ix_keep4 m1 hXn, ix_keep4 m2 hXn⟩
      clear hK K
      try simp only [Act.put, List.setIfInBounds_toArray, List.set_cons_zero, List.set_cons_succ]
      refine wpAnyH_done (by kernel_rfl) ?_ _
      go_wp2_with fail
      go_meet
      exact ⟨_, rfl, ix_set4 _ _ _ _ xwb, (((bwb.setCell hXl _).setCell hXl _).setCell hXl _).setCell hXl _, hXl⟩
    refine AllReadyH.cons (o := { dst := some 3, op := Op.alloc 44, type := 0, pos := "l06_parcel.go:188", after := #[], guard := none }) rfl (fun K hK => ?_) AllReadyH.nil
    go_simp
    refine hK.out _ _ ?_ (fun hHeld => ?_)
    · try dsimp only
      go_keep
    clear hK K
    try simp only [Act.put, List.setIfInBounds_toArray, List.set_cons_zero, List.set_cons_succ]
    refine wpAnyH_ready (rs := [2]) (by kernel_rfl) (by simp) ?_
    refine AllReadyH.cons (o := { dst := some 9, op := Op.call { callee := Callee.value (Operand.func 84), args := #[Operand.tmp 8], argTypes := #[9] }, type := 9, pos := "l06_parcel.go:188", after := #[{ on := 1, ground := Ground.data }], guard := none }) rfl (fun K hK => ?_) AllReadyH.nil
    go_simp
    go_at_call_of 84 (Value.string frm)
    refine (clone_any _ _ (by omega)).mono ?_
    rintro e wa ⟨rfl, hbwa⟩
    obtain ⟨bwa, xwa⟩ := HA0'.out wa (by first | exact .inl hbwa | exact .inr (.inl hbwa) | exact .inr (.inr hbwa))
    obtain ⟨k0, k1, k2, k3⟩ := HP.out wa bwa
    clear hbwa
    try dsimp only
    try go_wp2_with fail
    refine hK.out _ _ ?_ (fun hHeld => ?_)
    · try dsimp only
      exact ⟨k0, k1, k2⟩
    clear hK K
    try simp only [Act.put, List.setIfInBounds_toArray, List.set_cons_zero, List.set_cons_succ]
    refine wpAnyH_ready (rs := [5]) (by kernel_rfl) (by simp) ?_
    refine AllReadyH.cons (o := { dst := some 12, op := Op.call { callee := Callee.value (Operand.func 84), args := #[Operand.tmp 11], argTypes := #[9] }, type := 9, pos := "l06_parcel.go:188", after := #[{ on := 4, ground := Ground.data }, { on := 2, ground := Ground.chain }], guard := none }) rfl (fun K hK => ?_) AllReadyH.nil
    go_simp
    go_at_call_of 84 (Value.string tto)
    refine (clone_any _ _ (by omega)).mono ?_
    rintro e wb ⟨rfl, hbwb⟩
    have hb2 : Below wa.heap.size wa wb := (by first | exact hbwb | exact undrewX hbwb)
    have bwb : Below W0.heap.size W0 wb := bwa.trans (hb2.mono bwa.size)
    have xwb := (hb2.block _ (Array.getElem?_eq_some_iff.1 xwa).1).trans xwa
    clear hb2
    obtain ⟨m0, m1, m2, m3⟩ := HP.out wb bwb
    clear hbwb
    try dsimp only
    try go_wp2_with fail
    refine hK.out _ _ ?_ (fun hHeld => ?_)
    · try dsimp only
      exact ⟨m0, m1, m2⟩
    clear hK K
    try simp only [Act.put, List.setIfInBounds_toArray, List.set_cons_zero, List.set_cons_succ]
    have hXn : w.heap.size ≠ W0.heap.size := by have := HLt.out; omega
    have hXl : W0.heap.size ≤ W0.heap.size := Nat.le_refl _
    refine wpAnyH_take (i := 8) (oi := { dst := some 15, op := Op.build 44 #[(0, Operand.tmp 9), (1, Operand.tmp 12), (2, Operand.tmp 14)], type := 44, pos := "l06_parcel.go:188", after := #[{ on := 2, ground := Ground.data }, { on := 5, ground := Ground.data }, { on := 7, ground := Ground.data }], guard := none }) (v := ?_) rfl (by kernel_rfl) (by kernel_rfl) (by kernel_rfl) (fun _ _ _ h => h) (Or.inl ⟨by rfl, ?_⟩) (by assumption) ?_
    rotate_left 1
    · intro w hSw
      (try dsimp only at hSw)
      go_simp
      try with_reducible rfl
    try simp only [Act.put, List.setIfInBounds_toArray, List.set_cons_zero, List.set_cons_succ]
    obtain ⟨xf, x0, x1, x2, x3⟩ := ix4 xwb
    refine wpAnyH_ready (rs := [10]) (by kernel_rfl) (by simp) ?_
    refine AllReadyH.cons (o := { dst := none, op := Op.store 44 (Operand.tmp 3) (Operand.tmp 15), type := 0, pos := "l06_parcel.go:188", after := #[{ on := 9, ground := Ground.data }, { on := 8, ground := Ground.data }, { on := 5, ground := Ground.chain }, { on := 0, ground := Ground.phase }, { on := 1, ground := Ground.phase }, { on := 2, ground := Ground.phase }, { on := 3, ground := Ground.phase }, { on := 4, ground := Ground.phase }, { on := 5, ground := Ground.phase }, { on := 6, ground := Ground.phase }, { on := 7, ground := Ground.phase }, { on := 8, ground := Ground.phase }, { on := 9, ground := Ground.phase }], guard := none }) rfl (fun K hK => ?_) AllReadyH.nil
    go_simp
    refine hK.out _ _ ?_ (fun hHeld => ?_)
    · try dsimp only
      exact ⟨ix_keep4 m0 hXn, ix_keep4 m1 hXn, ix_keep4 m2 hXn⟩
    clear hK K
    try simp only [Act.put, List.setIfInBounds_toArray, List.set_cons_zero, List.set_cons_succ]
    refine wpAnyH_done (by kernel_rfl) ?_ _
    go_wp2_with fail
    go_meet
    exact ⟨_, rfl, ix_set4 _ _ _ _ xwb, (((bwb.setCell hXl _).setCell hXl _).setCell hXl _).setCell hXl _, hXl⟩
  case rest =>
    obtain ⟨X, rfl, hX, hWx, hXl⟩ := hcut
    rename World => wx
    obtain ⟨N0, hN0⟩ : ∃ N0, N0 = wx.heap.size := ⟨_, rfl⟩
    have HX : Hid (wx.heap[X]? = some (.cells #[.string frm, .string tto, .int .i64 num, .slice none 0 0] 44) ∧ Below W0.heap.size W0 wx ∧ W0.heap.size ≤ X ∧ X < N0 ∧ N0 = wx.heap.size) := ⟨hX, hWx, hXl, by rw [hN0]; exact (Array.getElem?_eq_some_iff.1 hX).1, hN0⟩
    have hpl : ps.length ≤ 1048576 := HR.out.2.2.2.2.1.1
    clear hX hWx hXl hN0 p0 p1 p2 p3 HA HA0'
    obtain ⟨_, _, _, p3⟩ := HP.out wx HX.out.2.1
    obtain ⟨j0, hj0i, hi0, hi1, hi2⟩ := info_parts infoBunX
    obtain ⟨l0, hl0i, ki0, ki1, ki2⟩ := info_parts infoMsgX
    go_wp2_with fail
    clear p3
    go_loopw [19] (fun i wr => ∃ k : Nat, i = .int .i64 (k : Int) ∧ k ≤ ps.length ∧ Hid (IOx X N0 k frm tto num W0 wr (bunsP (ps.take k)))) (fun i _ => ps.length - (intOf i).toNat)
    case atStart => exact ⟨0, rfl, by omega, none, 0, [], HX.out.1, OwnBs.nil _ _, rfl, HX.out.2.1, Nat.le_of_eq HX.out.2.2.2.2, Nat.le_refl _⟩
    case round =>
      obtain ⟨k, rfl, hk, HI⟩ := hrel
      by_cases hlt : k < ps.length
      · have hlt' : (k : Int) < (ps.length : Int) := by omega
        have hwr : Below W0.heap.size W0 wr := by obtain ⟨_, _, _, _, _, _, h, _⟩ := HI.out; exact h
        obtain ⟨b9, o9, c9, q, vn, vl, e9, hs, hat, hpr⟩ := HR.out.2.2.1.at hlt
        obtain ⟨y0, y1, y2, y3, y4, y5⟩ := hat.below hwr
        clear hat
        simp only [Value.slice.injEq, true_and] at e9
        obtain ⟨rfl, rfl⟩ := e9
        obtain ⟨An, Cn, rfl⟩ := hpr.ns.val
        obtain ⟨Al, Cl, rfl⟩ := hpr.ls.val
        obtain ⟨W1, hW1⟩ : ∃ W1, wr.alloc (.cells #[.int .i64 q.kind, .string q.ref, .string q.other, .int .i64 q.day, .slice An q.notes.length Cn, .slice Al q.lines.length Cl] 66) = W1 := ⟨_, rfl⟩
        have hb1 : Below wr.heap.size wr W1 := by rw [← hW1]; exact (Below.refl _ _).alloc (Nat.le_refl _) _
        have hx1 : W1.heap[wr.heap.size]? = some (.cells #[.int .i64 q.kind, .string q.ref, .string q.other, .int .i64 q.day, .slice An q.notes.length Cn, .slice Al q.lines.length Cl] 66) := by rw [← hW1]; exact World.alloc_heap_new _ _
        obtain ⟨P, hP⟩ : ∃ P, P = wr.heap.size := ⟨_, rfl⟩
        rw [← hP] at hx1
        have hbW := hwr.trans (hb1.mono hwr.size)
        have H1 : Hid (IOx X N0 k frm tto num W0 W1 (bunsP (ps.take k)) ∧ W1.heap[P]? = some (.cells #[.int .i64 q.kind, .string q.ref, .string q.other, .int .i64 q.day, .slice An q.notes.length Cn, .slice Al q.lines.length Cl] 66) ∧ Below W0.heap.size W0 W1 ∧ (∀ W, Below W0.heap.size W0 W → PapR W (.slice An q.notes.length Cn) (.slice Al q.lines.length Cl) q) ∧ ps[k]? = some q ∧ P < W1.heap.size ∧ N0 ≤ P) := ⟨HI.out.below hb1, hx1, hbW, fun W hW => hpr.below hW, hs, (Array.getElem?_eq_some_iff.1 hx1).1, by rw [hP]; obtain ⟨_, _, _, _, _, _, _, h, _⟩ := HI.out; exact h⟩
        have HW1 : Hid (wr.alloc (.cells #[.int .i64 q.kind, .string q.ref, .string q.other, .int .i64 q.day, .slice An q.notes.length Cn, .slice Al q.lines.length Cl] 66) = W1 ∧ P = wr.heap.size) := ⟨hW1, hP⟩
        clear hb1 hx1 hW1 hP hpr hs HI hbW
        go_upto_region 5 with fail
        try rw [HW1.out.1]
        try rw [← HW1.out.2]
        clear HW1 y0 y1 y2 y3 y4 y5 hwr
        have hqk := HR.out.2.2.2.2.2 q (List.mem_of_getElem? H1.out.2.2.2.2.1)
        obtain ⟨pf, y0, y1, y2, y3, y4, y5⟩ := box6P H1.out.2.1
        obtain ⟨_, _, _, p3⟩ := HP.out W1 H1.out.2.2.1
        obtain ⟨nw, hnw⟩ : ∃ nw : Bool, nw = true ↔ (k = 0 ∨ ∃ q', ps[k - 1]? = some q' ∧ q'.kind ≠ q.kind) := by
          by_cases h : k = 0 ∨ ∃ q', ps[k - 1]? = some q' ∧ q'.kind ≠ q.kind
          · exact ⟨true, by simp only [true_iff]; exact h⟩
          · exact ⟨false, by simp only [Bool.false_eq_true, false_iff]; exact h⟩
        have HNW : Hid (nw = true ↔ (k = 0 ∨ ∃ q', ps[k - 1]? = some q' ∧ q'.kind ≠ q.kind)) := hnw
        clear hnw
        go_cut [37] from 24 to 37 (fun s37 wy => Hid (s37 = .bool nw) ∧ Below W1.heap.size W1 wy)
        case first =>
          rcases Nat.eq_zero_or_pos k with h0 | h0
          · have hnt : nw = true := HNW.out.2 (.inl h0)
            subst hnt
            have d1 : ((k : Int) == 0) = true := by simp [h0]
            clear h0
            go_quiet (fail)
            go_wp2_with fail
            go_meet
            exact ⟨rfl, by first | exact below_drewX (Below.refl _ _) _ | exact Below.refl _ _⟩
          · obtain ⟨m, rfl⟩ : ∃ m, k = m + 1 := ⟨k - 1, by omega⟩
            obtain ⟨b8, o8, c8, q', vn', vl', e8, hs', ⟨z0, _, _, _, _, _⟩, _⟩ := (HR.out.2.2.1.below H1.out.2.2.1).at (show m < ps.length by omega)
            simp only [Value.slice.injEq, Option.some.injEq, Addr.mk.injEq, and_true, true_and] at e8
            obtain ⟨⟨rfl, rfl⟩, rfl⟩ := e8
            have d1 : ((m : Int) + 1 == 0) = false := by simp; omega
            have d2 : ((((m + 1 : Nat) : Int)) == 0) = false := by simp; omega
            have d3 : decide ((m : Int) + 1 = 0) = false := by simp; omega
            have d4 : decide (((m + 1 : Nat) : Int) = 0) = false := by simp; omega
            have i0 : (0 : Int) ≤ (m : Int) := by omega
            have i2 : (m : Int) < (ps.length : Int) := by omega
            have i3 : IntKind.i64.wrap ((m : Int) + 1 - 1) = (m : Int) := by rw [show (m : Int) + 1 - 1 = (m : Int) by omega]; simp [IntKind.wrap, IntKind.bits, IntKind.signed]; omega
            have i4 : IntKind.i64.wrap (m : Int) = (m : Int) := by simp [IntKind.wrap, IntKind.bits, IntKind.signed]; omega
            obtain ⟨kd, hkd⟩ : ∃ kd, kd = q'.kind := ⟨_, rfl⟩
            rw [← hkd] at z0
            have HK : Hid (kd = q'.kind ∧ ps[m]? = some q') := ⟨hkd, hs'⟩
            clear hkd hs' h0
            by_cases hkk : kd = q.kind
            · have hnf : nw = false := by
                cases e : nw with
                | false => rfl
                | true =>
                  rcases HNW.out.1 e with h | ⟨q2, h, hne⟩
                  · omega
                  · rw [Nat.add_sub_cancel, HK.out.2] at h
                    cases h
                    exact absurd (HK.out.1.symm.trans hkk) hne
              subst hnf
              have g1 : (q.kind != kd) = false := by simp [hkk]
              clear hkk
              go_quiet (fail)
              go_wp2_with fail
              go_meet
              exact ⟨rfl, by first | exact below_drewX (Below.refl _ _) _ | exact Below.refl _ _⟩
            · have hnt : nw = true := HNW.out.2 (.inr ⟨q', by rw [Nat.add_sub_cancel]; exact HK.out.2, by rw [← HK.out.1]; exact hkk⟩)
              subst hnt
              have g1 : (q.kind != kd) = true := by simp; exact fun e => hkk e.symm
              have g2 : ¬ q.kind = kd := fun e => hkk e.symm
              clear hkk
              go_quiet (fail)
              go_wp2_with fail
              go_meet
              exact ⟨rfl, by first | exact below_drewX (Below.refl _ _) _ | exact Below.refl _ _⟩
        case rest =>
          obtain ⟨H37, hby⟩ := hcut
          rename World => wy
          have H2 : Hid (IOx X N0 k frm tto num W0 wy (bunsP (ps.take k)) ∧ wy.heap[P]? = some (.cells #[.int .i64 q.kind, .string q.ref, .string q.other, .int .i64 q.day, .slice An q.notes.length Cn, .slice Al q.lines.length Cl] 66) ∧ Below W0.heap.size W0 wy) := ⟨H1.out.1.below hby, (hby.block P H1.out.2.2.2.2.2.1).trans H1.out.2.1, H1.out.2.2.1.trans (hby.mono H1.out.2.2.1.size)⟩
          have HT : Hid (ps.take (k + 1) = ps.take k ++ [q] ∧ (ps.take k).length = k) := ⟨by rw [List.take_add_one, H1.out.2.2.2.2.1]; rfl, by rw [List.length_take]; omega⟩
          clear hby pf y0 y1 y2 y3 y4 y5 p3
          go_wp2_with fail
          go_cut [] from 38 to 49 (fun wz => Hid (IOl X N0 k frm tto num W0 wz (msgP k q) (bunsP (ps.take (k + 1))) ∧ wz.heap[P]? = some (.cells #[.int .i64 q.kind, .string q.ref, .string q.other, .int .i64 q.day, .slice An q.notes.length Cn, .slice Al q.lines.length Cl] 66)))
          case first =>
            have h37 := H37.out
            subst h37
            obtain ⟨Ab, Cb, bs, hX, hO, hL, hB, hN, hbl⟩ := H2.out.1
            cases nw with
            | true =>
              have HQ : Hid (ps.take k = [] ∨ ∃ q', (ps.take k).getLast? = some q' ∧ q'.kind ≠ q.kind) := by
                rcases HNW.out.1 rfl with h | ⟨q', h, hne⟩
                · exact .inl (by rw [h]; rfl)
                · by_cases h0 : k = 0
                  · exact .inl (by rw [h0]; rfl)
                  · exact .inr ⟨q', by rw [List.getLast?_eq_getElem?, HT.out.2, List.getElem?_take_of_lt (by omega)]; exact h, hne⟩
              have ha : Below wy.heap.size wy (wy.alloc (.cells #[.int .i64 q.kind, .int .i64 ((bs.length : Int) + 1), .slice none 0 0] 95)) := (Below.refl _ _).alloc (Nat.le_refl _) _
              have hbl2 : bs.length ≤ 1048576 := by omega
              have H3 : Hid (wy.heap[X]? = some (.cells #[.string frm, .string tto, .int .i64 num, .slice Ab bs.length Cb] 44) ∧ OwnBs N0 wy (.slice Ab bs.length Cb) bs ∧ bs.map (·.1) = bunsP (ps.take k) ∧ N0 ≤ wy.heap.size ∧ bs.length ≤ k ∧ Below wy.heap.size wy (wy.alloc (.cells #[.int .i64 q.kind, .int .i64 ((bs.length : Int) + 1), .slice none 0 0] 95))) := ⟨hX, hO, hL, hN, hbl, ha⟩
              obtain ⟨_, x0, x1, x2, x3⟩ := ix4 hX
              obtain ⟨pf, y0, y1, y2, y3, y4, y5⟩ := box6P H2.out.2.1
              have rowN := (hO.below ha).row
              have hsN : N0 ≤ (wy.alloc (.cells #[.int .i64 q.kind, .int .i64 ((bs.length : Int) + 1), .slice none 0 0] 95)).heap.size := Nat.le_trans hN ha.size
              have hmx : bs.length + 1 ≤ maxLen := by unfold maxLen; omega
              clear hX hO hL hB hN hbl ha
              go_wp2_with (first | (at_builtin; go_must (refine wpList_append_lies _ (by rfl) _ _ _ (by rfl) N0 95 j0 _ 3 40 Tryz.underlying42 hj0i hi0 hi1 hi2 rfl (by omega) (.slice Ab bs.length Cb) bs.length (bs.flatMap clBv) (by rfl) rowN ⟨wy.heap.size, 0, none⟩ 1 1 [.int .i64 q.kind, .int .i64 ((bs.length : Int) + 1), .slice none 0 0] (by rfl) (by rfl) (World.news_of_block (cs := #[.int .i64 q.kind, .int .i64 ((bs.length : Int) + 1), .slice none 0 0]) (t := 95) (fr := (0, 0)) (World.alloc_heap_new wy _)) (by simp [Value.oneCell']) (by omega) hmx (by omega) hsN (wy.heap.size + 1) (by simp) ?_; intro g cap w7 hown7 hgrow7 hat7 hlt7; have H7 : Hid (w7.heap[X]? = some (.cells #[.string frm, .string tto, .int .i64 num, .slice Ab bs.length Cb] 44) ∧ OwnBs N0 w7 (.slice (some ⟨g, 0, none⟩) (bs.length + 1) cap) (bs ++ [(⟨q.kind, (bs.length : Int) + 1, []⟩, .slice none 0 0, [])]) ∧ Below W0.heap.size W0 w7 ∧ N0 ≤ w7.heap.size ∧ w7.heap[P]? = some (.cells #[.int .i64 q.kind, .string q.ref, .string q.other, .int .i64 q.day, .slice An q.notes.length Cn, .slice Al q.lines.length Cl] 66)) := newB_next H3.out.1 H3.out.2.1 H2.out.2.1 H2.out.2.2 H3.out.2.2.2.1 H3.out.2.2.2.2.2 HX.out.2.2.2.1 (Nat.le_trans HX.out.2.1.size (Nat.le_of_eq HX.out.2.2.2.2.symm)) hown7 hgrow7; obtain ⟨xf, _, _, _, _⟩ := ix4 H7.out.1; clear x0 x1 x2 x3 pf y0 y1 y2 y3 y4 y5 rowN hsN hown7 hgrow7 hat7 hlt7; try dsimp only)))
              go_wp2_with fail
              go_meet
              have hX7 : (w7.setCell ⟨X, 3, none⟩ (.slice (some ⟨g, 0, none⟩) (bs.length + 1) cap)).heap[X]? = some (.cells #[.string frm, .string tto, .int .i64 num, .slice (some ⟨g, 0, none⟩) (bs.length + 1) cap] 44) := heap_setCell_same _ X 3 _ _ _ H7.out.1
              refine ⟨?_, ?_⟩
              · rw [HT.out.1]
                exact IOl.new hX7 H3.out.2.1 H3.out.2.2.1 (H7.out.2.2.1.setCell HX.out.2.2.1 _) (by simpa [World.setCell] using H7.out.2.2.2.1) H3.out.2.2.2.2.1 HQ.out HT.out.2 (H7.out.2.1.setX HX.out.2.2.2.1 _ _) rfl (by simp)
              · exact (heap_setCell_other _ _ _ _ (by have := HX.out.2.2.2.1; have := H1.out.2.2.2.2.2.2; show P ≠ X; omega)).trans H7.out.2.2.2.2
            | false =>
              have HQ : Hid (∃ q', (ps.take k).getLast? = some q' ∧ q'.kind = q.kind) := by
                have hn : ¬ (k = 0 ∨ ∃ q', ps[k - 1]? = some q' ∧ q'.kind ≠ q.kind) := fun h => by have := HNW.out.2 h; cases this
                have h0 : k ≠ 0 := fun e => hn (.inl e)
                have hk1 : ps[k - 1]? = some (ps[k - 1]'(by omega)) := List.getElem?_eq_getElem (by omega)
                refine ⟨_, by rw [List.getLast?_eq_getElem?, HT.out.2, List.getElem?_take_of_lt (by omega)]; exact hk1, ?_⟩
                exact Classical.byContradiction fun g => hn (.inr ⟨_, hk1, g⟩)
              clear hX hO hL hB hN hbl
              go_wp2_with fail
              go_meet
              obtain ⟨q', h1, h2⟩ := HQ.out
              refine ⟨?_, H2.out.2.1⟩
              rw [HT.out.1]
              exact H2.out.1.same h1 h2 HT.out.2
          case rest =>
            obtain ⟨hL, hPz⟩ := hcut.out
            rename World => wz
            obtain ⟨g, Cb, pre, b, mv, ms, hX, hO, hLL, hB, hN, hpl2, hml⟩ := hL
            have hlen : (pre ++ [((b, mv, ms) : BunV)]).length = pre.length + 1 := by simp
            have hr := hO.row
            rw [hlen] at hr
            have hmrow : wz.ownsRow N0 98 2 mv ms.length (ms.flatMap clMv) := (hO.msgs (b, mv, ms) (by simp)).1.row
            obtain ⟨Am, Cm, rfl⟩ := own_formX hmrow
            clear hmrow
            have hgN : N0 ≤ g := (hr.lt g rfl).1
            have hmv : wz.cell? ⟨g, pre.length * 3 + 2, none⟩ = some (.slice Am ms.length Cm) := by
              rw [hr.cellAt _ (by omega), List.flatMap_append, List.getElem?_append_right (by rw [clBv_len]; omega), clBv_len]
              simp [clBv]
            have hml2 : ms.length ≤ 1048576 := by omega
            have hmx : ms.length + 1 ≤ maxLen := by unfold maxLen; omega
            have hpl3 : pre.length ≤ 1048576 := by omega
            have H4 : Hid (wz.heap[X]? = some (.cells #[.string frm, .string tto, .int .i64 num, .slice (some ⟨g, 0, none⟩) (pre.length + 1) Cb] 44) ∧ OwnBs N0 wz (.slice (some ⟨g, 0, none⟩) (pre.length + 1) Cb) (pre ++ [(b, .slice Am ms.length Cm, ms)]) ∧ pre.map (·.1) ++ [⟨b.kind, b.num, b.msgs ++ [msgP k q]⟩] = bunsP (ps.take (k + 1)) ∧ Below W0.heap.size W0 wz ∧ N0 ≤ wz.heap.size ∧ pre.length ≤ k ∧ N0 ≤ g) := ⟨hX, hO, hLL, hB, hN, hpl2, hgN⟩
            have QB : Hid (∀ W, Below wz.heap.size wz W → Calls Tryz.prog 85 #[.agg #[.int .i64 q.kind, .string q.ref, .string q.other, .int .i64 q.day, .slice An q.notes.length Cn, .slice Al q.lines.length Cl]] W fun e w' => ∃ u pp, e = .returned u ∧ OwnL W.heap.size w' u pp (bodyW wordsI q) ∧ Below W.heap.size W w') := fun W hW => by
              have hq := hB.trans (hW.mono hB.size)
              exact bodyOf_any q _ _ W hqk.2 hqk.1 (H1.out.2.2.2.1 W hq) (HR.out.2.2.2.2.1.2 k q H1.out.2.2.2.2.1) (HR.out.2.2.2.1.below hq)
            have CH : Hid (∀ W, Below wz.heap.size wz W → W.cell? ⟨g, pre.length * 3 + 2, none⟩ = some (.slice Am ms.length Cm) ∧ W.heap[P]? = some (.cells #[.int .i64 q.kind, .string q.ref, .string q.other, .int .i64 q.day, .slice An q.notes.length Cn, .slice Al q.lines.length Cl] 66) ∧ OwnBs N0 W (.slice (some ⟨g, 0, none⟩) (pre.length + 1) Cb) (pre ++ [(b, .slice Am ms.length Cm, ms)]) ∧ Below W0.heap.size W0 W ∧ N0 ≤ W.heap.size ∧ W.heap[X]? = some (.cells #[.string frm, .string tto, .int .i64 num, .slice (some ⟨g, 0, none⟩) (pre.length + 1) Cb] 44)) := fun W hW =>
              ⟨(hW.cell (World.block_lt_of_cell? _ _ hmv)).trans hmv, (hW.block P (Array.getElem?_eq_some_iff.1 hPz).1).trans hPz, hO.below hW, hB.trans (hW.mono hB.size), Nat.le_trans hN hW.size, (hW.block X (Array.getElem?_eq_some_iff.1 hX).1).trans hX⟩
            obtain ⟨_, x0, x1, x2, x3⟩ := ix4 hX
            clear hX hO hLL hB hN hpl2 hml hr hlen hmv hPz hgN
            have hw : IntKind.i64.wrap ((k : Int) + 1) = (k : Int) + 1 := by rw [IntKind.wrap_i64]; omega
            go_upto_region 8 with fail
            clear x0 x1 x2 x3
            obtain ⟨c1, c2, _⟩ := CH.out wz.drew (Below.refl _ _).drew
            obtain ⟨_, y0, y1, y2, y3, y4, y5⟩ := box6P c2
            clear c2
            go_region_law (first | (go_simp; go_at_call 85; go_must (refine (QB.out _ (Below.refl _ _).drew).mono ?_; rintro e wc ⟨u, pp, rfl, hV, hbc⟩; obtain ⟨A3, C3, hu3⟩ := own_formX hV.row; subst hu3; have bc : Below wz.heap.size wz wc := (Below.refl wz.heap.size wz).drew.trans hbc; have HC : Hid (OwnL wz.heap.size wc (.slice A3 (bodyW wordsI q).length C3) pp (bodyW wordsI q) ∧ Below wz.heap.size wz wc) := ⟨hV, bc⟩; obtain ⟨d1, _⟩ := CH.out wc bc; obtain ⟨d2, _⟩ := CH.out (wc.alloc (.cells #[.int .i64 ((k : Int) + 1), .slice A3 (bodyW wordsI q).length C3] 98)) (bc.alloc bc.size _); have rowM := (((CH.out _ (bc.alloc bc.size (.cells #[.int .i64 ((k : Int) + 1), .slice A3 (bodyW wordsI q).length C3] 98))).2.2.1.msgs (b, .slice Am ms.length Cm, ms) (by simp)).1.row); have hsN : N0 ≤ (wc.alloc (.cells #[.int .i64 ((k : Int) + 1), .slice A3 (bodyW wordsI q).length C3] 98)).heap.size := (CH.out _ (bc.alloc bc.size _)).2.2.2.2.1; clear hV hbc bc; try dsimp only)) | (go_must (refine step_append_lies _ (by rfl) _ _ _ (by rfl) N0 98 l0 _ 2 32 Tryz.underlying93 hl0i ki0 ki1 ki2 rfl (by omega) (.slice Am ms.length Cm) ms.length (ms.flatMap clMv) (by rfl) rowM ⟨wc.heap.size, 0, none⟩ 1 1 [.int .i64 ((k : Int) + 1), .slice A3 (bodyW wordsI q).length C3] (by rfl) (by rfl) (World.news_of_block (cs := #[.int .i64 ((k : Int) + 1), .slice A3 (bodyW wordsI q).length C3]) (t := 98) (fr := (0, 0)) (World.alloc_heap_new wc _)) (by simp [Value.oneCell']) (by omega) hmx (by omega) hsN (wc.heap.size + 1) (by simp) ?_; intro gg cap w7 hown7 hgrow7 hat7 hlt7; have H7 : Hid _ := addM_next (CH.out _ (HC.out.2.alloc HC.out.2.size _)) HC.out.1 HC.out.2 H4.out.2.2.2.2.1 HX.out.2.2.2.1 (Nat.le_trans HX.out.2.1.size (Nat.le_of_eq HX.out.2.2.2.2.symm)) hown7 hgrow7 hat7 (by simp); obtain ⟨e1, e2⟩ := H7.out.1; try dsimp only)))
            all_goals (
              have HF : Hid (IOx X N0 (k + 1) frm tto num W0 (w7.setCell ⟨g, pre.length * 3 + 2, none⟩ (.slice (some ⟨gg, 0, none⟩) (ms.length + 1) cap)) (bunsP (ps.take (k + 1)))) :=
                IOl.done ((heap_setCell_other _ _ _ _ (by have := HX.out.2.2.2.1; have := H4.out.2.2.2.2.2.2; show X ≠ g; omega)).trans H7.out.2.2.2.2) H7.out.2.1 (by have := H4.out.2.2.1; simpa [msgP] using this) (H7.out.2.2.1.setCell (Nat.le_trans HX.out.2.1.size (Nat.le_trans (Nat.le_of_eq HX.out.2.2.2.2.symm) H4.out.2.2.2.2.2.2)) _) (by simpa [World.setCell] using H7.out.2.2.2.1) H4.out.2.2.2.2.2.1
              clear hown7 hgrow7 hat7 hlt7 rowM hsN d1 d2 e1 e2 c1 y0 y1 y2 y3 y4 y5 hw
              go_wp2
              go_roundw
              case rel => exact ⟨k + 1, by go_num, by omega, HF.out⟩
              case measure => simp [intOf]; omega)
      · obtain rfl : k = ps.length := by omega
        have hlt' : ¬ ((ps.length : Nat) : Int) < (ps.length : Int) := by omega
        obtain ⟨Ab, Cb, bs, hX, hO, hL, hB, hN, _⟩ := HI.out
        have hZ := (hB.block _ (Array.getElem?_eq_some_iff.1 HR.out.1).1).trans HR.out.1
        have hlw : w.heap.size + 1 < W0.heap.size := (Array.getElem?_eq_some_iff.1 HR.out.1).1
        have HF : Hid (OwnBs N0 wr (.slice Ab bs.length Cb) bs ∧ bs.map (·.1) = bunsP ps ∧ Below w.heap.size w wr ∧ w.heap.size + 1 < N0 ∧ w.heap.size ≤ N0) := ⟨hO, by rw [hL, List.take_length], HR.out.2.1.trans (hB.mono HR.out.2.1.size), by have := HX.out; omega, by have := HX.out; omega⟩
        have hne : w.heap.size + 1 ≠ X := by have := HX.out.2.2.1; omega
        obtain ⟨_, x0, x1, x2, x3⟩ := ix4 hX
        obtain ⟨zf, z0, z1, z2, z3⟩ := ix4 hZ
        obtain ⟨_, f0, f1, f2, f3⟩ := ix4 (ix_set4 (.string frm) (.string tto) (.int .i64 num) (.slice Ab bs.length Cb) hZ)
        clear hX hO hL hB hN hZ hlw HI
        go_wp2
        refine bodyPost_ret (v := .agg #[.string frm, .string tto, .int .i64 num, .slice Ab bs.length Cb]) (by simp [results, Tryz.results46, go_sem, f0, f1, f2, f3]) rfl ⟨_, rfl, bs, ?_, HF.out.2.1, ?_⟩
        · exact ((((HF.out.1.setX HF.out.2.2.2.1 _ _).setX HF.out.2.2.2.1 _ _).setX HF.out.2.2.2.1 _ _).setX HF.out.2.2.2.1 _ _).monoX HF.out.2.2.2.2
        · exact (((HF.out.2.2.1.setCell (Nat.le_succ _) _).setCell (Nat.le_succ _) _).setCell (Nat.le_succ _) _).setCell (Nat.le_succ _) _
end Go.Proofs.YtkaolpnbddjdpaaGreatDoor
