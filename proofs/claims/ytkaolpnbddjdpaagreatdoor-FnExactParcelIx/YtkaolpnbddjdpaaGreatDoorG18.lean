/- Texts of ours put together: IxSp. -/
import Derived.Test.YtkaolpnbddjdpaaGreatDoorG11
import Derived.Test.YtkaolpnbddjdpaaGreatDoorG17
namespace Go.Proofs.YtkaolpnbddjdpaaGreatDoor
open Go.ChangeShapes Go.WideShapes Go.ChangeAt Go.RowKit
theorem cell_grownS {W W' : World} {row : Option Nat} {N b o : Nat} {v : Value} (h : W.cell? ⟨b, o, none⟩ = some v) (hg : W.grownBy W' row) (hr : ∀ j, row = some j → N ≤ j) (hb : b < N) : W'.cell? ⟨b, o, none⟩ = some v := by
  have hlt := World.block_lt_of_cell? _ _ h
  rw [← h]
  unfold World.cell?
  rw [hg.block b hlt (fun e => by have := hr b e.symm; omega)]
theorem held_grown {W W' : World} {row : Option Nat} {N X P b9 i0 i1 i2 i3 i4 i5 : Nat} {c0 c1 d0 d1 d2 d3 d4 d5 : Value} (h : (W.cell? ⟨X, 3, none⟩ = some c0 ∧ W.cell? ⟨P, 3, none⟩ = some c1 ∧ W.cell? ⟨b9, i0, none⟩ = some d0 ∧ W.cell? ⟨b9, i1, none⟩ = some d1 ∧ W.cell? ⟨b9, i2, none⟩ = some d2 ∧ W.cell? ⟨b9, i3, none⟩ = some d3 ∧ W.cell? ⟨b9, i4, none⟩ = some d4 ∧ W.cell? ⟨b9, i5, none⟩ = some d5)) (hg : W.grownBy W' row) (hr : ∀ j, row = some j → N ≤ j) (h1 : X < N) (h2 : P < N) (h3 : b9 < N) : (W'.cell? ⟨X, 3, none⟩ = some c0 ∧ W'.cell? ⟨P, 3, none⟩ = some c1 ∧ W'.cell? ⟨b9, i0, none⟩ = some d0 ∧ W'.cell? ⟨b9, i1, none⟩ = some d1 ∧ W'.cell? ⟨b9, i2, none⟩ = some d2 ∧ W'.cell? ⟨b9, i3, none⟩ = some d3 ∧ W'.cell? ⟨b9, i4, none⟩ = some d4 ∧ W'.cell? ⟨b9, i5, none⟩ = some d5) := by
  obtain ⟨a0, a1, a2, a3, a4, a5, a6, a7⟩ := h
  exact ⟨cell_grownS a0 hg hr h1, cell_grownS a1 hg hr h2, cell_grownS a2 hg hr h3, cell_grownS a3 hg hr h3, cell_grownS a4 hg hr h3, cell_grownS a5 hg hr h3, cell_grownS a6 hg hr h3, cell_grownS a7 hg hr h3⟩
theorem cell_setS {W : World} {b o g i : Nat} {v x : Value} (h : W.cell? ⟨b, o, none⟩ = some v) (hb : b ≠ g) : (W.setCell ⟨g, i, none⟩ x).cell? ⟨b, o, none⟩ = some v :=
  (World.cell?_setCell_other _ _ _ _ (fun e => hb (by cases e; rfl))).trans h
theorem held_set {W : World} {g X P b9 i0 i1 i2 i3 i4 i5 : Nat} {c0 c1 d0 d1 d2 d3 d4 d5 : Value} (h : (W.cell? ⟨X, 3, none⟩ = some c0 ∧ W.cell? ⟨P, 3, none⟩ = some c1 ∧ W.cell? ⟨b9, i0, none⟩ = some d0 ∧ W.cell? ⟨b9, i1, none⟩ = some d1 ∧ W.cell? ⟨b9, i2, none⟩ = some d2 ∧ W.cell? ⟨b9, i3, none⟩ = some d3 ∧ W.cell? ⟨b9, i4, none⟩ = some d4 ∧ W.cell? ⟨b9, i5, none⟩ = some d5)) (i : Nat) (x : Value) (h1 : X ≠ g) (h2 : P ≠ g) (h3 : b9 ≠ g) : ((W.setCell ⟨g, i, none⟩ x).cell? ⟨X, 3, none⟩ = some c0 ∧ (W.setCell ⟨g, i, none⟩ x).cell? ⟨P, 3, none⟩ = some c1 ∧ (W.setCell ⟨g, i, none⟩ x).cell? ⟨b9, i0, none⟩ = some d0 ∧ (W.setCell ⟨g, i, none⟩ x).cell? ⟨b9, i1, none⟩ = some d1 ∧ (W.setCell ⟨g, i, none⟩ x).cell? ⟨b9, i2, none⟩ = some d2 ∧ (W.setCell ⟨g, i, none⟩ x).cell? ⟨b9, i3, none⟩ = some d3 ∧ (W.setCell ⟨g, i, none⟩ x).cell? ⟨b9, i4, none⟩ = some d4 ∧ (W.setCell ⟨g, i, none⟩ x).cell? ⟨b9, i5, none⟩ = some d5) := by
  obtain ⟨a0, a1, a2, a3, a4, a5, a6, a7⟩ := h
  exact ⟨cell_setS a0 h1, cell_setS a1 h2, cell_setS a2 h3, cell_setS a3 h3, cell_setS a4 h3, cell_setS a5 h3, cell_setS a6 h3, cell_setS a7 h3⟩
theorem addS_next {X N g gg Cb cap H : Nat} {frm tto : ByteArray} {num nn : Int} {W0 wz wc w7 : World} {pre : List BunV} {b : Bun} {mv : Value} {ms : List MsgV} {gv : Value} {pp : List (Value × List Value)} {body : List Seg} {o : Obj} {c0 : Value}
    (h : (wc.alloc o).cell? ⟨g, pre.length * 3 + 2, none⟩ = some c0 ∧ True ∧ OwnBs N (wc.alloc o) (.slice (some ⟨g, 0, none⟩) (pre.length + 1) Cb) (pre ++ [(b, mv, ms)]) ∧ Below W0.heap.size W0 (wc.alloc o) ∧ N ≤ (wc.alloc o).heap.size ∧ (wc.alloc o).heap[X]? = some (.cells #[.string frm, .string tto, .int .i64 num, .slice (some ⟨g, 0, none⟩) (pre.length + 1) Cb] 44))
    (hV : OwnL wz.heap.size wc gv pp body) (hN : N ≤ wz.heap.size) (hX : X < N) (h0 : W0.heap.size ≤ N)
    (hr : w7.ownsRow N 98 2 (.slice (some ⟨gg, 0, none⟩) (ms.length + 1) cap) (ms.length + 1) (ms.flatMap clMv ++ [.int .i64 nn, gv])) (hg : (wc.alloc o).grownBy w7 mv.ownBlock) (hat : mv.ownBlock = some gg ∨ gg = H) (hH : H = (wc.alloc o).heap.size) :
    (w7.cell? ⟨g, pre.length * 3 + 2, none⟩ = some mv ∧ w7.frozen? ⟨g, pre.length * 3 + 2, none⟩ = false) ∧ OwnBs N (w7.setCell ⟨g, pre.length * 3 + 2, none⟩ (.slice (some ⟨gg, 0, none⟩) (ms.length + 1) cap)) (.slice (some ⟨g, 0, none⟩) (pre.length + 1) Cb) (pre ++ [(⟨b.kind, b.num, b.msgs ++ [⟨nn, body⟩]⟩, .slice (some ⟨gg, 0, none⟩) (ms.length + 1) cap, ms ++ [(⟨nn, body⟩, gv, pp)])]) ∧ Below W0.heap.size W0 w7 ∧ N ≤ w7.heap.size ∧ w7.heap[X]? = some (.cells #[.string frm, .string tto, .int .i64 num, .slice (some ⟨g, 0, none⟩) (pre.length + 1) Cb] 44) := by
  obtain ⟨_, _, hO, hB, hN2, hXX⟩ := h
  have ha : Below wc.heap.size wc (wc.alloc o) := (Below.refl _ _).alloc (Nat.le_refl _) _
  have hrow := (hO.msgs (b, mv, ms) (by simp)).1.row
  have hrl : ∀ j, mv.ownBlock = some j → N ≤ j := fun j e => (hrow.lt j e).1
  obtain ⟨k1, k2, k3⟩ := hO.addM (m := ⟨nn, body⟩) (gg := gg) (cap := cap) ((hV.below ha).mono hN) hr hg (by rw [← hH]; exact hat)
  exact ⟨⟨k2, k3⟩, k1, hB.trans ⟨hg.os, hg.tape, hg.output, hg.size, fun q hq => hg.block q (Nat.lt_of_lt_of_le hq hB.size) (fun e => by have := hrl q e.symm; omega)⟩, Nat.le_trans hN2 hg.size, (hg.block X (Array.getElem?_eq_some_iff.1 hXX).1 (fun e => by have := hrl X e.symm; omega)).trans hXX⟩
theorem papB_okX {p : Pap} (h : papB p = true) : PapOk p := by simpa [papB] using h
/-- With the place of the last bundle. -/
def IOln (X N k n : Nat) (frm tto : ByteArray) (num : Int) (W0 W : World) (m : Msg) (L : List Bun) : Prop := ∃ g Cb pre b mv ms, pre.length = n ∧ W.heap[X]? = some (.cells #[.string frm, .string tto, .int .i64 num, .slice (some ⟨g, 0, none⟩) (n + 1) Cb] 44) ∧ OwnBs N W (.slice (some ⟨g, 0, none⟩) (n + 1) Cb) (pre ++ [(b, mv, ms)]) ∧ pre.map (·.1) ++ [⟨b.kind, b.num, b.msgs ++ [m]⟩] = L ∧ Below W0.heap.size W0 W ∧ N ≤ W.heap.size ∧ pre.length ≤ k ∧ ms.length ≤ k
theorem IOl.withN {X N k : Nat} {frm tto : ByteArray} {num : Int} {W0 W : World} {m : Msg} {L : List Bun} (h : IOl X N k frm tto num W0 W m L) : ∃ n, IOln X N k n frm tto num W0 W m L := by
  obtain ⟨g, Cb, pre, b, mv, ms, h1, h2, h3, h4, h5, h6, h7⟩ := h
  exact ⟨pre.length, g, Cb, pre, b, mv, ms, rfl, h1, h2, h3, h4, h5, h6, h7⟩
theorem IOln.len {X N k n : Nat} {frm tto : ByteArray} {num : Int} {W0 W : World} {m : Msg} {L : List Bun} (h : IOln X N k n frm tto num W0 W m L) : L.length = n + 1 := by
  obtain ⟨g, Cb, pre, b, mv, ms, h0, _, _, h3, _⟩ := h
  rw [← h3, ← h0]
  simp
theorem buns_len_new {qs : List Pap} {q : Pap} (hq : qs = [] ∨ ∃ q', qs.getLast? = some q' ∧ q'.kind ≠ q.kind) : (bunsP (qs ++ [q])).length = (bunsP qs).length + 1 := by
  rw [bunsP_snoc]
  rcases hq with rfl | ⟨q', hl, hne⟩
  · simp [bunsP_nil, addB]
  · obtain ⟨pr, b, e, hb⟩ := bunsP_last hl
    rw [e, addB_new _ _ _ _ (by rw [hb]; exact hne)]
    simp
theorem buns_len_same {qs : List Pap} {q q' : Pap} (hl : qs.getLast? = some q') (hk : q'.kind = q.kind) : (bunsP (qs ++ [q])).length = (bunsP qs).length := by
  rw [bunsP_snoc]
  obtain ⟨pr, b, e, hb⟩ := bunsP_last hl
  rw [e, addB_in _ _ _ _ (by rw [hb, hk])]
  simp
theorem newS_next {X N g cap : Nat} {frm tto : ByteArray} {num kk nn : Int} {W0 W w7 : World} {Ab : Option Addr} {Cb : Nat} {bs : List BunV} {o : Obj} (h1 : W.heap[X]? = some (.cells #[.string frm, .string tto, .int .i64 num, .slice Ab bs.length Cb] 44)) (h2 : OwnBs N W (.slice Ab bs.length Cb) bs) (h3 : Below W0.heap.size W0 W) (h4 : N ≤ W.heap.size) (ha : Below W.heap.size W (W.alloc o)) (hX : X < N) (h0 : W0.heap.size ≤ N)
    (hr : w7.ownsRow N 95 3 (.slice (some ⟨g, 0, none⟩) (bs.length + 1) cap) (bs.length + 1) (bs.flatMap clBv ++ [.int .i64 kk, .int .i64 nn, .slice none 0 0])) (hg : (W.alloc o).grownBy w7 (Value.slice Ab bs.length Cb).ownBlock) :
    w7.heap[X]? = some (.cells #[.string frm, .string tto, .int .i64 num, .slice Ab bs.length Cb] 44) ∧ OwnBs N w7 (.slice (some ⟨g, 0, none⟩) (bs.length + 1) cap) (bs ++ [(⟨kk, nn, []⟩, .slice none 0 0, [])]) ∧ Below W0.heap.size W0 w7 ∧ N ≤ w7.heap.size := by
  have h2' := h2.below ha
  have hrl : ∀ j, (Value.slice Ab bs.length Cb).ownBlock = some j → N ≤ j := fun j e => (h2'.row.lt j e).1
  have h3' := h3.trans (ha.mono h3.size)
  refine ⟨?_, h2'.add hr hg, h3'.trans ⟨hg.os, hg.tape, hg.output, hg.size, fun q hq => hg.block q (Nat.lt_of_lt_of_le hq h3'.size) (fun e => by have := hrl q e.symm; omega)⟩, Nat.le_trans (Nat.le_trans h4 ha.size) hg.size⟩
  exact (hg.block X (Nat.lt_of_lt_of_le (Array.getElem?_eq_some_iff.1 h1).1 ha.size) (fun e => by have := hrl X e.symm; omega)).trans ((ha.block X (Array.getElem?_eq_some_iff.1 h1).1).trans h1)
set_option maxRecDepth 100000 in
set_option maxHeartbeats 16000000 in
theorem l06Ix_any (p : Pcl) (v : Value) (w : World) (h : PclR w v p) (hq : ∀ q ∈ p.papers, papB q = true) (hI : ∀ q ∈ p.papers, PapI q) (hB : BdPc 1048576 p) :
    Calls Tryz.prog 33 #[.agg #[.string p.frm, .string p.to, .int .i64 p.num, v]] w fun e w' => ∃ u bs, e = .returned (.agg #[.string p.frm, .string p.to, .int .i64 p.num, u]) ∧ OwnBs w.heap.size w' u bs ∧ bs.map (·.1) = bunsP p.papers ∧ Below w.heap.size w w' := by
  obtain ⟨frm, tto, num, ps⟩ := p
  dsimp only at hq hI ⊢
  obtain ⟨z1, z2, hBp⟩ := hB
  dsimp only at z1 z2 hBp
  have hps := h.ps
  dsimp only at hps
  obtain ⟨A, C, rfl⟩ := hps.val
  have hpl : ps.length ≤ 1048576 := hBp.1
  obtain ⟨W0, hW0⟩ : ∃ W0, (w.alloc (.cells #[.string frm, .string tto, .int .i64 num, .slice A ps.length C] 27)).alloc (.cells #[.string ⟨#[]⟩, .string ⟨#[]⟩, .int .i64 0, .slice none 0 0] 44) = W0 := ⟨_, rfl⟩
  have hb0 : Below w.heap.size w W0 := by rw [← hW0]; exact ((Below.refl _ _).alloc (Nat.le_refl _) _).alloc (by simp) _
  obtain ⟨x0, x1⟩ : W0.heap[w.heap.size]? = some (.cells #[.string frm, .string tto, .int .i64 num, .slice A ps.length C] 27) ∧ W0.heap[w.heap.size + 1]? = some (.cells #[.string ⟨#[]⟩, .string ⟨#[]⟩, .int .i64 0, .slice none 0 0] 44) := by rw [← hW0]; exact ix_two
  have hz0 : W0.heap.size = w.heap.size + 1 + 1 := by rw [← hW0]; simp
  obtain ⟨WX, hWX⟩ : ∃ WX, W0.alloc (.cells #[.string frm, .string tto, .int .i64 num, .slice none 0 0] 44) = WX := ⟨_, rfl⟩
  obtain ⟨X, hXe⟩ : ∃ X, X = w.heap.size + 1 + 1 := ⟨_, rfl⟩
  have hbX : Below W0.heap.size W0 WX := by rw [← hWX]; exact (Below.refl _ _).alloc (Nat.le_refl _) _
  have hxX : WX.heap[X]? = some (.cells #[.string frm, .string tto, .int .i64 num, .slice none 0 0] 44) := by rw [hXe, ← hz0, ← hWX]; exact World.alloc_heap_new _ _
  have hzX : WX.heap.size = X + 1 := by rw [← hWX, hXe, ← hz0]; simp
  have HR : Hid (W0.heap[w.heap.size]? = some (.cells #[.string frm, .string tto, .int .i64 num, .slice A ps.length C] 27) ∧ W0.heap[w.heap.size + 1]? = some (.cells #[.string ⟨#[]⟩, .string ⟨#[]⟩, .int .i64 0, .slice none 0 0] 44) ∧ WX.heap[X]? = some (.cells #[.string frm, .string tto, .int .i64 num, .slice none 0 0] 44) ∧ Below w.heap.size w W0 ∧ RowPs W0 (.slice A ps.length C) ps ∧ BdPs 1048576 ps ∧ (∀ q ∈ ps, PapI q ∧ papB q = true) ∧ X = w.heap.size + 1 + 1 ∧ W0.heap.size = X ∧ Below W0.heap.size W0 WX ∧ WX.heap.size = X + 1) := ⟨x0, x1, hxX, hb0, hps.below hb0, hBp, fun q hx => ⟨hI q hx, hq q hx⟩, hXe, by omega, hbX, hzX⟩
  have HW0 : Hid (((w.alloc (.cells #[.string frm, .string tto, .int .i64 num, .slice A ps.length C] 27)).alloc (.cells #[.string ⟨#[]⟩, .string ⟨#[]⟩, .int .i64 0, .slice none 0 0] 44)).alloc (.cells #[.string frm, .string tto, .int .i64 num, .slice none 0 0] 44) = WX) := by show _ = _; rw [hW0]; exact hWX
  clear h hps hI hq hBp hb0 x0 x1 hW0 hz0 hWX hbX hxX hzX
  obtain ⟨j0, hj0i, hi0, hi1, hi2⟩ := info_parts infoBunX
  obtain ⟨l0, hl0i, ki0, ki1, ki2⟩ := info_parts infoMsgX
  go_enter Tryz.func33, Tryz.ntmps33
  go_upto_region 2 with fail
  try rw [HW0.out]
  try rw [← hXe]
  clear HW0 hXe
  obtain ⟨N0, hN0⟩ : ∃ N0, N0 = X + 1 := ⟨_, rfl⟩
  have HX : Hid (X < N0 ∧ N0 = WX.heap.size ∧ w.heap.size < X ∧ w.heap.size + 1 < X ∧ W0.heap.size ≤ X ∧ W0.heap.size ≤ N0) := ⟨by omega, by have := HR.out; omega, by have := HR.out; omega, by have := HR.out; omega, by have := HR.out; omega, by have := HR.out; omega⟩
  clear hN0
  go_wp2_with fail
  go_loopw [4, 5] (fun i s5 wr => ∃ k : Nat, i = .int .i64 (k : Int) ∧ k ≤ ps.length ∧ Hid (IOx X N0 k frm tto num W0 wr (bunsP (ps.take k)))) (fun i _ _ => ps.length - (intOf i).toNat)
  case atStart => exact ⟨0, rfl, by omega, none, 0, [], HR.out.2.2.1, OwnBs.nil _ _, rfl, HR.out.2.2.2.2.2.2.2.2.2.1, Nat.le_of_eq HX.out.2.1, Nat.le_refl _⟩
  case round =>
    obtain ⟨k, rfl, hk, HI⟩ := hrel
    have hwr : Below W0.heap.size W0 wr := by obtain ⟨_, _, _, _, _, _, h, _⟩ := HI.out; exact h
    have HPB : Hid (∀ W, Below W0.heap.size W0 W → W.heap[w.heap.size]? = some (.cells #[.string frm, .string tto, .int .i64 num, .slice A ps.length C] 27)) := fun W hW => (hW.block _ (Array.getElem?_eq_some_iff.1 HR.out.1).1).trans HR.out.1
    obtain ⟨_, _, _, _, p3⟩ := ix4 (HPB.out wr hwr)
    by_cases hlt : k < ps.length
    · have hlt' : (k : Int) < (ps.length : Int) := by omega
      obtain ⟨b9, o9, c9, q, vn, vl, e9, hs, hat, hpr⟩ := HR.out.2.2.2.2.1.at hlt
      simp only [Value.slice.injEq, true_and] at e9
      obtain ⟨rfl, rfl⟩ := e9
      obtain ⟨An, Cn, rfl⟩ := hpr.ns.val
      obtain ⟨Al, Cl, rfl⟩ := hpr.ls.val
      have HQ : Hid ((∀ W, Below W0.heap.size W0 W → (W.cell? ⟨b9, o9 + k * 6, none⟩ = some (.int .i64 q.kind) ∧ W.cell? ⟨b9, o9 + k * 6 + 1, none⟩ = some (.string q.ref) ∧ W.cell? ⟨b9, o9 + k * 6 + 2, none⟩ = some (.string q.other) ∧ W.cell? ⟨b9, o9 + k * 6 + 3, none⟩ = some (.int .i64 q.day) ∧ W.cell? ⟨b9, o9 + k * 6 + 4, none⟩ = some (.slice An q.notes.length Cn) ∧ W.cell? ⟨b9, o9 + k * 6 + 5, none⟩ = some (.slice Al q.lines.length Cl)) ∧ PapR W (.slice An q.notes.length Cn) (.slice Al q.lines.length Cl) q) ∧ ps[k]? = some q ∧ PapI q ∧ papB q = true ∧ BdP 1048576 q) := ⟨fun W hW => ⟨hat.below hW, hpr.below hW⟩, hs, (HR.out.2.2.2.2.2.2.1 q (List.mem_of_getElem? hs)).1, (HR.out.2.2.2.2.2.2.1 q (List.mem_of_getElem? hs)).2, HR.out.2.2.2.2.2.1.2 k q hs⟩
      have HT : Hid (ps.take (k + 1) = ps.take k ++ [q] ∧ (ps.take k).length = k) := ⟨by rw [List.take_add_one, hs]; rfl, by rw [List.length_take]; omega⟩
      clear hs hat hpr
      obtain ⟨Ab, Cb, bs, hX, hO, hL, hB, hN, hbl⟩ := HI.out
      have H1 : Hid (wr.heap[X]? = some (.cells #[.string frm, .string tto, .int .i64 num, .slice Ab bs.length Cb] 44) ∧ OwnBs N0 wr (.slice Ab bs.length Cb) bs ∧ bs.map (·.1) = bunsP (ps.take k) ∧ Below W0.heap.size W0 wr ∧ N0 ≤ wr.heap.size ∧ bs.length ≤ k) := ⟨hX, hO, hL, hB, hN, hbl⟩
      have hbl2 : bs.length ≤ 1048576 := by omega
      obtain ⟨xf, x0, x1, x2, x3⟩ := ix4 hX
      obtain ⟨y0, y1, y2, y3, y4, y5⟩ := (HQ.out.1 wr hwr).1
      obtain ⟨nw, hnw⟩ : ∃ nw : Bool, nw = true ↔ (bs = [] ∨ ∃ pre x, bs = pre ++ [x] ∧ x.1.kind ≠ q.kind) := by
        by_cases h : bs = [] ∨ ∃ pre x, bs = pre ++ [x] ∧ x.1.kind ≠ q.kind
        · exact ⟨true, by simp only [true_iff]; exact h⟩
        · exact ⟨false, by simp only [Bool.false_eq_true, false_iff]; exact h⟩
      have HNW : Hid (nw = true ↔ (bs = [] ∨ ∃ pre x, bs = pre ++ [x] ∧ x.1.kind ≠ q.kind)) := hnw
      clear hnw hX hO hL hB hN hbl HI
      go_upto_region 6 with fail
      go_cut [40] from 23 to 40 (fun s40 wy => Hid (s40 = .bool nw) ∧ Below wr.heap.size wr wy)
      case first =>
        rcases List.eq_nil_or_concat bs with h0 | ⟨pre, x, h0⟩
        · have hnt : nw = true := HNW.out.2 (.inl h0)
          subst hnt
          have d1 : ((bs.length : Int) == 0) = true := by simp [h0]
          clear h0
          go_quiet (fail)
          go_wp2_with fail
          go_meet
          exact ⟨rfl, by first | exact below_drewX (Below.refl _ _) _ | exact Below.refl _ _⟩
        · rw [List.concat_eq_append] at h0
          obtain ⟨b', mv, ms⟩ := x
          have hlen : bs.length = pre.length + 1 := by rw [h0]; simp
          have hr := H1.out.2.1.row
          have hcell : ∃ g, Ab = some ⟨g, 0, none⟩ ∧ wr.cell? ⟨g, pre.length * 3, none⟩ = some (.int .i64 b'.kind) := by
            rw [hlen] at hr
            obtain ⟨g, C', ev, _, _⟩ := own_gX hr
            cases ev
            refine ⟨g, rfl, ?_⟩
            rw [hr.cellAt _ (by omega), h0, List.flatMap_append, List.getElem?_append_right (by rw [clBv_len]; omega), clBv_len]
            simp [clBv]
          obtain ⟨g, rfl, hcell⟩ := hcell
          obtain ⟨m, hm⟩ : ∃ m, m = pre.length := ⟨_, rfl⟩
          rw [← hm] at hcell hlen
          have HLN : Hid (bs.length = m + 1) := hlen
          obtain ⟨kd, hkd⟩ : ∃ kd, kd = b'.kind := ⟨_, rfl⟩
          rw [← hkd] at hcell
          have HB' : Hid (bs = pre ++ [(b', mv, ms)] ∧ kd = b'.kind) := ⟨h0, hkd⟩
          have d1 : ((bs.length : Int) == 0) = false := by rw [beq_eq_false_iff_ne]; omega
          have d2 : ¬ (bs.length : Int) = 0 := by omega
          have d3 : decide ((bs.length : Int) = 0) = false := decide_eq_false (by omega)
          have i1 : (bs.length : Int) - 1 = (m : Int) := by omega
          have i2 : (m : Int) < (bs.length : Int) := by omega
          have i3 : IntKind.i64.wrap ((bs.length : Int) - 1) = (m : Int) := by rw [i1]; simp [IntKind.wrap, IntKind.bits, IntKind.signed]; omega
          have i5 : m < bs.length := by omega
          clear h0 hr hlen hm hkd
          by_cases hkk : kd = q.kind
          · have hnf : nw = false := by
              cases e : nw with
              | false => rfl
              | true =>
                rcases HNW.out.1 e with h | ⟨pre2, x2, h, hne⟩
                · rw [h] at d2; simp at d2
                · rw [HB'.out.1] at h
                  obtain ⟨_, e2⟩ := List.append_inj' h rfl
                  simp only [List.cons.injEq, and_true] at e2
                  subst e2
                  exact absurd (HB'.out.2.symm.trans hkk) hne
            subst hnf
            have g1 : (kd != q.kind) = false := by simp [hkk]
            clear hkk
            go_quiet (fail)
            go_wp2_with fail
            go_meet
            exact ⟨rfl, by first | exact below_drewX (Below.refl _ _) _ | exact Below.refl _ _⟩
          · have hnt : nw = true := HNW.out.2 (.inr ⟨pre, (b', mv, ms), HB'.out.1, by show b'.kind ≠ q.kind; rw [← HB'.out.2]; exact hkk⟩)
            subst hnt
            have g1 : (kd != q.kind) = true := by simpa using hkk
            have g2 : ¬ kd = q.kind := hkk
            clear hkk
            go_quiet (fail)
            go_wp2_with fail
            go_meet
            exact ⟨rfl, by first | exact below_drewX (Below.refl _ _) _ | exact Below.refl _ _⟩
      case rest =>
        obtain ⟨H40, hby⟩ := hcut
        rename World => wy
        have H2 : Hid (wy.heap[X]? = some (.cells #[.string frm, .string tto, .int .i64 num, .slice Ab bs.length Cb] 44) ∧ OwnBs N0 wy (.slice Ab bs.length Cb) bs ∧ bs.map (·.1) = bunsP (ps.take k) ∧ Below W0.heap.size W0 wy ∧ N0 ≤ wy.heap.size ∧ bs.length ≤ k) := ⟨(hby.block X (Array.getElem?_eq_some_iff.1 H1.out.1).1).trans H1.out.1, H1.out.2.1.below hby, H1.out.2.2.1, H1.out.2.2.2.1.trans (hby.mono H1.out.2.2.2.1.size), Nat.le_trans H1.out.2.2.2.2.1 hby.size, H1.out.2.2.2.2.2⟩
        clear hby xf x0 x1 x2 x3 y0 y1 y2 y3 y4 y5 p3 H1
        go_wp2_with fail
        go_cut [5] from 41 to 56 (fun s5 wz => ∃ n : Nat, s5 = .int .i64 ((n : Int) + 1) ∧ Hid (IOln X N0 k n frm tto num W0 wz (msgP k q) (bunsP (ps.take (k + 1)))))
        case first =>
          have h40 := H40.out
          subst h40
          cases nw with
          | true =>
            have HQ2 : Hid (ps.take k = [] ∨ ∃ q', (ps.take k).getLast? = some q' ∧ q'.kind ≠ q.kind) := by
              rcases HNW.out.1 rfl with h | ⟨pre, x, h, hne⟩
              · have h3 := H2.out.2.2.1
                rw [h] at h3
                have : msgsN (bunsP (ps.take k)) = 0 := by rw [← h3]; rfl
                rw [msgsN_buns] at this
                exact .inl (List.eq_nil_of_length_eq_zero this)
              · have h3 := H2.out.2.2.1
                rw [h, List.map_append] at h3
                rcases List.eq_nil_or_concat (ps.take k) with e | ⟨r, q', e⟩
                · rw [e] at h3; simp [bunsP_nil] at h3
                · rw [List.concat_eq_append] at e
                  have hgl : (ps.take k).getLast? = some q' := by rw [e]; simp
                  obtain ⟨pr, b, e2, hb⟩ := bunsP_last hgl
                  rw [e2] at h3
                  obtain ⟨_, e3⟩ := List.append_inj' h3 rfl
                  simp only [List.map_cons, List.map_nil, List.cons.injEq, and_true] at e3
                  exact .inr ⟨q', hgl, by rw [← hb, ← e3]; exact hne⟩
            have ha : Below wy.heap.size wy (wy.drew.alloc (.cells #[.int .i64 q.kind, .int .i64 ((bs.length : Int) + 1), .slice none 0 0] 95)) := (Below.refl _ _).drew.alloc (Nat.le_refl _) _
            have H3 : Hid (Below wy.drew.heap.size wy.drew (wy.drew.alloc (.cells #[.int .i64 q.kind, .int .i64 ((bs.length : Int) + 1), .slice none 0 0] 95))) := (Below.refl _ _).alloc (Nat.le_refl _) _
            have H2d : Hid (wy.drew.heap[X]? = some (.cells #[.string frm, .string tto, .int .i64 num, .slice Ab bs.length Cb] 44) ∧ OwnBs N0 wy.drew (.slice Ab bs.length Cb) bs ∧ Below W0.heap.size W0 wy.drew ∧ N0 ≤ wy.drew.heap.size) := ⟨H2.out.1, H2.out.2.1.below (Below.refl _ _).drew, H2.out.2.2.2.1.drew, H2.out.2.2.2.2.1⟩
            obtain ⟨xf, x0, x1, x2, x3⟩ := ix4 H2d.out.1
            obtain ⟨_, _, _, _, s3⟩ := ix4 ((ha.block X (Array.getElem?_eq_some_iff.1 H2.out.1).1).trans H2.out.1)
            have s3' : ((wy.alloc (.cells #[.int .i64 q.kind, .int .i64 ((bs.length : Int) + 1), .slice none 0 0] 95)).drew).cell? ⟨X, 3, none⟩ = some (.slice Ab bs.length Cb) := s3
            obtain ⟨_, _, _, _, p3⟩ := ix4 (HPB.out wy.drew H2d.out.2.2.1)
            obtain ⟨_, _, _, _, t3⟩ := ix4 (HPB.out _ (H2.out.2.2.2.1.trans (ha.mono H2.out.2.2.2.1.size)))
            obtain ⟨y0, _, _, _, _, _⟩ := (HQ.out.1 wy.drew H2d.out.2.2.1).1
            have rowN := (H2.out.2.1.below ha).row
            have hsN : N0 ≤ (wy.drew.alloc (.cells #[.int .i64 q.kind, .int .i64 ((bs.length : Int) + 1), .slice none 0 0] 95)).heap.size := Nat.le_trans H2.out.2.2.2.2.1 ha.size
            have hmx : bs.length + 1 ≤ maxLen := by unfold maxLen; omega
            have hw : IntKind.i64.wrap ((bs.length : Int) + 1) = (bs.length : Int) + 1 := by rw [IntKind.wrap_i64]; omega
            clear ha
            go_upto_region 7 with fail
            go_region_law (go_must (refine step_append_lies _ (by rfl) _ _ _ (by rfl) N0 95 j0 _ 3 40 Tryz.underlying42 hj0i hi0 hi1 hi2 rfl (by omega) (.slice Ab bs.length Cb) bs.length (bs.flatMap clBv) (by rfl) rowN ⟨wy.drew.heap.size, 0, none⟩ 1 1 [.int .i64 q.kind, .int .i64 ((bs.length : Int) + 1), .slice none 0 0] (by rfl) (by rfl) (World.news_of_block (cs := #[.int .i64 q.kind, .int .i64 ((bs.length : Int) + 1), .slice none 0 0]) (t := 95) (fr := (0, 0)) (World.alloc_heap_new wy.drew _)) (by simp [Value.oneCell']) (by omega) hmx (by omega) hsN (wy.drew.heap.size + 1) (by simp) ?_; intro g cap w7 hown7 hgrow7 hat7 hlt7; have H7 : Hid (w7.heap[X]? = some (.cells #[.string frm, .string tto, .int .i64 num, .slice Ab bs.length Cb] 44) ∧ OwnBs N0 w7 (.slice (some ⟨g, 0, none⟩) (bs.length + 1) cap) (bs ++ [(⟨q.kind, (bs.length : Int) + 1, []⟩, .slice none 0 0, [])]) ∧ Below W0.heap.size W0 w7 ∧ N0 ≤ w7.heap.size) := newS_next H2d.out.1 H2d.out.2.1 H2d.out.2.2.1 H2d.out.2.2.2 H3.out HX.out.1 HX.out.2.2.2.2.2 hown7 ⟨hgrow7.os, hgrow7.tape, hgrow7.output, hgrow7.size, hgrow7.block⟩; obtain ⟨zf, z0, z1, z2, z3⟩ := ix4 H7.out.1; try dsimp only))
            all_goals (
              clear hown7 hgrow7 hat7 hlt7 rowN hsN x0 x1 x2 x3 xf p3 t3 y0 s3 s3'
              have hX7 : (w7.setCell ⟨X, 3, none⟩ (.slice (some ⟨g, 0, none⟩) (bs.length + 1) cap)).heap[X]? = some (.cells #[.string frm, .string tto, .int .i64 num, .slice (some ⟨g, 0, none⟩) (bs.length + 1) cap] 44) := heap_setCell_same _ X 3 _ _ _ H7.out.1
              have HF : Hid (IOl X N0 k frm tto num W0 (w7.setCell ⟨X, 3, none⟩ (.slice (some ⟨g, 0, none⟩) (bs.length + 1) cap)) (msgP k q) (bunsP (ps.take (k + 1)))) := by
                show IOl _ _ _ _ _ _ _ _ _ _
                rw [HT.out.1]
                exact IOl.new hX7 H2.out.2.1 H2.out.2.2.1 (H7.out.2.2.1.setCell HX.out.2.2.2.2.1 _) (by simpa [World.setCell] using H7.out.2.2.2) H2.out.2.2.2.2.2 HQ2.out HT.out.2 (H7.out.2.1.setX HX.out.1 _ _) rfl (by simp)
              clear hX7
              go_wp2_with fail
              go_meet
              obtain ⟨n, hn⟩ := HF.out.withN
              have hl := hn.len
              rw [HT.out.1, buns_len_new HQ2.out, ← H2.out.2.2.1, List.length_map] at hl
              obtain rfl : n = bs.length := by omega
              exact ⟨bs.length, rfl, hn⟩)
          | false =>
            have HQ2 : Hid (∃ q', (ps.take k).getLast? = some q' ∧ q'.kind = q.kind) := by
              have hn : ¬ (bs = [] ∨ ∃ pre x, bs = pre ++ [x] ∧ x.1.kind ≠ q.kind) := fun h => by have := HNW.out.2 h; cases this
              rcases List.eq_nil_or_concat bs with h | ⟨pre, x, h⟩
              · exact absurd (.inl h) hn
              · rw [List.concat_eq_append] at h
                have h3 := H2.out.2.2.1
                rw [h, List.map_append] at h3
                rcases List.eq_nil_or_concat (ps.take k) with e | ⟨r, q', e⟩
                · rw [e] at h3; simp [bunsP_nil] at h3
                · rw [List.concat_eq_append] at e
                  have hgl : (ps.take k).getLast? = some q' := by rw [e]; simp
                  obtain ⟨pr, b, e2, hb⟩ := bunsP_last hgl
                  rw [e2] at h3
                  obtain ⟨_, e3⟩ := List.append_inj' h3 rfl
                  simp only [List.map_cons, List.map_nil, List.cons.injEq, and_true] at e3
                  refine ⟨q', hgl, ?_⟩
                  rw [← hb, ← e3]
                  exact Classical.byContradiction fun g => hn (.inr ⟨pre, x, h, g⟩)
            have HF : Hid (IOl X N0 k frm tto num W0 wy (msgP k q) (bunsP (ps.take (k + 1))) ∧ (bunsP (ps.take (k + 1))).length = bs.length) := by
              obtain ⟨q', h1, h2⟩ := HQ2.out
              refine ⟨?_, ?_⟩
              · rw [HT.out.1]
                exact IOx.same ⟨Ab, Cb, bs, H2.out.1, H2.out.2.1, H2.out.2.2.1, H2.out.2.2.2.1, H2.out.2.2.2.2.1, H2.out.2.2.2.2.2⟩ h1 h2 HT.out.2
              · rw [HT.out.1, buns_len_same h1 h2, ← H2.out.2.2.1, List.length_map]
            go_wp2_with fail
            go_meet
            obtain ⟨n, hn⟩ := HF.out.1.withN
            have hl := hn.len
            rw [HF.out.2] at hl
            exact ⟨n, by rw [hl]; simp, hn⟩
        case rest =>
          obtain ⟨n, rfl, hL0⟩ := hcut
          rename World => wz
          obtain ⟨g, Cb, pre, b, mv, ms, rfl, hX, hO, hLL, hB, hN, hpl2, hml⟩ := hL0.out
          have hlen : (pre ++ [((b, mv, ms) : BunV)]).length = pre.length + 1 := by simp
          have hr := hO.row
          rw [hlen] at hr
          have hmrow : wz.ownsRow N0 98 2 mv ms.length (ms.flatMap clMv) := (hO.msgs (b, mv, ms) (by simp)).1.row
          obtain ⟨Am, Cm, rfl⟩ := own_formX hmrow
          clear hmrow
          have hgN : N0 ≤ g := (hr.lt g rfl).1
          have hmv : wz.cell? ⟨g, pre.length * 3 + 2, none⟩ = some (.slice Am ms.length Cm) := by
            rw [hr.cellAt _ (by omega), List.flatMap_append, List.getElem?_append_right (by rw [clBv_len]; omega), clBv_len]
            simp [clBv]
          have hml2 : ms.length ≤ 1048576 := by omega
          have hmx : ms.length + 1 ≤ maxLen := by unfold maxLen; omega
          have hpl3 : pre.length ≤ 1048576 := by omega
          have H4 : Hid (pre.map (·.1) ++ [⟨b.kind, b.num, b.msgs ++ [msgP k q]⟩] = bunsP (ps.take (k + 1)) ∧ Below W0.heap.size W0 wz ∧ N0 ≤ wz.heap.size ∧ pre.length ≤ k ∧ N0 ≤ g) := ⟨hLL, hB, hN, hpl2, hgN⟩
          have heb : bodyW wordsS q = bodyW wordsI q := body_eq (note3I (papB_okX HQ.out.2.2.2.1).sm)
          have QB : Hid (∀ W, Below wz.heap.size wz W → Calls Tryz.prog 66 #[.agg #[.int .i64 q.kind, .string q.ref, .string q.other, .int .i64 q.day, .slice An q.notes.length Cn, .slice Al q.lines.length Cl]] W fun e w' => ∃ u pp, e = .returned u ∧ OwnL W.heap.size w' u pp (bodyW wordsI q) ∧ Below W.heap.size W w') := fun W hW => by
            have hq := hB.trans (hW.mono hB.size)
            rw [← heb]
            exact l05Body_any q _ _ W HQ.out.2.2.1 (HQ.out.1 W hq).2 HQ.out.2.2.2.2
          have CH : Hid (∀ W, Below wz.heap.size wz W → W.cell? ⟨g, pre.length * 3 + 2, none⟩ = some (.slice Am ms.length Cm) ∧ True ∧ OwnBs N0 W (.slice (some ⟨g, 0, none⟩) (pre.length + 1) Cb) (pre ++ [(b, .slice Am ms.length Cm, ms)]) ∧ Below W0.heap.size W0 W ∧ N0 ≤ W.heap.size ∧ W.heap[X]? = some (.cells #[.string frm, .string tto, .int .i64 num, .slice (some ⟨g, 0, none⟩) (pre.length + 1) Cb] 44)) := fun W hW =>
            ⟨(hW.cell (World.block_lt_of_cell? _ _ hmv)).trans hmv, trivial, hO.below hW, hB.trans (hW.mono hB.size), Nat.le_trans hN hW.size, (hW.block X (Array.getElem?_eq_some_iff.1 hX).1).trans hX⟩
          have SH : Hid (∀ W, Below wz.heap.size wz W → W.cell? ⟨X, 3, none⟩ = some (.slice (some ⟨g, 0, none⟩) (pre.length + 1) Cb) ∧ W.cell? ⟨w.heap.size, 3, none⟩ = some (.slice (some ⟨b9, o9, none⟩) ps.length C) ∧ (W.cell? ⟨b9, o9 + k * 6, none⟩ = some (.int .i64 q.kind) ∧ W.cell? ⟨b9, o9 + k * 6 + 1, none⟩ = some (.string q.ref) ∧ W.cell? ⟨b9, o9 + k * 6 + 2, none⟩ = some (.string q.other) ∧ W.cell? ⟨b9, o9 + k * 6 + 3, none⟩ = some (.int .i64 q.day) ∧ W.cell? ⟨b9, o9 + k * 6 + 4, none⟩ = some (.slice An q.notes.length Cn) ∧ W.cell? ⟨b9, o9 + k * 6 + 5, none⟩ = some (.slice Al q.lines.length Cl))) := fun W hW => by
            have hq := hB.trans (hW.mono hB.size)
            obtain ⟨_, _, _, _, a3⟩ := ix4 ((hW.block X (Array.getElem?_eq_some_iff.1 hX).1).trans hX)
            obtain ⟨_, _, _, _, b3⟩ := ix4 (HPB.out W hq)
            exact ⟨a3, b3, (HQ.out.1 W hq).1⟩
          have HB9 : Hid (w.heap.size < N0 ∧ b9 < N0) := ⟨by have := HX.out; omega, by have h0 := (HQ.out.1 W0 (Below.refl _ _)).1.1; have := World.block_lt_of_cell? _ _ h0; dsimp only at this; have := HX.out.2.2.2.2.2; omega⟩
          have i0 : (0 : Int) ≤ (pre.length : Int) := by omega
          have i2 : (pre.length : Int) < (pre.length : Int) + 1 := by omega
          have i3 : IntKind.i64.wrap ((pre.length : Int) + 1 - 1) = (pre.length : Int) := by rw [show (pre.length : Int) + 1 - 1 = (pre.length : Int) by omega]; simp [IntKind.wrap, IntKind.bits, IntKind.signed]; omega
          have i4 : IntKind.i64.wrap (pre.length : Int) = (pre.length : Int) := by simp [IntKind.wrap, IntKind.bits, IntKind.signed]; omega
          have hw : IntKind.i64.wrap ((k : Int) + 1) = (k : Int) + 1 := by rw [IntKind.wrap_i64]; omega
          clear hX hO hLL hB hN hpl2 hml hr hlen hmv hgN hL0 heb HNW H2 H40
          go_upto_region 9 with fail
          obtain ⟨x3, p3, y0, y1, y2, y3, y4, y5⟩ := SH.out wz (Below.refl _ _)
          refine wp_region_held_drew (S := fun W => W.cell? ⟨X, 3, none⟩ = some (.slice (some ⟨g, 0, none⟩) (pre.length + 1) Cb) ∧ W.cell? ⟨w.heap.size, 3, none⟩ = some (.slice (some ⟨b9, o9, none⟩) ps.length C) ∧ (W.cell? ⟨b9, o9 + k * 6, none⟩ = some (.int .i64 q.kind) ∧ W.cell? ⟨b9, o9 + k * 6 + 1, none⟩ = some (.string q.ref) ∧ W.cell? ⟨b9, o9 + k * 6 + 2, none⟩ = some (.string q.other) ∧ W.cell? ⟨b9, o9 + k * 6 + 3, none⟩ = some (.int .i64 q.day) ∧ W.cell? ⟨b9, o9 + k * 6 + 4, none⟩ = some (.slice An q.notes.length Cn) ∧ W.cell? ⟨b9, o9 + k * 6 + 5, none⟩ = some (.slice Al q.lines.length Cl))) (by kernel_rfl) ?_ (fun hHeld => ?_)
          · try dsimp only
            exact SH.out _ (Below.refl wz.heap.size wz).drew
          refine wpAnyH_take (i := 0) (oi := { dst := some 57, op := Op.fieldAddr 44 (Operand.tmp 3) 3, type := 0, pos := "l06_parcel.go:14", after := #[], guard := none }) (v := ?_) rfl (by kernel_rfl) (by kernel_rfl) (by kernel_rfl) (fun _ _ _ h => h) (Or.inl ⟨by rfl, ?_⟩) (by assumption) ?_
          rotate_left 1
          · intro w hSw
            (try dsimp only at hSw)
            go_simp
            try with_reducible rfl
          try simp only [Act.put, List.setIfInBounds_toArray, List.set_cons_zero, List.set_cons_succ]
          refine wpAnyH_take (i := 1) (oi := { dst := some 58, op := Op.load 42 (Operand.tmp 57), type := 42, pos := "l06_parcel.go:14", after := #[{ on := 0, ground := Ground.data }], guard := none }) (v := ?_) rfl (by kernel_rfl) (by kernel_rfl) (by kernel_rfl) (fun _ _ _ h => h) (Or.inl ⟨by rfl, ?_⟩) (by assumption) ?_
          rotate_left 1
          · intro w hSw
            (try dsimp only at hSw)
            go_simp
            try with_reducible rfl
          try simp only [Act.put, List.setIfInBounds_toArray, List.set_cons_zero, List.set_cons_succ]
          refine wpAnyH_take (i := 2) (oi := { dst := some 59, op := Op.move (Operand.tmp 5), type := 3, pos := "l06_parcel.go:14", after := #[], guard := none }) (v := ?_) rfl (by kernel_rfl) (by kernel_rfl) (by kernel_rfl) (fun _ _ _ h => h) (Or.inl ⟨by rfl, ?_⟩) (by assumption) ?_
          rotate_left 1
          · intro w hSw
            (try dsimp only at hSw)
            go_simp
            try with_reducible rfl
          try simp only [Act.put, List.setIfInBounds_toArray, List.set_cons_zero, List.set_cons_succ]
          refine wpAnyH_take (i := 3) (oi := { dst := some 60, op := Op.binOp BinOp.sub 3 (Operand.tmp 59) (Operand.const (Value.int IntKind.i64 1)) 3, type := 3, pos := "l06_parcel.go:14", after := #[{ on := 2, ground := Ground.data }], guard := none }) (v := ?_) rfl (by kernel_rfl) (by kernel_rfl) (by kernel_rfl) (fun _ _ _ h => h) (Or.inl ⟨by rfl, ?_⟩) (by assumption) ?_
          rotate_left 1
          · intro w hSw
            (try dsimp only at hSw)
            go_simp
            try with_reducible rfl
          try simp only [Act.put, List.setIfInBounds_toArray, List.set_cons_zero, List.set_cons_succ]
          refine wpAnyH_take (i := 4) (oi := { dst := some 61, op := Op.fieldAddr 44 (Operand.tmp 3) 3, type := 0, pos := "l06_parcel.go:14", after := #[], guard := none }) (v := ?_) rfl (by kernel_rfl) (by kernel_rfl) (by kernel_rfl) (fun _ _ _ h => h) (Or.inl ⟨by rfl, ?_⟩) (by assumption) ?_
          rotate_left 1
          · intro w hSw
            (try dsimp only at hSw)
            go_simp
            try with_reducible rfl
          try simp only [Act.put, List.setIfInBounds_toArray, List.set_cons_zero, List.set_cons_succ]
          refine wpAnyH_take (i := 5) (oi := { dst := some 62, op := Op.load 42 (Operand.tmp 61), type := 42, pos := "l06_parcel.go:14", after := #[{ on := 4, ground := Ground.data }], guard := none }) (v := ?_) rfl (by kernel_rfl) (by kernel_rfl) (by kernel_rfl) (fun _ _ _ h => h) (Or.inl ⟨by rfl, ?_⟩) (by assumption) ?_
          rotate_left 1
          · intro w hSw
            (try dsimp only at hSw)
            go_simp
            try with_reducible rfl
          try simp only [Act.put, List.setIfInBounds_toArray, List.set_cons_zero, List.set_cons_succ]
          refine wpAnyH_take (i := 6) (oi := { dst := some 63, op := Op.move (Operand.tmp 5), type := 3, pos := "l06_parcel.go:14", after := #[], guard := none }) (v := ?_) rfl (by kernel_rfl) (by kernel_rfl) (by kernel_rfl) (fun _ _ _ h => h) (Or.inl ⟨by rfl, ?_⟩) (by assumption) ?_
          rotate_left 1
          · intro w hSw
            (try dsimp only at hSw)
            go_simp
            try with_reducible rfl
          try simp only [Act.put, List.setIfInBounds_toArray, List.set_cons_zero, List.set_cons_succ]
          refine wpAnyH_take (i := 7) (oi := { dst := some 64, op := Op.binOp BinOp.sub 3 (Operand.tmp 63) (Operand.const (Value.int IntKind.i64 1)) 3, type := 3, pos := "l06_parcel.go:14", after := #[{ on := 6, ground := Ground.data }], guard := none }) (v := ?_) rfl (by kernel_rfl) (by kernel_rfl) (by kernel_rfl) (fun _ _ _ h => h) (Or.inl ⟨by rfl, ?_⟩) (by assumption) ?_
          rotate_left 1
          · intro w hSw
            (try dsimp only at hSw)
            go_simp
            try with_reducible rfl
          try simp only [Act.put, List.setIfInBounds_toArray, List.set_cons_zero, List.set_cons_succ]
          refine wpAnyH_take (i := 8) (oi := { dst := some 65, op := Op.indexAddr 42 (Operand.tmp 62) (Operand.tmp 64), type := 0, pos := "l06_parcel.go:14", after := #[{ on := 5, ground := Ground.data }, { on := 7, ground := Ground.data }], guard := none }) (v := ?_) rfl (by kernel_rfl) (by kernel_rfl) (by kernel_rfl) (fun _ _ _ h => h) (Or.inl ⟨by rfl, ?_⟩) (by assumption) ?_
          rotate_left 1
          · intro w hSw
            (try dsimp only at hSw)
            go_simp
            try with_reducible rfl
          try simp only [Act.put, List.setIfInBounds_toArray, List.set_cons_zero, List.set_cons_succ]
          refine wpAnyH_take (i := 9) (oi := { dst := some 66, op := Op.fieldAddr 95 (Operand.tmp 65) 2, type := 0, pos := "l06_parcel.go:14", after := #[{ on := 8, ground := Ground.data }], guard := none }) (v := ?_) rfl (by kernel_rfl) (by kernel_rfl) (by kernel_rfl) (fun _ _ _ h => h) (Or.inl ⟨by rfl, ?_⟩) (by assumption) ?_
          rotate_left 1
          · intro w hSw
            (try dsimp only at hSw)
            go_simp
            try with_reducible rfl
          try simp only [Act.put, List.setIfInBounds_toArray, List.set_cons_zero, List.set_cons_succ]
          refine wpAnyH_take (i := 11) (oi := { dst := some 68, op := Op.move (Operand.tmp 4), type := 3, pos := "l06_parcel.go:14", after := #[], guard := none }) (v := ?_) rfl (by kernel_rfl) (by kernel_rfl) (by kernel_rfl) (fun _ _ _ h => h) (Or.inl ⟨by rfl, ?_⟩) (by assumption) ?_
          rotate_left 1
          · intro w hSw
            (try dsimp only at hSw)
            go_simp
            try with_reducible rfl
          try simp only [Act.put, List.setIfInBounds_toArray, List.set_cons_zero, List.set_cons_succ]
          refine wpAnyH_take (i := 12) (oi := { dst := some 69, op := Op.binOp BinOp.add 2 (Operand.tmp 68) (Operand.const (Value.int IntKind.i64 1)) 2, type := 2, pos := "l06_parcel.go:14", after := #[{ on := 11, ground := Ground.data }], guard := none }) (v := ?_) rfl (by kernel_rfl) (by kernel_rfl) (by kernel_rfl) (fun _ _ _ h => h) (Or.inl ⟨by rfl, ?_⟩) (by assumption) ?_
          rotate_left 1
          · intro w hSw
            (try dsimp only at hSw)
            go_simp
            try with_reducible rfl
          try simp only [Act.put, List.setIfInBounds_toArray, List.set_cons_zero, List.set_cons_succ]
          refine wpAnyH_take (i := 13) (oi := { dst := some 70, op := Op.fieldAddr 27 (Operand.tmp 1) 3, type := 0, pos := "l06_parcel.go:14", after := #[], guard := none }) (v := ?_) rfl (by kernel_rfl) (by kernel_rfl) (by kernel_rfl) (fun _ _ _ h => h) (Or.inl ⟨by rfl, ?_⟩) (by assumption) ?_
          rotate_left 1
          · intro w hSw
            (try dsimp only at hSw)
            go_simp
            try with_reducible rfl
          try simp only [Act.put, List.setIfInBounds_toArray, List.set_cons_zero, List.set_cons_succ]
          refine wpAnyH_take (i := 14) (oi := { dst := some 71, op := Op.load 25 (Operand.tmp 70), type := 25, pos := "l06_parcel.go:14", after := #[{ on := 13, ground := Ground.data }], guard := none }) (v := ?_) rfl (by kernel_rfl) (by kernel_rfl) (by kernel_rfl) (fun _ _ _ h => h) (Or.inl ⟨by rfl, ?_⟩) (by assumption) ?_
          rotate_left 1
          · intro w hSw
            (try dsimp only at hSw)
            go_simp
            try with_reducible rfl
          try simp only [Act.put, List.setIfInBounds_toArray, List.set_cons_zero, List.set_cons_succ]
          refine wpAnyH_take (i := 15) (oi := { dst := some 72, op := Op.move (Operand.tmp 4), type := 3, pos := "l06_parcel.go:14", after := #[], guard := none }) (v := ?_) rfl (by kernel_rfl) (by kernel_rfl) (by kernel_rfl) (fun _ _ _ h => h) (Or.inl ⟨by rfl, ?_⟩) (by assumption) ?_
          rotate_left 1
          · intro w hSw
            (try dsimp only at hSw)
            go_simp
            try with_reducible rfl
          try simp only [Act.put, List.setIfInBounds_toArray, List.set_cons_zero, List.set_cons_succ]
          refine wpAnyH_take (i := 16) (oi := { dst := some 73, op := Op.indexAddr 25 (Operand.tmp 71) (Operand.tmp 72), type := 0, pos := "l06_parcel.go:14", after := #[{ on := 14, ground := Ground.data }, { on := 15, ground := Ground.data }], guard := none }) (v := ?_) rfl (by kernel_rfl) (by kernel_rfl) (by kernel_rfl) (fun _ _ _ h => h) (Or.inl ⟨by rfl, ?_⟩) (by assumption) ?_
          rotate_left 1
          · intro w hSw
            (try dsimp only at hSw)
            go_simp
            try with_reducible rfl
          try simp only [Act.put, List.setIfInBounds_toArray, List.set_cons_zero, List.set_cons_succ]
          refine wpAnyH_take (i := 17) (oi := { dst := some 74, op := Op.load 66 (Operand.tmp 73), type := 66, pos := "l06_parcel.go:14", after := #[{ on := 16, ground := Ground.data }], guard := none }) (v := ?_) rfl (by kernel_rfl) (by kernel_rfl) (by kernel_rfl) (fun _ _ _ h => h) (Or.inl ⟨by rfl, ?_⟩) (by assumption) ?_
          rotate_left 1
          · intro w hSw
            (try dsimp only at hSw)
            go_simp
            try with_reducible rfl
          try simp only [Act.put, List.setIfInBounds_toArray, List.set_cons_zero, List.set_cons_succ]
          refine wpAnyH_ready (rs := [10, 18]) (by kernel_rfl) (by simp) ?_
          refine AllReadyH.cons (o := { dst := some 67, op := Op.load 93 (Operand.tmp 66), type := 93, pos := "l06_parcel.go:14", after := #[{ on := 9, ground := Ground.data }], guard := none }) rfl (fun K hK => ?_) ?_
          · skip
            have mmd := (CH.out wz.drew (Below.refl wz.heap.size wz).drew).1
            go_simp
            refine hK.out _ _ ?_ (fun hHeld => ?_)
            · try dsimp only
              exact SH.out _ (Below.refl wz.heap.size wz).drew
            clear hK K
            try simp only [Act.put, List.setIfInBounds_toArray, List.set_cons_zero, List.set_cons_succ]
            refine wpAnyH_ready (rs := [18]) (by kernel_rfl) (by simp) ?_
            refine AllReadyH.cons (o := { dst := some 75, op := Op.call { callee := Callee.value (Operand.func 66), args := #[Operand.tmp 74], argTypes := #[66] }, type := 60, pos := "l06_parcel.go:14", after := #[{ on := 17, ground := Ground.data }], guard := none }) rfl (fun K hK => ?_) AllReadyH.nil
            go_simp
            go_at_call 66
            refine (QB.out _ (Below.refl _ _).drew).mono ?_
            rintro e wc ⟨u, pp, rfl, hV, hbc⟩
            obtain ⟨A3, C3, hu3⟩ := own_formX hV.row
            subst hu3
            have bc : Below wz.heap.size wz wc := (Below.refl wz.heap.size wz).drew.trans hbc
            have HC : Hid (OwnL wz.heap.size wc (.slice A3 (bodyW wordsI q).length C3) pp (bodyW wordsI q) ∧ Below wz.heap.size wz wc) := ⟨hV, bc⟩
            clear hV hbc
            try dsimp only
            try go_wp2_with fail
            refine hK.out _ _ ?_ (fun hHeld => ?_)
            · try dsimp only
              exact SH.out _ bc
            clear hK K
            try simp only [Act.put, List.setIfInBounds_toArray, List.set_cons_zero, List.set_cons_succ]
            refine wpAnyH_take (i := 19) (oi := { dst := some 76, op := Op.build 98 #[(0, Operand.tmp 69), (1, Operand.tmp 75)], type := 98, pos := "l06_parcel.go:14", after := #[{ on := 12, ground := Ground.data }, { on := 18, ground := Ground.data }], guard := none }) (v := ?_) rfl (by kernel_rfl) (by kernel_rfl) (by kernel_rfl) (fun _ _ _ h => h) (Or.inl ⟨by rfl, ?_⟩) (by assumption) ?_
            rotate_left 1
            · intro w hSw
              (try dsimp only at hSw)
              go_simp
              try with_reducible rfl
            try simp only [Act.put, List.setIfInBounds_toArray, List.set_cons_zero, List.set_cons_succ]
            refine wpAnyH_ready (rs := [20]) (by kernel_rfl) (by simp) ?_
            refine AllReadyH.cons (o := { dst := some 77, op := Op.buildSlice 93 1 #[(0, Operand.tmp 76)], type := 93, pos := "l06_parcel.go:14", after := #[{ on := 19, ground := Ground.data }], guard := none }) rfl (fun K hK => ?_) AllReadyH.nil
            go_simp
            refine hK.out _ _ ?_ (fun hHeld => ?_)
            · try dsimp only
              exact SH.out _ (bc.alloc bc.size _)
            clear hK K
            try simp only [Act.put, List.setIfInBounds_toArray, List.set_cons_zero, List.set_cons_succ]
            refine wpAnyH_ready (rs := [21]) (by kernel_rfl) (by simp) ?_
            refine AllReadyH.cons (o := { dst := some 78, op := Op.call { callee := Callee.builtin Builtin.append, args := #[Operand.tmp 67, Operand.tmp 77], argTypes := #[93, 93] }, type := 93, pos := "l06_parcel.go:14", after := #[{ on := 10, ground := Ground.data }, { on := 20, ground := Ground.data }, { on := 18, ground := Ground.chain }], guard := none }) rfl (fun K hK => ?_) AllReadyH.nil
            have rowM := (((CH.out _ (bc.alloc bc.size (.cells #[.int .i64 ((k : Int) + 1), .slice A3 (bodyW wordsI q).length C3] 98))).2.2.1.msgs (b, .slice Am ms.length Cm, ms) (by simp)).1.row)
            have hsN : N0 ≤ (wc.alloc (.cells #[.int .i64 ((k : Int) + 1), .slice A3 (bodyW wordsI q).length C3] 98)).heap.size := (CH.out _ (bc.alloc bc.size _)).2.2.2.2.1
            refine step_append_lies _ (by rfl) _ _ _ (by rfl) N0 98 l0 _ 2 32 Tryz.underlying93 hl0i ki0 ki1 ki2 rfl (by omega) (.slice Am ms.length Cm) ms.length (ms.flatMap clMv) (by rfl) rowM ⟨wc.heap.size, 0, none⟩ 1 1 [.int .i64 ((k : Int) + 1), .slice A3 (bodyW wordsI q).length C3] (by rfl) (by rfl) (World.news_of_block (cs := #[.int .i64 ((k : Int) + 1), .slice A3 (bodyW wordsI q).length C3]) (t := 98) (fr := (0, 0)) (World.alloc_heap_new wc _)) (by simp [Value.oneCell']) (by omega) hmx (by omega) hsN (wc.heap.size + 1) (by simp) ?_
            intro gg cap w7 hown7 hgrow7 hat7 hlt7
            have H7 : Hid _ := addS_next (CH.out _ (HC.out.2.alloc HC.out.2.size _)) HC.out.1 H4.out.2.2.1 HX.out.1 HX.out.2.2.2.2.2 hown7 hgrow7 hat7 (by simp)
            obtain ⟨e1, e2⟩ := H7.out.1
            have S7 := held_grown (SH.out _ (HC.out.2.alloc HC.out.2.size _)) hgrow7 (fun j e => (rowM.lt j e).1) HX.out.1 HB9.out.1 HB9.out.2
            try dsimp only
            refine hK.out _ _ ?_ (fun hHeld => ?_)
            · try dsimp only
              exact S7
            clear hK K
            try simp only [Act.put, List.setIfInBounds_toArray, List.set_cons_zero, List.set_cons_succ]
            refine wpAnyH_take (i := 22) (oi := { dst := some 79, op := Op.indexAddr 42 (Operand.tmp 58) (Operand.tmp 60), type := 0, pos := "l06_parcel.go:14", after := #[{ on := 1, ground := Ground.data }, { on := 3, ground := Ground.data }, { on := 0, ground := Ground.phase }, { on := 1, ground := Ground.phase }, { on := 2, ground := Ground.phase }, { on := 3, ground := Ground.phase }, { on := 4, ground := Ground.phase }, { on := 5, ground := Ground.phase }, { on := 6, ground := Ground.phase }, { on := 7, ground := Ground.phase }, { on := 8, ground := Ground.phase }, { on := 9, ground := Ground.phase }, { on := 10, ground := Ground.phase }, { on := 11, ground := Ground.phase }, { on := 12, ground := Ground.phase }, { on := 13, ground := Ground.phase }, { on := 14, ground := Ground.phase }, { on := 15, ground := Ground.phase }, { on := 16, ground := Ground.phase }, { on := 17, ground := Ground.phase }, { on := 18, ground := Ground.phase }, { on := 19, ground := Ground.phase }, { on := 20, ground := Ground.phase }, { on := 21, ground := Ground.phase }], guard := none }) (v := ?_) rfl (by kernel_rfl) (by kernel_rfl) (by kernel_rfl) (fun _ _ _ h => h) (Or.inl ⟨by rfl, ?_⟩) (by assumption) ?_
            rotate_left 1
            · intro w hSw
              (try dsimp only at hSw)
              go_simp
              try with_reducible rfl
            try simp only [Act.put, List.setIfInBounds_toArray, List.set_cons_zero, List.set_cons_succ]
            refine wpAnyH_take (i := 23) (oi := { dst := some 80, op := Op.fieldAddr 95 (Operand.tmp 79) 2, type := 0, pos := "l06_parcel.go:14", after := #[{ on := 22, ground := Ground.data }, { on := 0, ground := Ground.phase }, { on := 1, ground := Ground.phase }, { on := 2, ground := Ground.phase }, { on := 3, ground := Ground.phase }, { on := 4, ground := Ground.phase }, { on := 5, ground := Ground.phase }, { on := 6, ground := Ground.phase }, { on := 7, ground := Ground.phase }, { on := 8, ground := Ground.phase }, { on := 9, ground := Ground.phase }, { on := 10, ground := Ground.phase }, { on := 11, ground := Ground.phase }, { on := 12, ground := Ground.phase }, { on := 13, ground := Ground.phase }, { on := 14, ground := Ground.phase }, { on := 15, ground := Ground.phase }, { on := 16, ground := Ground.phase }, { on := 17, ground := Ground.phase }, { on := 18, ground := Ground.phase }, { on := 19, ground := Ground.phase }, { on := 20, ground := Ground.phase }, { on := 21, ground := Ground.phase }], guard := none }) (v := ?_) rfl (by kernel_rfl) (by kernel_rfl) (by kernel_rfl) (fun _ _ _ h => h) (Or.inl ⟨by rfl, ?_⟩) (by assumption) ?_
            rotate_left 1
            · intro w hSw
              (try dsimp only at hSw)
              go_simp
              try with_reducible rfl
            try simp only [Act.put, List.setIfInBounds_toArray, List.set_cons_zero, List.set_cons_succ]
            refine wpAnyH_ready (rs := [24]) (by kernel_rfl) (by simp) ?_
            refine AllReadyH.cons (o := { dst := none, op := Op.store 93 (Operand.tmp 80) (Operand.tmp 78), type := 0, pos := "l06_parcel.go:14", after := #[{ on := 23, ground := Ground.data }, { on := 21, ground := Ground.data }, { on := 21, ground := Ground.chain }, { on := 0, ground := Ground.phase }, { on := 1, ground := Ground.phase }, { on := 2, ground := Ground.phase }, { on := 3, ground := Ground.phase }, { on := 4, ground := Ground.phase }, { on := 5, ground := Ground.phase }, { on := 6, ground := Ground.phase }, { on := 7, ground := Ground.phase }, { on := 8, ground := Ground.phase }, { on := 9, ground := Ground.phase }, { on := 10, ground := Ground.phase }, { on := 11, ground := Ground.phase }, { on := 12, ground := Ground.phase }, { on := 13, ground := Ground.phase }, { on := 14, ground := Ground.phase }, { on := 15, ground := Ground.phase }, { on := 16, ground := Ground.phase }, { on := 17, ground := Ground.phase }, { on := 18, ground := Ground.phase }, { on := 19, ground := Ground.phase }, { on := 20, ground := Ground.phase }, { on := 21, ground := Ground.phase }], guard := none }) rfl (fun K hK => ?_) AllReadyH.nil
            go_simp
            refine hK.out _ _ ?_ (fun hHeld => ?_)
            · try dsimp only
              exact held_set S7 _ _ (by have := HX.out.1; have := H4.out.2.2.2.2; omega) (by have := HB9.out.1; have := H4.out.2.2.2.2; omega) (by have := HB9.out.2; have := H4.out.2.2.2.2; omega)
            clear hK K
            try simp only [Act.put, List.setIfInBounds_toArray, List.set_cons_zero, List.set_cons_succ]
            refine wpAnyH_done (by kernel_rfl) ?_ _
            have HF : Hid (IOx X N0 (k + 1) frm tto num W0 (w7.setCell ⟨g, pre.length * 3 + 2, none⟩ (.slice (some ⟨gg, 0, none⟩) (ms.length + 1) cap)) (bunsP (ps.take (k + 1)))) :=
              IOl.done ((heap_setCell_other _ _ _ _ (by have := HX.out.1; have := H4.out.2.2.2.2; show X ≠ g; omega)).trans H7.out.2.2.2.2) H7.out.2.1 (by have := H4.out.1; simpa [msgP] using this) (H7.out.2.2.1.setCell (Nat.le_trans HX.out.2.2.2.2.2 H4.out.2.2.2.2) _) (by simpa [World.setCell] using H7.out.2.2.2.1) H4.out.2.2.2.1
            clear hown7 hgrow7 hat7 hlt7 rowM hsN e1 e2 hw i0 i2 i3 i4 S7 x3 p3 y0 y1 y2 y3 y4 y5
            try clear hHeld
            go_wp2
            go_roundw
            case rel => exact ⟨k + 1, by go_num, by omega, HF.out⟩
            case measure => simp [intOf]; omega
          refine AllReadyH.cons (o := { dst := some 75, op := Op.call { callee := Callee.value (Operand.func 66), args := #[Operand.tmp 74], argTypes := #[66] }, type := 60, pos := "l06_parcel.go:14", after := #[{ on := 17, ground := Ground.data }], guard := none }) rfl (fun K hK => ?_) AllReadyH.nil
          go_simp
          go_at_call 66
          refine (QB.out _ (Below.refl _ _).drew).mono ?_
          rintro e wc ⟨u, pp, rfl, hV, hbc⟩
          obtain ⟨A3, C3, hu3⟩ := own_formX hV.row
          subst hu3
          have bc : Below wz.heap.size wz wc := (Below.refl wz.heap.size wz).drew.trans hbc
          have HC : Hid (OwnL wz.heap.size wc (.slice A3 (bodyW wordsI q).length C3) pp (bodyW wordsI q) ∧ Below wz.heap.size wz wc) := ⟨hV, bc⟩
          clear hV hbc
          try dsimp only
          try go_wp2_with fail
          refine hK.out _ _ ?_ (fun hHeld => ?_)
          · try dsimp only
            exact SH.out _ bc
          clear hK K
          try simp only [Act.put, List.setIfInBounds_toArray, List.set_cons_zero, List.set_cons_succ]
          refine wpAnyH_take (i := 19) (oi := { dst := some 76, op := Op.build 98 #[(0, Operand.tmp 69), (1, Operand.tmp 75)], type := 98, pos := "l06_parcel.go:14", after := #[{ on := 12, ground := Ground.data }, { on := 18, ground := Ground.data }], guard := none }) (v := ?_) rfl (by kernel_rfl) (by kernel_rfl) (by kernel_rfl) (fun _ _ _ h => h) (Or.inl ⟨by rfl, ?_⟩) (by assumption) ?_
          rotate_left 1
          · intro w hSw
            (try dsimp only at hSw)
            go_simp
            try with_reducible rfl
          try simp only [Act.put, List.setIfInBounds_toArray, List.set_cons_zero, List.set_cons_succ]
          refine wpAnyH_ready (rs := [10, 20]) (by kernel_rfl) (by simp) ?_
          refine AllReadyH.cons (o := { dst := some 67, op := Op.load 93 (Operand.tmp 66), type := 93, pos := "l06_parcel.go:14", after := #[{ on := 9, ground := Ground.data }], guard := none }) rfl (fun K hK => ?_) ?_
          · skip
            have mmc := (CH.out wc bc).1
            go_simp
            refine hK.out _ _ ?_ (fun hHeld => ?_)
            · try dsimp only
              exact SH.out _ bc
            clear hK K
            try simp only [Act.put, List.setIfInBounds_toArray, List.set_cons_zero, List.set_cons_succ]
            refine wpAnyH_ready (rs := [20]) (by kernel_rfl) (by simp) ?_
            refine AllReadyH.cons (o := { dst := some 77, op := Op.buildSlice 93 1 #[(0, Operand.tmp 76)], type := 93, pos := "l06_parcel.go:14", after := #[{ on := 19, ground := Ground.data }], guard := none }) rfl (fun K hK => ?_) AllReadyH.nil
            go_simp
            refine hK.out _ _ ?_ (fun hHeld => ?_)
            · try dsimp only
              exact SH.out _ (bc.alloc bc.size _)
            clear hK K
            try simp only [Act.put, List.setIfInBounds_toArray, List.set_cons_zero, List.set_cons_succ]
            refine wpAnyH_ready (rs := [21]) (by kernel_rfl) (by simp) ?_
            refine AllReadyH.cons (o := { dst := some 78, op := Op.call { callee := Callee.builtin Builtin.append, args := #[Operand.tmp 67, Operand.tmp 77], argTypes := #[93, 93] }, type := 93, pos := "l06_parcel.go:14", after := #[{ on := 10, ground := Ground.data }, { on := 20, ground := Ground.data }, { on := 18, ground := Ground.chain }], guard := none }) rfl (fun K hK => ?_) AllReadyH.nil
            have rowM := (((CH.out _ (bc.alloc bc.size (.cells #[.int .i64 ((k : Int) + 1), .slice A3 (bodyW wordsI q).length C3] 98))).2.2.1.msgs (b, .slice Am ms.length Cm, ms) (by simp)).1.row)
            have hsN : N0 ≤ (wc.alloc (.cells #[.int .i64 ((k : Int) + 1), .slice A3 (bodyW wordsI q).length C3] 98)).heap.size := (CH.out _ (bc.alloc bc.size _)).2.2.2.2.1
            refine step_append_lies _ (by rfl) _ _ _ (by rfl) N0 98 l0 _ 2 32 Tryz.underlying93 hl0i ki0 ki1 ki2 rfl (by omega) (.slice Am ms.length Cm) ms.length (ms.flatMap clMv) (by rfl) rowM ⟨wc.heap.size, 0, none⟩ 1 1 [.int .i64 ((k : Int) + 1), .slice A3 (bodyW wordsI q).length C3] (by rfl) (by rfl) (World.news_of_block (cs := #[.int .i64 ((k : Int) + 1), .slice A3 (bodyW wordsI q).length C3]) (t := 98) (fr := (0, 0)) (World.alloc_heap_new wc _)) (by simp [Value.oneCell']) (by omega) hmx (by omega) hsN (wc.heap.size + 1) (by simp) ?_
            intro gg cap w7 hown7 hgrow7 hat7 hlt7
            have H7 : Hid _ := addS_next (CH.out _ (HC.out.2.alloc HC.out.2.size _)) HC.out.1 H4.out.2.2.1 HX.out.1 HX.out.2.2.2.2.2 hown7 hgrow7 hat7 (by simp)
            obtain ⟨e1, e2⟩ := H7.out.1
            have S7 := held_grown (SH.out _ (HC.out.2.alloc HC.out.2.size _)) hgrow7 (fun j e => (rowM.lt j e).1) HX.out.1 HB9.out.1 HB9.out.2
            try dsimp only
            refine hK.out _ _ ?_ (fun hHeld => ?_)
            · try dsimp only
              exact S7
            clear hK K
            try simp only [Act.put, List.setIfInBounds_toArray, List.set_cons_zero, List.set_cons_succ]
            refine wpAnyH_take (i := 22) (oi := { dst := some 79, op := Op.indexAddr 42 (Operand.tmp 58) (Operand.tmp 60), type := 0, pos := "l06_parcel.go:14", after := #[{ on := 1, ground := Ground.data }, { on := 3, ground := Ground.data }, { on := 0, ground := Ground.phase }, { on := 1, ground := Ground.phase }, { on := 2, ground := Ground.phase }, { on := 3, ground := Ground.phase }, { on := 4, ground := Ground.phase }, { on := 5, ground := Ground.phase }, { on := 6, ground := Ground.phase }, { on := 7, ground := Ground.phase }, { on := 8, ground := Ground.phase }, { on := 9, ground := Ground.phase }, { on := 10, ground := Ground.phase }, { on := 11, ground := Ground.phase }, { on := 12, ground := Ground.phase }, { on := 13, ground := Ground.phase }, { on := 14, ground := Ground.phase }, { on := 15, ground := Ground.phase }, { on := 16, ground := Ground.phase }, { on := 17, ground := Ground.phase }, { on := 18, ground := Ground.phase }, { on := 19, ground := Ground.phase }, { on := 20, ground := Ground.phase }, { on := 21, ground := Ground.phase }], guard := none }) (v := ?_) rfl (by kernel_rfl) (by kernel_rfl) (by kernel_rfl) (fun _ _ _ h => h) (Or.inl ⟨by rfl, ?_⟩) (by assumption) ?_
            rotate_left 1
            · intro w hSw
              (try dsimp only at hSw)
              go_simp
              try with_reducible rfl
            try simp only [Act.put, List.setIfInBounds_toArray, List.set_cons_zero, List.set_cons_succ]
            refine wpAnyH_take (i := 23) (oi := { dst := some 80, op := Op.fieldAddr 95 (Operand.tmp 79) 2, type := 0, pos := "l06_parcel.go:14", after := #[{ on := 22, ground := Ground.data }, { on := 0, ground := Ground.phase }, { on := 1, ground := Ground.phase }, { on := 2, ground := Ground.phase }, { on := 3, ground := Ground.phase }, { on := 4, ground := Ground.phase }, { on := 5, ground := Ground.phase }, { on := 6, ground := Ground.phase }, { on := 7, ground := Ground.phase }, { on := 8, ground := Ground.phase }, { on := 9, ground := Ground.phase }, { on := 10, ground := Ground.phase }, { on := 11, ground := Ground.phase }, { on := 12, ground := Ground.phase }, { on := 13, ground := Ground.phase }, { on := 14, ground := Ground.phase }, { on := 15, ground := Ground.phase }, { on := 16, ground := Ground.phase }, { on := 17, ground := Ground.phase }, { on := 18, ground := Ground.phase }, { on := 19, ground := Ground.phase }, { on := 20, ground := Ground.phase }, { on := 21, ground := Ground.phase }], guard := none }) (v := ?_) rfl (by kernel_rfl) (by kernel_rfl) (by kernel_rfl) (fun _ _ _ h => h) (Or.inl ⟨by rfl, ?_⟩) (by assumption) ?_
            rotate_left 1
            · intro w hSw
              (try dsimp only at hSw)
              go_simp
              try with_reducible rfl
            try simp only [Act.put, List.setIfInBounds_toArray, List.set_cons_zero, List.set_cons_succ]
            refine wpAnyH_ready (rs := [24]) (by kernel_rfl) (by simp) ?_
            refine AllReadyH.cons (o := { dst := none, op := Op.store 93 (Operand.tmp 80) (Operand.tmp 78), type := 0, pos := "l06_parcel.go:14", after := #[{ on := 23, ground := Ground.data }, { on := 21, ground := Ground.data }, { on := 21, ground := Ground.chain }, { on := 0, ground := Ground.phase }, { on := 1, ground := Ground.phase }, { on := 2, ground := Ground.phase }, { on := 3, ground := Ground.phase }, { on := 4, ground := Ground.phase }, { on := 5, ground := Ground.phase }, { on := 6, ground := Ground.phase }, { on := 7, ground := Ground.phase }, { on := 8, ground := Ground.phase }, { on := 9, ground := Ground.phase }, { on := 10, ground := Ground.phase }, { on := 11, ground := Ground.phase }, { on := 12, ground := Ground.phase }, { on := 13, ground := Ground.phase }, { on := 14, ground := Ground.phase }, { on := 15, ground := Ground.phase }, { on := 16, ground := Ground.phase }, { on := 17, ground := Ground.phase }, { on := 18, ground := Ground.phase }, { on := 19, ground := Ground.phase }, { on := 20, ground := Ground.phase }, { on := 21, ground := Ground.phase }], guard := none }) rfl (fun K hK => ?_) AllReadyH.nil
            go_simp
            refine hK.out _ _ ?_ (fun hHeld => ?_)
            · try dsimp only
              exact held_set S7 _ _ (by have := HX.out.1; have := H4.out.2.2.2.2; omega) (by have := HB9.out.1; have := H4.out.2.2.2.2; omega) (by have := HB9.out.2; have := H4.out.2.2.2.2; omega)
            clear hK K
            try simp only [Act.put, List.setIfInBounds_toArray, List.set_cons_zero, List.set_cons_succ]
            refine wpAnyH_done (by kernel_rfl) ?_ _
            have HF : Hid (IOx X N0 (k + 1) frm tto num W0 (w7.setCell ⟨g, pre.length * 3 + 2, none⟩ (.slice (some ⟨gg, 0, none⟩) (ms.length + 1) cap)) (bunsP (ps.take (k + 1)))) :=
              IOl.done ((heap_setCell_other _ _ _ _ (by have := HX.out.1; have := H4.out.2.2.2.2; show X ≠ g; omega)).trans H7.out.2.2.2.2) H7.out.2.1 (by have := H4.out.1; simpa [msgP] using this) (H7.out.2.2.1.setCell (Nat.le_trans HX.out.2.2.2.2.2 H4.out.2.2.2.2) _) (by simpa [World.setCell] using H7.out.2.2.2.1) H4.out.2.2.2.1
            clear hown7 hgrow7 hat7 hlt7 rowM hsN e1 e2 hw i0 i2 i3 i4 S7 x3 p3 y0 y1 y2 y3 y4 y5
            try clear hHeld
            go_wp2
            go_roundw
            case rel => exact ⟨k + 1, by go_num, by omega, HF.out⟩
            case measure => simp [intOf]; omega
          refine AllReadyH.cons (o := { dst := some 77, op := Op.buildSlice 93 1 #[(0, Operand.tmp 76)], type := 93, pos := "l06_parcel.go:14", after := #[{ on := 19, ground := Ground.data }], guard := none }) rfl (fun K hK => ?_) AllReadyH.nil
          go_simp
          refine hK.out _ _ ?_ (fun hHeld => ?_)
          · try dsimp only
            exact SH.out _ (bc.alloc bc.size _)
          clear hK K
          try simp only [Act.put, List.setIfInBounds_toArray, List.set_cons_zero, List.set_cons_succ]
          refine wpAnyH_ready (rs := [10]) (by kernel_rfl) (by simp) ?_
          refine AllReadyH.cons (o := { dst := some 67, op := Op.load 93 (Operand.tmp 66), type := 93, pos := "l06_parcel.go:14", after := #[{ on := 9, ground := Ground.data }], guard := none }) rfl (fun K hK => ?_) AllReadyH.nil
          have mma := (CH.out (wc.alloc (.cells #[.int .i64 ((k : Int) + 1), .slice A3 (bodyW wordsI q).length C3] 98)) (bc.alloc bc.size _)).1
          go_simp
          refine hK.out _ _ ?_ (fun hHeld => ?_)
          · try dsimp only
            exact SH.out _ (bc.alloc bc.size _)
          clear hK K
          try simp only [Act.put, List.setIfInBounds_toArray, List.set_cons_zero, List.set_cons_succ]
          refine wpAnyH_ready (rs := [21]) (by kernel_rfl) (by simp) ?_
          refine AllReadyH.cons (o := { dst := some 78, op := Op.call { callee := Callee.builtin Builtin.append, args := #[Operand.tmp 67, Operand.tmp 77], argTypes := #[93, 93] }, type := 93, pos := "l06_parcel.go:14", after := #[{ on := 10, ground := Ground.data }, { on := 20, ground := Ground.data }, { on := 18, ground := Ground.chain }], guard := none }) rfl (fun K hK => ?_) AllReadyH.nil
          have rowM := (((CH.out _ (bc.alloc bc.size (.cells #[.int .i64 ((k : Int) + 1), .slice A3 (bodyW wordsI q).length C3] 98))).2.2.1.msgs (b, .slice Am ms.length Cm, ms) (by simp)).1.row)
          have hsN : N0 ≤ (wc.alloc (.cells #[.int .i64 ((k : Int) + 1), .slice A3 (bodyW wordsI q).length C3] 98)).heap.size := (CH.out _ (bc.alloc bc.size _)).2.2.2.2.1
          refine step_append_lies _ (by rfl) _ _ _ (by rfl) N0 98 l0 _ 2 32 Tryz.underlying93 hl0i ki0 ki1 ki2 rfl (by omega) (.slice Am ms.length Cm) ms.length (ms.flatMap clMv) (by rfl) rowM ⟨wc.heap.size, 0, none⟩ 1 1 [.int .i64 ((k : Int) + 1), .slice A3 (bodyW wordsI q).length C3] (by rfl) (by rfl) (World.news_of_block (cs := #[.int .i64 ((k : Int) + 1), .slice A3 (bodyW wordsI q).length C3]) (t := 98) (fr := (0, 0)) (World.alloc_heap_new wc _)) (by simp [Value.oneCell']) (by omega) hmx (by omega) hsN (wc.heap.size + 1) (by simp) ?_
          intro gg cap w7 hown7 hgrow7 hat7 hlt7
          have H7 : Hid _ := addS_next (CH.out _ (HC.out.2.alloc HC.out.2.size _)) HC.out.1 H4.out.2.2.1 HX.out.1 HX.out.2.2.2.2.2 hown7 hgrow7 hat7 (by simp)
          obtain ⟨e1, e2⟩ := H7.out.1
          have S7 := held_grown (SH.out _ (HC.out.2.alloc HC.out.2.size _)) hgrow7 (fun j e => (rowM.lt j e).1) HX.out.1 HB9.out.1 HB9.out.2
          try dsimp only
          refine hK.out _ _ ?_ (fun hHeld => ?_)
          · try dsimp only
            exact S7
          clear hK K
          try simp only [Act.put, List.setIfInBounds_toArray, List.set_cons_zero, List.set_cons_succ]
          refine wpAnyH_take (i := 22) (oi := { dst := some 79, op := Op.indexAddr 42 (Operand.tmp 58) (Operand.tmp 60), type := 0, pos := "l06_parcel.go:14", after := #[{ on := 1, ground := Ground.data }, { on := 3, ground := Ground.data }, { on := 0, ground := Ground.phase }, { on := 1, ground := Ground.phase }, { on := 2, ground := Ground.phase }, { on := 3, ground := Ground.phase }, { on := 4, ground := Ground.phase }, { on := 5, ground := Ground.phase }, { on := 6, ground := Ground.phase }, { on := 7, ground := Ground.phase }, { on := 8, ground := Ground.phase }, { on := 9, ground := Ground.phase }, { on := 10, ground := Ground.phase }, { on := 11, ground := Ground.phase }, { on := 12, ground := Ground.phase }, { on := 13, ground := Ground.phase }, { on := 14, ground := Ground.phase }, { on := 15, ground := Ground.phase }, { on := 16, ground := Ground.phase }, { on := 17, ground := Ground.phase }, { on := 18, ground := Ground.phase }, { on := 19, ground := Ground.phase }, { on := 20, ground := Ground.phase }, { on := 21, ground := Ground.phase }], guard := none }) (v := ?_) rfl (by kernel_rfl) (by kernel_rfl) (by kernel_rfl) (fun _ _ _ h => h) (Or.inl ⟨by rfl, ?_⟩) (by assumption) ?_
          rotate_left 1
          · intro w hSw
            (try dsimp only at hSw)
            go_simp
            try with_reducible rfl
          try simp only [Act.put, List.setIfInBounds_toArray, List.set_cons_zero, List.set_cons_succ]
          refine wpAnyH_take (i := 23) (oi := { dst := some 80, op := Op.fieldAddr 95 (Operand.tmp 79) 2, type := 0, pos := "l06_parcel.go:14", after := #[{ on := 22, ground := Ground.data }, { on := 0, ground := Ground.phase }, { on := 1, ground := Ground.phase }, { on := 2, ground := Ground.phase }, { on := 3, ground := Ground.phase }, { on := 4, ground := Ground.phase }, { on := 5, ground := Ground.phase }, { on := 6, ground := Ground.phase }, { on := 7, ground := Ground.phase }, { on := 8, ground := Ground.phase }, { on := 9, ground := Ground.phase }, { on := 10, ground := Ground.phase }, { on := 11, ground := Ground.phase }, { on := 12, ground := Ground.phase }, { on := 13, ground := Ground.phase }, { on := 14, ground := Ground.phase }, { on := 15, ground := Ground.phase }, { on := 16, ground := Ground.phase }, { on := 17, ground := Ground.phase }, { on := 18, ground := Ground.phase }, { on := 19, ground := Ground.phase }, { on := 20, ground := Ground.phase }, { on := 21, ground := Ground.phase }], guard := none }) (v := ?_) rfl (by kernel_rfl) (by kernel_rfl) (by kernel_rfl) (fun _ _ _ h => h) (Or.inl ⟨by rfl, ?_⟩) (by assumption) ?_
          rotate_left 1
          · intro w hSw
            (try dsimp only at hSw)
            go_simp
            try with_reducible rfl
          try simp only [Act.put, List.setIfInBounds_toArray, List.set_cons_zero, List.set_cons_succ]
          refine wpAnyH_ready (rs := [24]) (by kernel_rfl) (by simp) ?_
          refine AllReadyH.cons (o := { dst := none, op := Op.store 93 (Operand.tmp 80) (Operand.tmp 78), type := 0, pos := "l06_parcel.go:14", after := #[{ on := 23, ground := Ground.data }, { on := 21, ground := Ground.data }, { on := 21, ground := Ground.chain }, { on := 0, ground := Ground.phase }, { on := 1, ground := Ground.phase }, { on := 2, ground := Ground.phase }, { on := 3, ground := Ground.phase }, { on := 4, ground := Ground.phase }, { on := 5, ground := Ground.phase }, { on := 6, ground := Ground.phase }, { on := 7, ground := Ground.phase }, { on := 8, ground := Ground.phase }, { on := 9, ground := Ground.phase }, { on := 10, ground := Ground.phase }, { on := 11, ground := Ground.phase }, { on := 12, ground := Ground.phase }, { on := 13, ground := Ground.phase }, { on := 14, ground := Ground.phase }, { on := 15, ground := Ground.phase }, { on := 16, ground := Ground.phase }, { on := 17, ground := Ground.phase }, { on := 18, ground := Ground.phase }, { on := 19, ground := Ground.phase }, { on := 20, ground := Ground.phase }, { on := 21, ground := Ground.phase }], guard := none }) rfl (fun K hK => ?_) AllReadyH.nil
          go_simp
          refine hK.out _ _ ?_ (fun hHeld => ?_)
          · try dsimp only
            exact held_set S7 _ _ (by have := HX.out.1; have := H4.out.2.2.2.2; omega) (by have := HB9.out.1; have := H4.out.2.2.2.2; omega) (by have := HB9.out.2; have := H4.out.2.2.2.2; omega)
          clear hK K
          try simp only [Act.put, List.setIfInBounds_toArray, List.set_cons_zero, List.set_cons_succ]
          refine wpAnyH_done (by kernel_rfl) ?_ _
          have HF : Hid (IOx X N0 (k + 1) frm tto num W0 (w7.setCell ⟨g, pre.length * 3 + 2, none⟩ (.slice (some ⟨gg, 0, none⟩) (ms.length + 1) cap)) (bunsP (ps.take (k + 1)))) :=
            IOl.done ((heap_setCell_other _ _ _ _ (by have := HX.out.1; have := H4.out.2.2.2.2; show X ≠ g; omega)).trans H7.out.2.2.2.2) H7.out.2.1 (by have := H4.out.1; simpa [msgP] using this) (H7.out.2.2.1.setCell (Nat.le_trans HX.out.2.2.2.2.2 H4.out.2.2.2.2) _) (by simpa [World.setCell] using H7.out.2.2.2.1) H4.out.2.2.2.1
          clear hown7 hgrow7 hat7 hlt7 rowM hsN e1 e2 hw i0 i2 i3 i4 S7 x3 p3 y0 y1 y2 y3 y4 y5
          try clear hHeld
          go_wp2
          go_roundw
          case rel => exact ⟨k + 1, by go_num, by omega, HF.out⟩
          case measure => simp [intOf]; omega
    · obtain rfl : k = ps.length := by omega
      have hlt' : ¬ ((ps.length : Nat) : Int) < (ps.length : Int) := by omega
      obtain ⟨Ab, Cb, bs, hX, hO, hL, hB, hN, _⟩ := HI.out
      have hZ := (hB.block _ (Array.getElem?_eq_some_iff.1 HR.out.2.1).1).trans HR.out.2.1
      have HF : Hid (OwnBs N0 wr (.slice Ab bs.length Cb) bs ∧ bs.map (·.1) = bunsP ps ∧ Below w.heap.size w wr ∧ w.heap.size + 1 < N0 ∧ w.heap.size ≤ N0) := ⟨hO, by rw [hL, List.take_length], HR.out.2.2.2.1.trans (hB.mono HR.out.2.2.2.1.size), by have := HX.out; omega, by have := HX.out; omega⟩
      have hne : w.heap.size + 1 ≠ X := by have := HX.out.2.2.2.1; omega
      obtain ⟨_, x0, x1, x2, x3⟩ := ix4 hX
      obtain ⟨zf, z0, z1, z2, z3⟩ := ix4 hZ
      obtain ⟨_, f0, f1, f2, f3⟩ := ix4 (ix_set4 (.string frm) (.string tto) (.int .i64 num) (.slice Ab bs.length Cb) hZ)
      clear hX hO hL hB hN hZ HI
      go_wp2
      refine bodyPost_ret (v := .agg #[.string frm, .string tto, .int .i64 num, .slice Ab bs.length Cb]) (by simp [results, Tryz.results33, go_sem, f0, f1, f2, f3]) rfl ⟨_, rfl, bs, ?_, HF.out.2.1, ?_⟩
      · exact ((((HF.out.1.setX HF.out.2.2.2.1 _ _).setX HF.out.2.2.2.1 _ _).setX HF.out.2.2.2.1 _ _).setX HF.out.2.2.2.1 _ _).monoX HF.out.2.2.2.2
      · exact (((HF.out.2.2.1.setCell (Nat.le_succ _) _).setCell (Nat.le_succ _) _).setCell (Nat.le_succ _) _).setCell (Nat.le_succ _) _
end Go.Proofs.YtkaolpnbddjdpaaGreatDoor
