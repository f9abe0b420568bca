/- Texts of ours put together: RdT, RdL. -/
import Derived.Test.YtjnikogaleofaaaDoorG30
import Derived.Test.YtjnikogaleofaaaDoorG31
import Derived.Test.YtjnikogaleofaaaDoorG32
import Derived.Deep.DeepMust
namespace Go.Proofs.YtjnikogaleofaaaDoor
open Go.ChangeShapes Go.WideShapes Go.ChangeAt Go.RowKit
theorem setR10 {W : World} {b t : Nat} {x0 x1 x2 x3 x4 x5 x6 x7 x8 x9 x10 y : Value} (h : W.heap[b]? = some (.cells #[x0, x1, x2, x3, x4, x5, x6, x7, x8, x9, x10] t)) : (W.setCell ⟨b, 10, none⟩ y).heap[b]? = some (.cells #[x0, x1, x2, x3, x4, x5, x6, x7, x8, x9, y] t) := by
  simp [World.setCell, Array.getElem?_modify, h]
theorem seg2T {W : World} {b t : Nat} {x0 x1 : Value} (h : W.heap[b]? = some (.cells #[x0, x1] t)) : W.cell? ⟨b, 0, none⟩ = some x0 ∧ W.cell? ⟨b, 1, none⟩ = some x1 := by
  constructor <;> simp [World.cell?, h]
theorem takeS_next {N R S gg cap H : Nat} {w0 X wc w7 : World} {cs : Array Value} {bv mv dv u : Value} {bs : List BunV} {ms : List MsgV} {ps : List (Value × List Value)} {bd : List Seg} {vals : List Value} {tag : ByteArray} {es : List (List ByteArray)}
    (h : X.heap[R]? = some (.cells cs 67) ∧ Rd2 N X bv bs mv ms dv ps bd ∧ Below S w0 X ∧ N ≤ X.heap.size) (hN : S ≤ R ∧ R < N)
    (hV : OwnV X.heap.size wc u vals es) (hc : Below X.heap.size X wc)
    (ho : w7.ownsRow N 33 2 (.slice (some ⟨gg, 0, none⟩) (bd.length + 1) cap) (bd.length + 1) (cellsL bd ps ++ [.string tag, u])) (hg : (wc.alloc (.cells #[.string tag, u] 33)).grownBy w7 dv.ownBlock) (hat : dv.ownBlock = some gg ∨ gg = H) (hH : H = (wc.alloc (.cells #[.string tag, u] 33)).heap.size) :
    w7.heap[R]? = some (.cells cs 67) ∧ Rd2 N w7 bv bs mv ms (.slice (some ⟨gg, 0, none⟩) (bd.length + 1) cap) (ps ++ [(u, vals)]) (bd ++ [(tag, es)]) ∧ Below S w0 w7 ∧ N ≤ w7.heap.size := by
  obtain ⟨h1, h2, h3, h4⟩ := h
  have hRl := (Array.getElem?_eq_some_iff.1 h1).1
  have h1l := hc.size
  have hX2 : Below X.heap.size X (wc.alloc (.cells #[.string tag, u] 33)) := hc.alloc hc.size _
  have hr : ∀ j, dv.ownBlock = some j → N ≤ j := fun j e => (h2.bod.row.lt j e).1
  have hL := OwnL.app (n₀ := N) h2.bod h4 hX2 (OwnL.one (n := X.heap.size) (tag := tag) hV hc.size) (by simpa [cellsL] using ho) hg
  have hP := (h2.below hX2).push (gs' := bd ++ [(tag, es)]) (ps' := ps ++ [(u, vals)]) (gg := gg) (cap := cap) (by simpa using hL) hg (by rw [← hH]; exact hat)
  have h3' := h3.trans (hX2.mono (by omega : S ≤ X.heap.size))
  refine ⟨(hg.block R (Nat.lt_of_lt_of_le hRl hX2.size) fun e => by have := hr R e.symm; omega).trans ((hX2.block R hRl).trans h1), by simpa using hP, below_grown h3' hg (N := N) (by omega) hr (by have := hX2.size; omega), Nat.le_trans h4 (Nat.le_trans hX2.size hg.size)⟩
set_option maxRecDepth 20000 in
set_option maxHeartbeats 16000000 in
theorem takeSegment_any (N R b o C Cd : Nat) (Ad : Option Addr) (at_ : Nat) (num n k mn : Int) (frm tt : ByteArray) (bv mv : Value) (bs : List BunV) (ms : List MsgV) (ps : List (Value × List Value)) (bd : List Seg) (gs : List Seg) (tag : ByteArray) (es : List (List ByteArray)) (w0 w : World)
    (h : w.heap[R]? = some (.cells #[.slice (some ⟨b, o, none⟩) gs.length C, .int .i64 (at_ : Int), .int .i64 num, .string frm, .string tt, bv, .int .i64 n, .int .i64 k, mv, .int .i64 mn, .slice Ad bd.length Cd] 67)) (hg : RowG w0 (.slice (some ⟨b, o, none⟩) gs.length C) gs) (hat : gs[at_]? = some (tag, es)) (hE : BdE 1048576 es) (htg : tag.size ≤ 1048576) (hl : gs.length ≤ 1000000) (hbd : bd.length ≤ 1000)
    (h0w : Below w0.heap.size w0 w) (hR0 : w0.heap.size ≤ R) (hRN : R < N) (hNw : N ≤ w.heap.size) (hRd : Rd2 N w bv bs mv ms (.slice Ad bd.length Cd) ps bd) :
    Calls Tryd.prog 41 #[.pointer (some ⟨R, 0, none⟩)] w fun e w' => Below w0.heap.size w0 w' ∧ N ≤ w'.heap.size ∧
      ((bodyB (tag, es) = true ∧ bd.length ≠ 40 ∧ e = .returned (.bool true) ∧ ∃ gg cap u vals, w'.heap[R]? = some (.cells #[.slice (some ⟨b, o, none⟩) gs.length C, .int .i64 ((at_ + 1 : Nat) : Int), .int .i64 num, .string frm, .string tt, bv, .int .i64 n, .int .i64 k, mv, .int .i64 mn, .slice (some ⟨gg, 0, none⟩) (bd.length + 1) cap] 67) ∧ Rd2 N w' bv bs mv ms (.slice (some ⟨gg, 0, none⟩) (bd.length + 1) cap) (ps ++ [(u, vals)]) (bd ++ [(tag, es)])) ∨
       (¬ (bodyB (tag, es) = true ∧ bd.length ≠ 40) ∧ e = .returned (.bool false) ∧ w'.heap[R]? = some (.cells #[.slice (some ⟨b, o, none⟩) gs.length C, .int .i64 (at_ : Int), .int .i64 num, .string frm, .string tt, bv, .int .i64 n, .int .i64 k, mv, .int .i64 mn, .slice Ad bd.length Cd] 67) ∧ Rd2 N w' bv bs mv ms (.slice Ad bd.length Cd) ps bd)) := by
  obtain ⟨j0, hj0i, hi0, hi1, hi2⟩ := info_parts infoSg
  have hlt : at_ < gs.length := (List.getElem?_eq_some_iff.1 hat).1
  have hRl := (Array.getElem?_eq_some_iff.1 h).1
  obtain ⟨b', o', cap', g, u, e, hg', c0, c1, hEs, htz⟩ := hg.at hlt
  rw [hat] at hg'
  cases hg'
  simp only [Value.slice.injEq, Option.some.injEq, Addr.mk.injEq, and_true, true_and] at e
  obtain ⟨⟨rfl, rfl⟩, rfl⟩ := e
  obtain ⟨Au, Cu, rfl⟩ := hEs.val
  dsimp only at c0 c1 hEs htz
  have HR : Hid (∀ W, Below w.heap.size w W → W.heap[R]? = some (.cells #[.slice (some ⟨b, o, none⟩) gs.length C, .int .i64 (at_ : Int), .int .i64 num, .string frm, .string tt, bv, .int .i64 n, .int .i64 k, mv, .int .i64 mn, .slice Ad bd.length Cd] 67) ∧ W.cell? ⟨b, o + at_ * 2, none⟩ = some (.string tag) ∧ W.cell? ⟨b, o + at_ * 2 + 1, none⟩ = some (.slice Au es.length Cu) ∧ RowE W (.slice Au es.length Cu) es ∧ Rd2 N W bv bs mv ms (.slice Ad bd.length Cd) ps bd ∧ Below w0.heap.size w0 W ∧ N ≤ W.heap.size) := fun W hW => by
    have hb : Below w0.heap.size w0 W := h0w.trans (hW.mono h0w.size)
    exact ⟨(hW.block R hRl).trans h, (hb.cell (cell_lt c0)).trans c0, (hb.cell (cell_lt c1)).trans c1, hEs.below hb, hRd.below hW, hb, Nat.le_trans hNw hW.size⟩
  obtain ⟨y, hy⟩ : ∃ y, y = bodyB (tag, es) := ⟨_, rfl⟩
  rw [← hy]
  have HY : Hid (y = bodyB (tag, es)) := hy
  have QN : Hid (∀ W, Below w.heap.size w W → Calls Tryd.prog 49 #[.pointer (some ⟨R, 0, none⟩)] W fun e w' => e = .returned (.agg #[.string tag, .slice Au es.length Cu]) ∧ Below W.heap.size W w') := fun W hW => next_any R b o gs.length C at_ tag Au es.length Cu _ _ _ _ _ _ _ _ _ W (HR.out W hW).1 hlt (HR.out W hW).2.1 (HR.out W hW).2.2.1
  have QM : Hid (∀ W, Below w.heap.size w W → Calls Tryd.prog 51 #[.agg #[.string tag, .slice Au es.length Cu]] W fun e w' => e = .returned (.bool y) ∧ Below W.heap.size W w') := fun W hW => by rw [hy]; exact mayStand_any tag _ es W (HR.out W hW).2.2.2.1 hE
  have QC : Hid (y = true → ∀ W, Below w.heap.size w W → Calls Tryd.prog 52 #[.agg #[.string tag, .slice Au es.length Cu]] W fun e w' => ∃ u vals, e = .returned (.agg #[.string tag, u]) ∧ OwnV W.heap.size w' u vals es ∧ Below W.heap.size W w') := fun hyt W hW => by
    have hr : rightG tag es = true := by
      rw [hy, bodyB, Bool.and_eq_true] at hyt
      exact hyt.2
    obtain ⟨f1, f2, f3⟩ := right_bounds hr
    exact copySeg_any tag _ es W (HR.out W hW).2.2.2.1 f2 htg f3
  have CH : Hid (∀ W, Below w.heap.size w W → W.cell? ⟨R, 1, none⟩ = some (.int .i64 (at_ : Int)) ∧ W.cell? ⟨R, 10, none⟩ = some (.slice Ad bd.length Cd) ∧ (∀ o, W.frozen? ⟨R, o, none⟩ = false)) := fun W hW => by
    obtain ⟨r0, r1, r2, r3, r4, r5, r6, r7, r8, r9, r10⟩ := box11R (HR.out W hW).1
    exact ⟨r1, r10, frozeR (HR.out W hW).1⟩
  have HN : Hid (w0.heap.size ≤ R ∧ R < N) := ⟨hR0, hRN⟩
  clear h hg hEs hE c0 c1 hy hRd h0w hR0 hRN hNw htg
  go_enter Tryd.func41, Tryd.ntmps41
  go_wp2_with fail
  refine (QN.out _ (Below.refl _ _)).mono ?_
  rintro e wa ⟨rfl, hba⟩
  obtain ⟨W1, hW1⟩ : ∃ W1, wa.alloc (.cells #[.string tag, .slice Au es.length Cu] 33) = W1 := ⟨_, rfl⟩
  have hb1 : Below w.heap.size w W1 := by rw [← hW1]; exact hba.alloc hba.size _
  have hx1 : W1.heap[wa.heap.size]? = some (.cells #[.string tag, .slice Au es.length Cu] 33) := by rw [← hW1]; exact World.alloc_heap_new _ _
  obtain ⟨g0, g1⟩ := seg2T hx1
  have H1 : Hid (Below w.heap.size w W1 ∧ W1.heap[wa.heap.size]? = some (.cells #[.string tag, .slice Au es.length Cu] 33)) := ⟨hb1, hx1⟩
  clear hba hb1 hx1
  go_upto_region 2 with fail
  try rw [hW1]
  clear hW1
  go_wp2_with fail
  refine (QM.out _ H1.out.1).mono ?_
  rintro e w2 ⟨rfl, hb2⟩
  obtain ⟨GG, hGG⟩ : ∃ GG, GG = wa.heap.size := ⟨_, rfl⟩
  have H2 : Hid (Below w.heap.size w w2 ∧ w2.heap[GG]? = some (.cells #[.string tag, .slice Au es.length Cu] 33)) := ⟨H1.out.1.trans (hb2.mono H1.out.1.size), by rw [hGG]; exact (hb2.block _ (Array.getElem?_eq_some_iff.1 H1.out.2).1).trans H1.out.2⟩
  try rw [← hGG]
  clear hb2 g0 g1 hGG H1
  cases y with
  | false =>
    have HF : Hid (¬ ((false : Bool) = true ∧ bd.length ≠ 40)) := fun g => by cases g.1
    go_wp2
    go_ret
    obtain ⟨a1, _, _, _, a2, a3, a4⟩ := HR.out w2 H2.out.1
    exact ⟨a3, a4, .inr ⟨HF.out, rfl, a1, a2⟩⟩
  | true =>
  obtain ⟨r1, r10, fr⟩ := CH.out w2 H2.out.1
  by_cases h40 : bd.length = 40
  · have HF : Hid (¬ ((true : Bool) = true ∧ bd.length ≠ 40)) := fun g => g.2 h40
    have h40' : ((bd.length : Int) == 40) = true := by simp [h40]
    clear h40
    go_wp2
    go_ret
    obtain ⟨a1, _, _, _, a2, a3, a4⟩ := HR.out w2 H2.out.1
    exact ⟨a3, a4, .inr ⟨by first | exact HF.out | (intro g; exact HF.out ⟨rfl, g.2⟩) | (simpa using HF.out), rfl, a1, a2⟩⟩
  have H40 : Hid (bd.length ≠ 40) := h40
  have h40' : ((bd.length : Int) == 40) = false := by simp; omega
  clear h40
  obtain ⟨g0, g1⟩ := seg2T H2.out.2
  have hmx : bd.length + 1 ≤ maxLen := by unfold maxLen; omega
  go_upto_region 4 with fail
  obtain ⟨q1, q10, qf⟩ := CH.out w2.drew H2.out.1.drew
  go_region_law (first | (go_simp; go_at_call 52; go_must (refine (QC.out (by first | rfl | trivial) _ H2.out.1.drew).mono ?_; rintro e wc ⟨u, vals, rfl, hV, hbc⟩; obtain ⟨A3, N3, C3, hu3⟩ := row_slice hV.row; subst hu3; have HC : Hid (OwnV w2.drew.heap.size wc (.slice A3 N3 C3) vals es ∧ Below w2.drew.heap.size w2.drew wc) := ⟨hV, hbc⟩; have bc : Below w.heap.size w wc := H2.out.1.drew.trans (hbc.mono H2.out.1.size); obtain ⟨u1, u10, uf⟩ := CH.out wc bc; obtain ⟨v1, v10, vf⟩ := CH.out (wc.alloc (.cells #[.string tag, .slice A3 N3 C3] 33)) (bc.alloc bc.size _); have rowN := ((HR.out wc bc).2.2.2.2.1.bod.row.alloc (.cells #[.string tag, .slice A3 N3 C3] 33)); have hsN : N ≤ (wc.alloc (.cells #[.string tag, .slice A3 N3 C3] 33)).heap.size := (HR.out _ (bc.alloc bc.size (.cells #[.string tag, .slice A3 N3 C3] 33))).2.2.2.2.2.2; clear hV hbc; try dsimp only)) | (refine step_append_lies _ (by rfl) _ _ _ (by rfl) N 33 j0 _ 2 40 Tryd.underlying28 hj0i hi0 hi1 hi2 rfl (by omega) (.slice Ad bd.length Cd) bd.length (cellsL bd ps) (by rfl) rowN ⟨wc.heap.size, 0, none⟩ 1 1 [.string tag, .slice A3 N3 C3] (by rfl) (by rfl) (World.news_of_block (cs := #[.string tag, .slice A3 N3 C3]) (t := 33) (fr := (0, 0)) (World.alloc_heap_new wc _)) (by simp [Value.oneCell']) (by omega) hmx (by omega) hsN (wc.heap.size + 1) (by simp) ?_; intro gg cap w7 hown7 hgrow7 hat7 hlt7; have H7 : Hid (w7.heap[R]? = some (.cells #[.slice (some ⟨b, o, none⟩) gs.length C, .int .i64 (at_ : Int), .int .i64 num, .string frm, .string tt, bv, .int .i64 n, .int .i64 k, mv, .int .i64 mn, .slice Ad bd.length Cd] 67) ∧ Rd2 N w7 bv bs mv ms (.slice (some ⟨gg, 0, none⟩) (bd.length + 1) cap) (ps ++ [(.slice A3 N3 C3, vals)]) (bd ++ [(tag, es)]) ∧ Below w0.heap.size w0 w7 ∧ N ≤ w7.heap.size) := (by obtain ⟨a1, _, _, _, a2, a3, a4⟩ := HR.out w2.drew H2.out.1.drew; exact takeS_next ⟨a1, a2, a3, a4⟩ HN.out HC.out.1 HC.out.2 hown7 hgrow7 hat7 (by simp)); obtain ⟨u0, u1, u2, u3, u4, u5, u6, u7, u8, u9, u10⟩ := box11R H7.out.1; have uf := frozeR H7.out.1; try dsimp only))
  all_goals clear hown7 hgrow7 hat7 hlt7 rowN g0 g1
  all_goals have hw : IntKind.i64.wrap ((at_ : Int) + 1) = (at_ : Int) + 1 := by rw [IntKind.wrap_i64]; omega
  all_goals go_wp2
  all_goals go_ret
  all_goals obtain ⟨a1, a2, a3, a4⟩ := H7.out
  all_goals exact ⟨below_setN (below_setN a3 HN.out.1 _ _) HN.out.1 _ _, by simpa [World.setCell] using a4, .inl ⟨H40.out, rfl, gg, cap, setR1 (setR10 a1), .slice A3 N3 C3, vals, (a2.set HN.out.2 _ _).set HN.out.2 _ _⟩⟩
end Go.Proofs.YtjnikogaleofaaaDoor
namespace Go.Proofs.YtjnikogaleofaaaDoor
open Go.ChangeShapes Go.WideShapes Go.ChangeAt Go.RowKit
theorem infoBunA : (Tryd.prog.info? 48).map (fun i => (i.zero, i.size, i.bytes)) = some (some (.agg #[.int .i64 0, .int .i64 0, .slice none 0 0]), 3, 40) := by kernel_rfl
theorem setR5 {W : World} {b t : Nat} {x0 x1 x2 x3 x4 x5 x6 x7 x8 x9 x10 y : Value} (h : W.heap[b]? = some (.cells #[x0, x1, x2, x3, x4, x5, x6, x7, x8, x9, x10] t)) : (W.setCell ⟨b, 5, none⟩ y).heap[b]? = some (.cells #[x0, x1, x2, x3, x4, y, x6, x7, x8, x9, x10] t) := by
  simp [World.setCell, Array.getElem?_modify, h]
theorem endB_next {N R S : Nat} {w0 X w7 : World} {cs : Array Value} {bv bv' mv : Value} {bs : List BunV} {ms : List MsgV} {k n : Int}
    (h : X.heap[R]? = some (.cells cs 67) ∧ Rd1 N X bv bs mv ms ∧ Below S w0 X ∧ N ≤ X.heap.size) (hN : S ≤ R ∧ R < N)
    (ho : w7.ownsRow N 48 3 bv' (bs.length + 1) (bs.flatMap clBv ++ [.int .i64 k, .int .i64 n, mv])) (hg : X.grownBy w7 bv.ownBlock) :
    w7.heap[R]? = some (.cells cs 67) ∧ OwnBs N w7 bv' (bs ++ [(⟨k, n, ms.map (·.1)⟩, mv, ms)]) ∧ Below S w0 w7 ∧ N ≤ w7.heap.size := by
  obtain ⟨h1, h2, h3, h4⟩ := h
  have hr : ∀ j, bv.ownBlock = some j → N ≤ j := fun j e => (h2.bnd.row.lt j e).1
  refine ⟨(hg.block R (by omega) fun e => by have := hr R e.symm; omega).trans h1, h2.close ho hg, below_grown h3 hg (N := N) (by omega) hr (by omega), Nat.le_trans h4 hg.size⟩
set_option maxRecDepth 20000 in
set_option maxHeartbeats 16000000 in
theorem endBundle_any (N R b o C Cm Cb : Nat) (Am Ab : Option Addr) (at_ : Nat) (num n k mn : Int) (frm tt : ByteArray) (dv : Value) (bs : List BunV) (ms : List MsgV) (gs : List Seg) (tag : ByteArray) (es : List (List ByteArray)) (w0 w : World)
    (h : w.heap[R]? = some (.cells #[.slice (some ⟨b, o, none⟩) gs.length C, .int .i64 (at_ : Int), .int .i64 num, .string frm, .string tt, .slice Ab bs.length Cb, .int .i64 n, .int .i64 k, .slice Am ms.length Cm, .int .i64 mn, dv] 67)) (hg : RowG w0 (.slice (some ⟨b, o, none⟩) gs.length C) gs) (hat : gs[at_]? = some (tag, es)) (hE : BdE 1048576 es) (hT : TabOk w0) (hl : gs.length ≤ 1000000) (hn0 : 0 ≤ n) (hn1 : n ≤ 1000000) (hbs : bs.length ≤ 1000) (hms : ms.length ≤ 1000)
    (h0w : Below w0.heap.size w0 w) (hR0 : w0.heap.size ≤ R) (hRN : R < N) (hNw : N ≤ w.heap.size) (hRd : Rd1 N w (.slice Ab bs.length Cb) bs (.slice Am ms.length Cm) ms) :
    Calls Tryd.prog 38 #[.pointer (some ⟨R, 0, none⟩)] w fun e w' => Below w0.heap.size w0 w' ∧ N ≤ w'.heap.size ∧ e = .returned (.int .i64 (if ms = [] then 3 else endC n ms.length (tag, es))) ∧
      (((ms = [] ∨ endC n ms.length (tag, es) ≠ 0) ∧ w'.heap[R]? = some (.cells #[.slice (some ⟨b, o, none⟩) gs.length C, .int .i64 (at_ : Int), .int .i64 num, .string frm, .string tt, .slice Ab bs.length Cb, .int .i64 n, .int .i64 k, .slice Am ms.length Cm, .int .i64 mn, dv] 67) ∧ Rd1 N w' (.slice Ab bs.length Cb) bs (.slice Am ms.length Cm) ms) ∨
       (ms ≠ [] ∧ endC n ms.length (tag, es) = 0 ∧ ∃ gg cap, w'.heap[R]? = some (.cells #[.slice (some ⟨b, o, none⟩) gs.length C, .int .i64 ((at_ + 1 : Nat) : Int), .int .i64 num, .string frm, .string tt, .slice (some ⟨gg, 0, none⟩) (bs.length + 1) cap, .int .i64 n, .int .i64 k, .slice Am ms.length Cm, .int .i64 mn, dv] 67) ∧ OwnBs N w' (.slice (some ⟨gg, 0, none⟩) (bs.length + 1) cap) (bs ++ [(⟨k, n, ms.map (·.1)⟩, .slice Am ms.length Cm, ms)]))) := by
  obtain ⟨j0, hj0i, hi0, hi1, hi2⟩ := info_parts infoBunA
  have hlt : at_ < gs.length := (List.getElem?_eq_some_iff.1 hat).1
  have hRl := (Array.getElem?_eq_some_iff.1 h).1
  obtain ⟨b', o', cap', g, u, e, hg', c0, c1, hEs, htz⟩ := hg.at hlt
  rw [hat] at hg'
  cases hg'
  simp only [Value.slice.injEq, Option.some.injEq, Addr.mk.injEq, and_true, true_and] at e
  obtain ⟨⟨rfl, rfl⟩, rfl⟩ := e
  obtain ⟨Au, Cu, rfl⟩ := hEs.val
  dsimp only at c0 c1 hEs htz
  have HR : Hid (∀ W, Below w.heap.size w W → W.heap[R]? = some (.cells #[.slice (some ⟨b, o, none⟩) gs.length C, .int .i64 (at_ : Int), .int .i64 num, .string frm, .string tt, .slice Ab bs.length Cb, .int .i64 n, .int .i64 k, .slice Am ms.length Cm, .int .i64 mn, dv] 67) ∧ W.cell? ⟨b, o + at_ * 2, none⟩ = some (.string tag) ∧ W.cell? ⟨b, o + at_ * 2 + 1, none⟩ = some (.slice Au es.length Cu) ∧ RowE W (.slice Au es.length Cu) es ∧ TabOk W ∧ Rd1 N W (.slice Ab bs.length Cb) bs (.slice Am ms.length Cm) ms ∧ Below w0.heap.size w0 W ∧ N ≤ W.heap.size) := fun W hW => by
    have hb : Below w0.heap.size w0 W := h0w.trans (hW.mono h0w.size)
    exact ⟨(hW.block R hRl).trans h, (hb.cell (cell_lt c0)).trans c0, (hb.cell (cell_lt c1)).trans c1, hEs.below hb, hT.below hb, hRd.below hW, hb, Nat.le_trans hNw hW.size⟩
  obtain ⟨z, hz⟩ : ∃ z, z = endC n ms.length (tag, es) := ⟨_, rfl⟩
  rw [← hz]
  have QN : Hid (∀ W, Below w.heap.size w W → Calls Tryd.prog 49 #[.pointer (some ⟨R, 0, none⟩)] W fun e w' => e = .returned (.agg #[.string tag, .slice Au es.length Cu]) ∧ Below W.heap.size W w') := fun W hW => next_any R b o gs.length C at_ tag Au es.length Cu _ _ _ _ _ _ _ _ _ W (HR.out W hW).1 hlt (HR.out W hW).2.1 (HR.out W hW).2.2.1
  have QE : Hid (∀ W, Below w.heap.size w W → Calls Tryd.prog 50 #[.agg #[.int .i64 n], .agg #[.string tag, .slice Au es.length Cu], .int .i64 (ms.length : Int)] W fun e w' => e = .returned (.int .i64 z) ∧ Below W.heap.size W w') := fun W hW => by rw [hz]; exact endedBy_any n ms.length tag _ es W hn0 hn1 hms (HR.out W hW).2.2.2.1 hE (HR.out W hW).2.2.2.2.1
  have CH : Hid (∀ W, Below w.heap.size w W → W.cell? ⟨R, 0, none⟩ = some (.slice (some ⟨b, o, none⟩) gs.length C) ∧ W.cell? ⟨R, 1, none⟩ = some (.int .i64 (at_ : Int)) ∧ W.cell? ⟨R, 6, none⟩ = some (.int .i64 n) ∧ W.cell? ⟨R, 8, none⟩ = some (.slice Am ms.length Cm)) := fun W hW => by
    obtain ⟨r0, r1, r2, r3, r4, r5, r6, r7, r8, r9, r10⟩ := box11R (HR.out W hW).1
    exact ⟨r0, r1, r6, r8⟩
  have HN : Hid (w0.heap.size ≤ R ∧ R < N) := ⟨hR0, hRN⟩
  obtain ⟨zc, hzc⟩ : ∃ zc : Int, zc = (if ms = [] then 3 else z) := ⟨_, rfl⟩
  rw [← hzc]
  have HZC : Hid (zc = (if ms = [] then 3 else z)) := hzc
  clear h hg hEs hE hT c0 c1 hz hRd h0w hR0 hRN hNw hzc
  go_enter Tryd.func38, Tryd.ntmps38
  obtain ⟨r0, r1, r6, r8⟩ := CH.out w (Below.refl _ _)
  by_cases h0 : ms = []
  · have HF : Hid (ms = []) := h0
    have e1 : zc = 3 := by rw [HZC.out, if_pos h0]
    have hb : ((ms.length : Int) == 0) = true := by simp [h0]
    subst e1
    clear h0
    go_wp2
    go_ret
    obtain ⟨a1, _, _, _, _, a2, a3, a4⟩ := HR.out w (Below.refl _ _)
    exact ⟨a3, a4, rfl, .inl ⟨.inl HF.out, a1, a2⟩⟩
  · have HF : Hid (¬ ms = []) := h0
    have hb : ((ms.length : Int) == 0) = false := by
      cases ms with
      | nil => exact absurd rfl h0
      | cons x r => simp; omega
    clear h0
    go_upto_region 3 with fail
    clear hb
    go_cut [3] from 11 to 25 (fun s3 wx => s3 = .int .i64 z ∧ Below w.heap.size w wx)
    case first =>
      obtain ⟨_, _, _, _⟩ := CH.out w.drew (Below.refl _ _).drew
      go_region_held3 (fun W => W.cell? ⟨R, 0, none⟩ = some (.slice (some ⟨b, o, none⟩) gs.length C) ∧ W.cell? ⟨R, 1, none⟩ = some (.int .i64 (at_ : Int)) ∧ W.cell? ⟨R, 6, none⟩ = some (.int .i64 n) ∧ W.cell? ⟨R, 8, none⟩ = some (.slice Am ms.length Cm)) (go_keep) (first | (go_at_call 49; refine (QN.out _ (by first | exact Below.refl _ _ | exact (Below.refl _ _).drew)).mono ?_; rintro e wa ⟨rfl, hba⟩; have ba : Below w.heap.size w wa := (by first | exact hba | exact undrewE hba); obtain ⟨a0, a1, a2, a5⟩ := CH.out wa ba; obtain ⟨_, _, _, _⟩ := CH.out wa.drew ba.drew; clear hba; try dsimp only) | (go_at_call 50; refine (QE.out _ (by first | exact ba | exact ba.drew)).mono ?_; rintro e wb ⟨rfl, hbb⟩; have bb : Below w.heap.size w wb := ba.trans (((by first | exact hbb | exact undrewE hbb) : Below wa.heap.size wa wb).mono ba.size); obtain ⟨b0, b1, b2, b5⟩ := CH.out wb bb; obtain ⟨_, _, _, _⟩ := CH.out wb.drew bb.drew; clear hbb; try dsimp only))
      all_goals rename_i hHeld
      all_goals clear hHeld
      all_goals go_wp2_with fail
      all_goals go_meet
      all_goals exact ⟨rfl, bb⟩
    case rest =>
      obtain ⟨rfl, hbx⟩ := hcut
      rename World => wx
      have HX : Hid (Below w.heap.size w wx) := hbx
      clear hbx r0 r1 r6 r8
      by_cases hz0 : z = 0
      · have e0 : zc = 0 := by rw [HZC.out, if_neg HF.out, hz0]
        subst hz0 e0
        have HD : Hid ((wx.alloc (.cells #[.int .i64 k, .int .i64 n, .slice Am ms.length Cm] 48)).heap[R]? = some (.cells #[.slice (some ⟨b, o, none⟩) gs.length C, .int .i64 (at_ : Int), .int .i64 num, .string frm, .string tt, .slice Ab bs.length Cb, .int .i64 n, .int .i64 k, .slice Am ms.length Cm, .int .i64 mn, dv] 67) ∧ Rd1 N (wx.alloc (.cells #[.int .i64 k, .int .i64 n, .slice Am ms.length Cm] 48)) (.slice Ab bs.length Cb) bs (.slice Am ms.length Cm) ms ∧ Below w0.heap.size w0 (wx.alloc (.cells #[.int .i64 k, .int .i64 n, .slice Am ms.length Cm] 48)) ∧ N ≤ (wx.alloc (.cells #[.int .i64 k, .int .i64 n, .slice Am ms.length Cm] 48)).heap.size) := by
          have hX := HX.out.alloc HX.out.size (.cells #[.int .i64 k, .int .i64 n, .slice Am ms.length Cm] 48)
          obtain ⟨a1, _, _, _, _, a2, a3, a4⟩ := HR.out _ hX
          exact ⟨a1, a2, a3, a4⟩
        have HDd : Hid ((wx.alloc (.cells #[.int .i64 k, .int .i64 n, .slice Am ms.length Cm] 48)).drew.heap[R]? = some (.cells #[.slice (some ⟨b, o, none⟩) gs.length C, .int .i64 (at_ : Int), .int .i64 num, .string frm, .string tt, .slice Ab bs.length Cb, .int .i64 n, .int .i64 k, .slice Am ms.length Cm, .int .i64 mn, dv] 67) ∧ Rd1 N (wx.alloc (.cells #[.int .i64 k, .int .i64 n, .slice Am ms.length Cm] 48)).drew (.slice Ab bs.length Cb) bs (.slice Am ms.length Cm) ms ∧ Below w0.heap.size w0 (wx.alloc (.cells #[.int .i64 k, .int .i64 n, .slice Am ms.length Cm] 48)).drew ∧ N ≤ (wx.alloc (.cells #[.int .i64 k, .int .i64 n, .slice Am ms.length Cm] 48)).drew.heap.size) := ⟨HD.out.1, HD.out.2.1.below (Below.refl _ _).drew, HD.out.2.2.1.drew, HD.out.2.2.2⟩
        obtain ⟨r0, r1, r2, r3, r4, r5, r6, r7, r8, r9, r10⟩ := box11R (HR.out wx HX.out).1
        obtain ⟨_, _, _, _, _, s5, _, _, _, _, _⟩ := box11R HD.out.1
        have rowN := HD.out.2.1.bnd.row
        have hmx : bs.length + 1 ≤ maxLen := by unfold maxLen; omega
        have hsN := HD.out.2.2.2
        go_upto_region 6 with fail
        go_region_law (first | (refine step_append_lies _ (by rfl) _ _ _ (by rfl) N 48 j0 _ 3 40 Tryd.underlying23 hj0i hi0 hi1 hi2 rfl (by omega) (.slice Ab bs.length Cb) bs.length (bs.flatMap clBv) (by rfl) (by first | exact rowN | exact rowN.drew) ⟨wx.heap.size, 0, none⟩ 1 1 [.int .i64 k, .int .i64 n, .slice Am ms.length Cm] (by rfl) (by rfl) (World.news_of_block (cs := #[.int .i64 k, .int .i64 n, .slice Am ms.length Cm]) (t := 48) (fr := (0, 0)) (by first | exact World.alloc_heap_new wx _ | exact hp_drewR (World.alloc_heap_new wx _))) (by simp [Value.oneCell']) (by omega) hmx (by omega) hsN (wx.heap.size + 1) (by simp) ?_; intro gg cap w7 hown7 hgrow7 hat7 hlt7; have H7 : Hid (w7.heap[R]? = some (.cells #[.slice (some ⟨b, o, none⟩) gs.length C, .int .i64 (at_ : Int), .int .i64 num, .string frm, .string tt, .slice Ab bs.length Cb, .int .i64 n, .int .i64 k, .slice Am ms.length Cm, .int .i64 mn, dv] 67) ∧ OwnBs N w7 (.slice (some ⟨gg, 0, none⟩) (bs.length + 1) cap) (bs ++ [(⟨k, n, ms.map (·.1)⟩, .slice Am ms.length Cm, ms)]) ∧ Below w0.heap.size w0 w7 ∧ N ≤ w7.heap.size) := (by first | exact endB_next HD.out HN.out hown7 hgrow7 | exact endB_next HDd.out HN.out hown7 hgrow7 | fail); obtain ⟨u0, u1, u2, u3, u4, u5, u6, u7, u8, u9, u10⟩ := box11R H7.out.1; have uf := frozeR H7.out.1; try dsimp only) | fail)
        all_goals clear hown7 hgrow7 hat7 hlt7 rowN s5 r0 r1 r2 r3 r4 r5 r6 r7 r8 r9 r10
        all_goals have hw : IntKind.i64.wrap ((at_ : Int) + 1) = (at_ : Int) + 1 := by rw [IntKind.wrap_i64]; omega
        all_goals go_wp2
        all_goals go_ret
        all_goals obtain ⟨a1, a2, a3, a4⟩ := H7.out
        all_goals refine ⟨below_setN (below_setN a3 HN.out.1 _ _) HN.out.1 _ _, by simpa [World.setCell] using a4, rfl, ?_⟩
        all_goals first | exact .inr ⟨HF.out, by first | rfl | trivial, gg, cap, setR1 (setR5 a1), (a2.set HN.out.2 _ _).set HN.out.2 _ _⟩ | exact .inr ⟨HF.out, gg, cap, setR1 (setR5 a1), (a2.set HN.out.2 _ _).set HN.out.2 _ _⟩
      · have HZ : Hid (¬ z = 0) := hz0
        have g0 : (z == 0) = false := by simp [hz0]
        have e0 : zc = z := by rw [HZC.out, if_neg HF.out]
        subst e0
        clear hz0
        go_wp2
        go_ret
        obtain ⟨a1, _, _, _, _, a2, a3, a4⟩ := HR.out wx HX.out
        exact ⟨a3, a4, rfl, .inl ⟨.inr HZ.out, a1, a2⟩⟩
end Go.Proofs.YtjnikogaleofaaaDoor
