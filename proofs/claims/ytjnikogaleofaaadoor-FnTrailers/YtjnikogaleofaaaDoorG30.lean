/- Texts of ours put together: RdO, RdN. -/
import Derived.Test.YtjnikogaleofaaaDoorG12
import Derived.Test.YtjnikogaleofaaaDoorG26
import Derived.Test.YtjnikogaleofaaaDoorG29
import Derived.Deep.AppendLies
namespace Go.Proofs.YtjnikogaleofaaaDoor
open Go.ChangeShapes Go.WideShapes Go.ChangeAt Go.RowKit
theorem row_setN {N e s k B : Nat} {W : World} {v : Value} {xs : List Value} (h : W.ownsRow N e s v k xs) (hB : B < N) (i : Nat) (x : Value) : (W.setCell ⟨B, i, none⟩ x).ownsRow N e s v k xs :=
  h.kept (show W.grownBy (W.setCell ⟨B, i, none⟩ x) (some B) from ⟨rfl, rfl, rfl, by simp, fun k _ hk => Below.heap_setCell W ⟨B, i, none⟩ x k (fun e => hk (by rw [e]))⟩) (.inr fun e => by have := (h.lt B e).1; omega)
theorem OwnM.set {N B : Nat} {W : World} {mv : Value} {ms : List MsgV} (h : OwnM N W mv ms) (hB : B < N) (i : Nat) (x : Value) : OwnM N (W.setCell ⟨B, i, none⟩ x) mv ms :=
  ⟨row_setN h.row hB i x, fun y hy => (h.body y hy).set hB i x⟩
theorem OwnBs.set {N B : Nat} {W : World} {v : Value} {bs : List BunV} (h : OwnBs N W v bs) (hB : B < N) (i : Nat) (x : Value) : OwnBs N (W.setCell ⟨B, i, none⟩ x) v bs :=
  ⟨row_setN h.row hB i x, fun y hy => ⟨(h.msgs y hy).1.set hB i x, (h.msgs y hy).2⟩, h.sep⟩
/-- Where a row of segments grows that is none of these. -/
theorem OwnL.other {N n k : Nat} {W W' : World} {v lv : Value} {ps : List (Value × List Value)} {gs : List Seg} {xs : List Value} (h : OwnL N W v ps gs) (hr : W.ownsRow n 33 2 lv k xs) (hg : W.grownBy W' lv.ownBlock) (hne : ∀ b, lv.ownBlock = some b → v.ownBlock ≠ some b) : OwnL N W' v ps gs := by
  refine ⟨h.len, h.row.kept hg ?_, fun i p g hp hg' => (h.segs i p g hp hg').grow2 hg hr, h.sep⟩
  cases hv : v.ownBlock with
  | none => exact .inl rfl
  | some j => exact .inr fun e => hne j e.symm hv
/-- Bundles and the open bundle's messages. -/
structure Rd1 (N : Nat) (W : World) (bv : Value) (bs : List BunV) (mv : Value) (ms : List MsgV) : Prop where
  bnd : OwnBs N W bv bs
  mss : OwnM N W mv ms
  sep : ∀ x ∈ bs, ∀ b, mv.ownBlock = some b → x.2.1.ownBlock ≠ some b
/-- And the open message's body. -/
structure Rd2 (N : Nat) (W : World) (bv : Value) (bs : List BunV) (mv : Value) (ms : List MsgV) (dv : Value) (ps : List (Value × List Value)) (gs : List Seg) : Prop where
  one : Rd1 N W bv bs mv ms
  bod : OwnL N W dv ps gs
  apM : ∀ y ∈ ms, ∀ b, dv.ownBlock = some b → y.2.1.ownBlock ≠ some b
  apB : ∀ x ∈ bs, ∀ y ∈ x.2.2, ∀ b, dv.ownBlock = some b → y.2.1.ownBlock ≠ some b
theorem Rd1.below {N : Nat} {W W' : World} {bv mv : Value} {bs : List BunV} {ms : List MsgV} (h : Rd1 N W bv bs mv ms) (hb : Below W.heap.size W W') : Rd1 N W' bv bs mv ms := ⟨h.bnd.below hb, h.mss.below hb, h.sep⟩
theorem Rd1.set {N B : Nat} {W : World} {bv mv : Value} {bs : List BunV} {ms : List MsgV} (h : Rd1 N W bv bs mv ms) (hB : B < N) (i : Nat) (x : Value) : Rd1 N (W.setCell ⟨B, i, none⟩ x) bv bs mv ms := ⟨h.bnd.set hB i x, h.mss.set hB i x, h.sep⟩
theorem Rd2.below {N : Nat} {W W' : World} {bv mv dv : Value} {bs : List BunV} {ms : List MsgV} {ps : List (Value × List Value)} {gs : List Seg} (h : Rd2 N W bv bs mv ms dv ps gs) (hb : Below W.heap.size W W') : Rd2 N W' bv bs mv ms dv ps gs := ⟨h.one.below hb, h.bod.below hb, h.apM, h.apB⟩
theorem Rd2.set {N B : Nat} {W : World} {bv mv dv : Value} {bs : List BunV} {ms : List MsgV} {ps : List (Value × List Value)} {gs : List Seg} (h : Rd2 N W bv bs mv ms dv ps gs) (hB : B < N) (i : Nat) (x : Value) : Rd2 N (W.setCell ⟨B, i, none⟩ x) bv bs mv ms dv ps gs := ⟨h.one.set hB i x, h.bod.set hB i x, h.apM, h.apB⟩
/-- A bundle opens. -/
theorem Rd1.nil {N : Nat} {W : World} {bv : Value} {bs : List BunV} (h : OwnBs N W bv bs) : Rd1 N W bv bs (.slice none 0 0) [] := ⟨h, OwnM.nil _ _, fun x _ b e => by cases e⟩
/-- A message opens. -/
theorem Rd2.nil {N : Nat} {W : World} {bv mv : Value} {bs : List BunV} {ms : List MsgV} (h : Rd1 N W bv bs mv ms) : Rd2 N W bv bs mv ms (.slice none 0 0) [] [] := ⟨h, OwnL.nil _ _, (fun y _ b e => by cases e), fun x _ y _ b e => by cases e⟩
/-- A message ends. -/
theorem Rd2.close {N gg cap : Nat} {W w' : World} {bv mv dv : Value} {bs : List BunV} {ms : List MsgV} {ps : List (Value × List Value)} {gs : List Seg} {mn : Int} (h : Rd2 N W bv bs mv ms dv ps gs)
    (hr : w'.ownsRow N 50 2 (.slice (some ⟨gg, 0, none⟩) (ms.length + 1) cap) (ms.length + 1) (ms.flatMap clMv ++ [.int .i64 mn, dv]))
    (hg : W.grownBy w' mv.ownBlock) (hor : mv.ownBlock = some gg ∨ gg = W.heap.size) : Rd1 N w' bv bs (.slice (some ⟨gg, 0, none⟩) (ms.length + 1) cap) (ms ++ [(⟨mn, gs⟩, dv, ps)]) := by
  have hs : SameT 50 W w' := SameT.of_grown h.one.mss.row hg
  refine ⟨⟨row_sameT h.one.bnd.row hs (by decide), fun x hx => ⟨(h.one.bnd.msgs x hx).1.other h.one.mss.row hg ?_, (h.one.bnd.msgs x hx).2⟩, h.one.bnd.sep⟩, ⟨by simpa [clMv] using hr, fun y hy => ?_⟩, fun x hx b e => ?_⟩
  · intro b e1 e2
    exact h.one.sep x hx b e2 e1
  · rcases List.mem_append.1 hy with hy | hy
    · exact (h.one.mss.body y hy).sameT hs (by decide) (by decide) (by decide)
    · rw [List.mem_singleton.1 hy]
      exact h.bod.sameT hs (by decide) (by decide) (by decide)
  · simp only [Value.ownBlock, Option.some.injEq] at e
    subst e
    rcases hor with ho | ho
    · exact h.one.sep x hx _ ho
    · intro e
      have := ((h.one.bnd.msgs x hx).1.row.lt _ e).2
      omega
/-- A bundle ends. -/
theorem Rd1.close {N : Nat} {W w' : World} {bv bv' mv : Value} {bs : List BunV} {ms : List MsgV} {k n : Int} (h : Rd1 N W bv bs mv ms)
    (hr : w'.ownsRow N 48 3 bv' (bs.length + 1) (bs.flatMap clBv ++ [.int .i64 k, .int .i64 n, mv])) (hg : W.grownBy w' bv.ownBlock) : OwnBs N w' bv' (bs ++ [(⟨k, n, ms.map (·.1)⟩, mv, ms)]) := by
  have hs := SameT.of_grown h.bnd.row hg
  refine ⟨by simpa [clBv] using hr, fun x hx => ?_, fun i j x y hij hx hy b hb => ?_⟩
  · rcases List.mem_append.1 hx with hx | hx
    · exact ⟨(h.bnd.msgs x hx).1.sameT hs, (h.bnd.msgs x hx).2⟩
    · rw [List.mem_singleton.1 hx]
      exact ⟨h.mss.sameT hs, rfl⟩
  · rcases Nat.lt_or_ge j bs.length with hj | hj
    · rw [List.getElem?_append_left hj] at hy
      rw [List.getElem?_append_left (by omega)] at hx
      exact h.bnd.sep i j x y hij hx hy b hb
    · have hy1 := (List.getElem?_eq_some_iff.1 hy).1
      rw [List.length_append, List.length_singleton] at hy1
      obtain rfl : j = bs.length := by omega
      rw [List.getElem?_append_left (by omega)] at hx
      simp at hy
      rw [← hy]
      intro e
      exact h.sep x (List.mem_of_getElem? hx) b e hb
/-- A segment more. -/
theorem Rd2.push {N gg cap : Nat} {W w' : World} {bv mv dv : Value} {bs : List BunV} {ms : List MsgV} {ps ps' : List (Value × List Value)} {gs gs' : List Seg} (h : Rd2 N W bv bs mv ms dv ps gs)
    (hL : OwnL N w' (.slice (some ⟨gg, 0, none⟩) gs'.length cap) ps' gs') (hg : W.grownBy w' dv.ownBlock) (hor : dv.ownBlock = some gg ∨ gg = W.heap.size) : Rd2 N w' bv bs mv ms (.slice (some ⟨gg, 0, none⟩) gs'.length cap) ps' gs' := by
  have hs : SameT 33 W w' := SameT.of_grown h.bod.row hg
  have hM : ∀ {mv' : Value} {ms' : List MsgV}, OwnM N W mv' ms' → (∀ y ∈ ms', ∀ b, dv.ownBlock = some b → y.2.1.ownBlock ≠ some b) → OwnM N w' mv' ms' := fun hm ha => ⟨row_sameT hm.row hs (by decide), fun y hy => (hm.body y hy).other h.bod.row hg (ha y hy)⟩
  have hb : ∀ {mv' : Value} {ms' : List MsgV}, OwnM N W mv' ms' → (∀ y ∈ ms', ∀ b, dv.ownBlock = some b → y.2.1.ownBlock ≠ some b) → ∀ y ∈ ms', ∀ b, (Value.slice (some ⟨gg, 0, none⟩) gs'.length cap).ownBlock = some b → y.2.1.ownBlock ≠ some b := fun hm ha y hy b e => by
    simp only [Value.ownBlock, Option.some.injEq] at e
    subst e
    rcases hor with ho | ho
    · exact ha y hy _ ho
    · intro e
      have := ((hm.body y hy).row.lt _ e).2
      omega
  exact ⟨⟨⟨row_sameT h.one.bnd.row hs (by decide), fun x hx => ⟨hM (h.one.bnd.msgs x hx).1 (h.apB x hx), (h.one.bnd.msgs x hx).2⟩, h.one.bnd.sep⟩, hM h.one.mss h.apM, h.one.sep⟩, hL, hb h.one.mss h.apM, fun x hx => hb (h.one.bnd.msgs x hx).1 (h.apB x hx)⟩
end Go.Proofs.YtjnikogaleofaaaDoor
namespace Go.Proofs.YtjnikogaleofaaaDoor
open Go.ChangeShapes Go.WideShapes Go.ChangeAt Go.RowKit
theorem infoMsg : (Tryd.prog.info? 50).map (fun i => (i.zero, i.size, i.bytes)) = some (some (.agg #[.int .i64 0, .slice none 0 0]), 2, 32) := by kernel_rfl
theorem setR8 {W : World} {b t : Nat} {x0 x1 x2 x3 x4 x5 x6 x7 x8 x9 x10 y : Value} (h : W.heap[b]? = some (.cells #[x0, x1, x2, x3, x4, x5, x6, x7, x8, x9, x10] t)) : (W.setCell ⟨b, 8, none⟩ y).heap[b]? = some (.cells #[x0, x1, x2, x3, x4, x5, x6, x7, y, x9, x10] t) := by
  simp [World.setCell, Array.getElem?_modify, h]
/-- What a row grows that lies at N or behind: all in front stays. -/
theorem below_grown {N S : Nat} {w0 W W' : World} {row : Option Nat} (h : Below S w0 W) (hg : W.grownBy W' row) (hS : S ≤ N) (hr : ∀ j, row = some j → N ≤ j) (hW : S ≤ W.heap.size) : Below S w0 W' :=
  h.trans ⟨hg.os, hg.tape, hg.output, hg.size, fun k hk => hg.block k (by omega) (fun e => by have := hr k e.symm; omega)⟩
theorem below_setN {S R : Nat} {w0 W : World} (h : Below S w0 W) (hR : S ≤ R) (i : Nat) (x : Value) : Below S w0 (W.setCell ⟨R, i, none⟩ x) :=
  h.trans ⟨rfl, rfl, rfl, by simp, fun k hk => Below.heap_setCell W ⟨R, i, none⟩ x k (show k ≠ R by omega)⟩
theorem hp_drewR {X : World} {o : Obj} {b : Nat} (h : X.heap[b]? = some o) : X.drew.heap[b]? = some o := h
theorem endM_next {N R S gg cap H : Nat} {w0 X w7 : World} {cs : Array Value} {bv mv dv : Value} {bs : List BunV} {ms : List MsgV} {ps : List (Value × List Value)} {bd : List Seg} {mn : Int}
    (h : X.heap[R]? = some (.cells cs 67) ∧ Rd2 N X bv bs mv ms dv ps bd ∧ Below S w0 X ∧ N ≤ X.heap.size) (hN : S ≤ R ∧ R < N)
    (ho : w7.ownsRow N 50 2 (.slice (some ⟨gg, 0, none⟩) (ms.length + 1) cap) (ms.length + 1) (ms.flatMap clMv ++ [.int .i64 mn, dv])) (hg : X.grownBy w7 mv.ownBlock) (hat : mv.ownBlock = some gg ∨ gg = H) (hH : H = X.heap.size) :
    w7.heap[R]? = some (.cells cs 67) ∧ Rd1 N w7 bv bs (.slice (some ⟨gg, 0, none⟩) (ms.length + 1) cap) (ms ++ [(⟨mn, bd⟩, dv, ps)]) ∧ Below S w0 w7 ∧ N ≤ w7.heap.size := by
  obtain ⟨h1, h2, h3, h4⟩ := h
  have hr : ∀ j, mv.ownBlock = some j → N ≤ j := fun j e => (h2.one.mss.row.lt j e).1
  refine ⟨(hg.block R (by omega) fun e => by have := hr R e.symm; omega).trans h1, h2.close ho hg (by rw [← hH]; exact hat), below_grown h3 hg (N := N) (by omega) hr (by omega), Nat.le_trans h4 hg.size⟩
set_option maxRecDepth 20000 in
set_option maxHeartbeats 16000000 in
theorem endMessage_any (N R b o C Cm Cd : Nat) (Am Ad : Option Addr) (at_ : Nat) (num n k mn : Int) (frm tt : ByteArray) (bv : Value) (bs : List BunV) (ms : List MsgV) (ps : List (Value × List Value)) (bd : List Seg) (gs : List Seg) (tag : ByteArray) (es : List (List ByteArray)) (w0 w : World)
    (h : w.heap[R]? = some (.cells #[.slice (some ⟨b, o, none⟩) gs.length C, .int .i64 (at_ : Int), .int .i64 num, .string frm, .string tt, bv, .int .i64 n, .int .i64 k, .slice Am ms.length Cm, .int .i64 mn, .slice Ad bd.length Cd] 67)) (hg : RowG w0 (.slice (some ⟨b, o, none⟩) gs.length C) gs) (hat : gs[at_]? = some (tag, es)) (hE : BdE 1048576 es) (hT : TabOk w0) (hl : gs.length ≤ 1000000) (hn0 : 0 ≤ mn) (hn1 : mn ≤ 1000000) (hbd : bd.length ≤ 1000) (hms : ms.length ≤ 1000)
    (h0w : Below w0.heap.size w0 w) (hR0 : w0.heap.size ≤ R) (hRN : R < N) (hNw : N ≤ w.heap.size) (hRd : Rd2 N w bv bs (.slice Am ms.length Cm) ms (.slice Ad bd.length Cd) ps bd) :
    Calls Tryd.prog 40 #[.pointer (some ⟨R, 0, none⟩)] w fun e w' => Below w0.heap.size w0 w' ∧ N ≤ w'.heap.size ∧ e = .returned (.int .i64 (endC mn bd.length (tag, es))) ∧
      ((endC mn bd.length (tag, es) ≠ 0 ∧ w'.heap[R]? = some (.cells #[.slice (some ⟨b, o, none⟩) gs.length C, .int .i64 (at_ : Int), .int .i64 num, .string frm, .string tt, bv, .int .i64 n, .int .i64 k, .slice Am ms.length Cm, .int .i64 mn, .slice Ad bd.length Cd] 67) ∧ Rd2 N w' bv bs (.slice Am ms.length Cm) ms (.slice Ad bd.length Cd) ps bd) ∨
       (endC mn bd.length (tag, es) = 0 ∧ ∃ gg cap, w'.heap[R]? = some (.cells #[.slice (some ⟨b, o, none⟩) gs.length C, .int .i64 ((at_ + 1 : Nat) : Int), .int .i64 num, .string frm, .string tt, bv, .int .i64 n, .int .i64 k, .slice (some ⟨gg, 0, none⟩) (ms.length + 1) cap, .int .i64 mn, .slice Ad bd.length Cd] 67) ∧ Rd1 N w' bv bs (.slice (some ⟨gg, 0, none⟩) (ms.length + 1) cap) (ms ++ [(⟨mn, bd⟩, .slice Ad bd.length Cd, ps)]))) := by
  obtain ⟨j0, hj0i, hi0, hi1, hi2⟩ := info_parts infoMsg
  have hlt : at_ < gs.length := (List.getElem?_eq_some_iff.1 hat).1
  have hRl := (Array.getElem?_eq_some_iff.1 h).1
  obtain ⟨b', o', cap', g, u, e, hg', c0, c1, hEs, htz⟩ := hg.at hlt
  rw [hat] at hg'
  cases hg'
  simp only [Value.slice.injEq, Option.some.injEq, Addr.mk.injEq, and_true, true_and] at e
  obtain ⟨⟨rfl, rfl⟩, rfl⟩ := e
  obtain ⟨Au, Cu, rfl⟩ := hEs.val
  dsimp only at c0 c1 hEs htz
  have HR : Hid (∀ W, Below w.heap.size w W → W.heap[R]? = some (.cells #[.slice (some ⟨b, o, none⟩) gs.length C, .int .i64 (at_ : Int), .int .i64 num, .string frm, .string tt, bv, .int .i64 n, .int .i64 k, .slice Am ms.length Cm, .int .i64 mn, .slice Ad bd.length Cd] 67) ∧ W.cell? ⟨b, o + at_ * 2, none⟩ = some (.string tag) ∧ W.cell? ⟨b, o + at_ * 2 + 1, none⟩ = some (.slice Au es.length Cu) ∧ RowE W (.slice Au es.length Cu) es ∧ TabOk W ∧ Rd2 N W bv bs (.slice Am ms.length Cm) ms (.slice Ad bd.length Cd) ps bd ∧ Below w0.heap.size w0 W ∧ N ≤ W.heap.size) := fun W hW => by
    have hb : Below w0.heap.size w0 W := h0w.trans (hW.mono h0w.size)
    exact ⟨(hW.block R hRl).trans h, (hb.cell (cell_lt c0)).trans c0, (hb.cell (cell_lt c1)).trans c1, hEs.below hb, hT.below hb, hRd.below hW, hb, Nat.le_trans hNw hW.size⟩
  obtain ⟨z, hz⟩ : ∃ z, z = endC mn bd.length (tag, es) := ⟨_, rfl⟩
  rw [← hz]
  have QN : Hid (∀ W, Below w.heap.size w W → Calls Tryd.prog 49 #[.pointer (some ⟨R, 0, none⟩)] W fun e w' => e = .returned (.agg #[.string tag, .slice Au es.length Cu]) ∧ Below W.heap.size W w') := fun W hW => next_any R b o gs.length C at_ tag Au es.length Cu _ _ _ _ _ _ _ _ _ W (HR.out W hW).1 hlt (HR.out W hW).2.1 (HR.out W hW).2.2.1
  have QE : Hid (∀ W, Below w.heap.size w W → Calls Tryd.prog 50 #[.agg #[.int .i64 mn], .agg #[.string tag, .slice Au es.length Cu], .int .i64 (bd.length : Int)] W fun e w' => e = .returned (.int .i64 z) ∧ Below W.heap.size W w') := fun W hW => by rw [hz]; exact endedBy_any mn bd.length tag _ es W hn0 hn1 hbd (HR.out W hW).2.2.2.1 hE (HR.out W hW).2.2.2.2.1
  have CH : Hid (∀ W, Below w.heap.size w W → W.cell? ⟨R, 0, none⟩ = some (.slice (some ⟨b, o, none⟩) gs.length C) ∧ W.cell? ⟨R, 1, none⟩ = some (.int .i64 (at_ : Int)) ∧ W.cell? ⟨R, 9, none⟩ = some (.int .i64 mn) ∧ W.cell? ⟨R, 10, none⟩ = some (.slice Ad bd.length Cd)) := fun W hW => by
    obtain ⟨r0, r1, r2, r3, r4, r5, r6, r7, r8, r9, r10⟩ := box11R (HR.out W hW).1
    exact ⟨r0, r1, r9, r10⟩
  have HN : Hid (w0.heap.size ≤ R ∧ R < N) := ⟨hR0, hRN⟩
  clear h hg hEs hE hT c0 c1 hz hRd h0w hR0 hRN hNw
  go_enter Tryd.func40, Tryd.ntmps40
  obtain ⟨r0, r1, r9, r10⟩ := CH.out w (Below.refl _ _)
  go_upto_region 1 with fail
  go_cut [3] from 4 to 18 (fun s3 wx => s3 = .int .i64 z ∧ Below w.heap.size w wx)
  case first =>
    obtain ⟨_, _, _, _⟩ := CH.out w.drew (Below.refl _ _).drew
    go_region_held3 (fun W => W.cell? ⟨R, 0, none⟩ = some (.slice (some ⟨b, o, none⟩) gs.length C) ∧ W.cell? ⟨R, 1, none⟩ = some (.int .i64 (at_ : Int)) ∧ W.cell? ⟨R, 9, none⟩ = some (.int .i64 mn) ∧ W.cell? ⟨R, 10, none⟩ = some (.slice Ad bd.length Cd)) (go_keep) (first | (go_at_call 49; refine (QN.out _ (by first | exact Below.refl _ _ | exact (Below.refl _ _).drew)).mono ?_; rintro e wa ⟨rfl, hba⟩; have ba : Below w.heap.size w wa := (by first | exact hba | exact undrewE hba); obtain ⟨a0, a1, a2, a5⟩ := CH.out wa ba; obtain ⟨_, _, _, _⟩ := CH.out wa.drew ba.drew; clear hba; try dsimp only) | (go_at_call 50; refine (QE.out _ (by first | exact ba | exact ba.drew)).mono ?_; rintro e wb ⟨rfl, hbb⟩; have bb : Below w.heap.size w wb := ba.trans (((by first | exact hbb | exact undrewE hbb) : Below wa.heap.size wa wb).mono ba.size); obtain ⟨b0, b1, b2, b5⟩ := CH.out wb bb; obtain ⟨_, _, _, _⟩ := CH.out wb.drew bb.drew; clear hbb; try dsimp only))
    all_goals rename_i hHeld
    all_goals clear hHeld
    all_goals go_wp2_with fail
    all_goals go_meet
    all_goals exact ⟨rfl, bb⟩
  case rest =>
    obtain ⟨rfl, hbx⟩ := hcut
    rename World => wx
    have HX : Hid (Below w.heap.size w wx) := hbx
    clear hbx r0 r1 r9 r10
    by_cases hz0 : z = 0
    · subst hz0
      have HD : Hid ((wx.alloc (.cells #[.int .i64 mn, .slice Ad bd.length Cd] 50)).heap[R]? = some (.cells #[.slice (some ⟨b, o, none⟩) gs.length C, .int .i64 (at_ : Int), .int .i64 num, .string frm, .string tt, bv, .int .i64 n, .int .i64 k, .slice Am ms.length Cm, .int .i64 mn, .slice Ad bd.length Cd] 67) ∧ Rd2 N (wx.alloc (.cells #[.int .i64 mn, .slice Ad bd.length Cd] 50)) bv bs (.slice Am ms.length Cm) ms (.slice Ad bd.length Cd) ps bd ∧ Below w0.heap.size w0 (wx.alloc (.cells #[.int .i64 mn, .slice Ad bd.length Cd] 50)) ∧ N ≤ (wx.alloc (.cells #[.int .i64 mn, .slice Ad bd.length Cd] 50)).heap.size) := by
        have hX := HX.out.alloc HX.out.size (.cells #[.int .i64 mn, .slice Ad bd.length Cd] 50)
        obtain ⟨a1, _, _, _, _, a2, a3, a4⟩ := HR.out _ hX
        exact ⟨a1, a2, a3, a4⟩
      have HDd : Hid ((wx.alloc (.cells #[.int .i64 mn, .slice Ad bd.length Cd] 50)).drew.heap[R]? = some (.cells #[.slice (some ⟨b, o, none⟩) gs.length C, .int .i64 (at_ : Int), .int .i64 num, .string frm, .string tt, bv, .int .i64 n, .int .i64 k, .slice Am ms.length Cm, .int .i64 mn, .slice Ad bd.length Cd] 67) ∧ Rd2 N (wx.alloc (.cells #[.int .i64 mn, .slice Ad bd.length Cd] 50)).drew bv bs (.slice Am ms.length Cm) ms (.slice Ad bd.length Cd) ps bd ∧ Below w0.heap.size w0 (wx.alloc (.cells #[.int .i64 mn, .slice Ad bd.length Cd] 50)).drew ∧ N ≤ (wx.alloc (.cells #[.int .i64 mn, .slice Ad bd.length Cd] 50)).drew.heap.size) := ⟨HD.out.1, HD.out.2.1.below (Below.refl _ _).drew, HD.out.2.2.1.drew, HD.out.2.2.2⟩
      obtain ⟨r0, r1, r2, r3, r4, r5, r6, r7, r8, r9, r10⟩ := box11R (HR.out wx HX.out).1
      obtain ⟨_, _, _, _, _, _, _, _, s8, _, _⟩ := box11R HD.out.1
      have rowN := HD.out.2.1.one.mss.row
      have hmx : ms.length + 1 ≤ maxLen := by unfold maxLen; omega
      have hsN := HD.out.2.2.2
      go_upto_region 4 with fail
      go_region_law (first | (refine step_append_lies _ (by rfl) _ _ _ (by rfl) N 50 j0 _ 2 32 Tryd.underlying46 hj0i hi0 hi1 hi2 rfl (by omega) (.slice Am ms.length Cm) ms.length (ms.flatMap clMv) (by rfl) (by first | exact rowN | exact rowN.drew) ⟨wx.heap.size, 0, none⟩ 1 1 [.int .i64 mn, .slice Ad bd.length Cd] (by rfl) (by rfl) (World.news_of_block (cs := #[.int .i64 mn, .slice Ad bd.length Cd]) (t := 50) (fr := (0, 0)) (by first | exact World.alloc_heap_new wx _ | exact hp_drewR (World.alloc_heap_new wx _))) (by simp [Value.oneCell']) (by omega) hmx (by omega) hsN (wx.heap.size + 1) (by simp) ?_; intro gg cap w7 hown7 hgrow7 hat7 hlt7; have H7 : Hid (w7.heap[R]? = some (.cells #[.slice (some ⟨b, o, none⟩) gs.length C, .int .i64 (at_ : Int), .int .i64 num, .string frm, .string tt, bv, .int .i64 n, .int .i64 k, .slice Am ms.length Cm, .int .i64 mn, .slice Ad bd.length Cd] 67) ∧ Rd1 N w7 bv bs (.slice (some ⟨gg, 0, none⟩) (ms.length + 1) cap) (ms ++ [(⟨mn, bd⟩, .slice Ad bd.length Cd, ps)]) ∧ Below w0.heap.size w0 w7 ∧ N ≤ w7.heap.size) := (by first | exact endM_next HD.out HN.out hown7 hgrow7 hat7 (by simp) | exact endM_next HDd.out HN.out hown7 hgrow7 hat7 (by simp) | fail); obtain ⟨u0, u1, u2, u3, u4, u5, u6, u7, u8, u9, u10⟩ := box11R H7.out.1; have uf := frozeR H7.out.1; try dsimp only) | fail)
      all_goals clear hown7 hgrow7 hat7 hlt7 rowN s8 r0 r1 r2 r3 r4 r5 r6 r7 r8 r9 r10
      all_goals have hw : IntKind.i64.wrap ((at_ : Int) + 1) = (at_ : Int) + 1 := by rw [IntKind.wrap_i64]; omega
      all_goals go_wp2
      all_goals go_ret
      all_goals obtain ⟨a1, a2, a3, a4⟩ := H7.out
      all_goals exact ⟨below_setN (below_setN a3 HN.out.1 _ _) HN.out.1 _ _, by simpa [World.setCell] using a4, rfl, gg, cap, setR1 (setR8 a1), (a2.set HN.out.2 _ _).set HN.out.2 _ _⟩
    · have HZ : Hid (¬ z = 0) := hz0
      have g0 : (z == 0) = false := by simp [hz0]
      clear hz0
      go_wp2
      go_ret
      obtain ⟨a1, _, _, _, _, a2, a3, a4⟩ := HR.out wx HX.out
      exact ⟨a3, a4, rfl, .inl ⟨HZ.out, a1, a2⟩⟩
end Go.Proofs.YtjnikogaleofaaaDoor
