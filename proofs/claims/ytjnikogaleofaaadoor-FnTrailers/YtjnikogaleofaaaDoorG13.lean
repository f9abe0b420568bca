/- Texts of ours put together: L3S, L3T. -/
import Derived.Test.YtjnikogaleofaaaDoorG12
namespace Go.Proofs.YtjnikogaleofaaaDoor
open Go.ChangeShapes Go.WideShapes Go.ChangeAt Go.RowKit Go.Shelf
theorem box_grow {G t s k : Nat} (o : Nat) (u' : Value) {W w4 : World} {x : Obj} {v : Value} {xs : List Value} (hrow : W.ownsRow (G + 1) t s v k xs) (hG : G < W.heap.size) (hg : (W.alloc x).grownBy w4 v.ownBlock) :
    (∀ j, j ≤ G → w4.heap[j]? = W.heap[j]?) ∧ Below (G + 1) W w4 ∧ Below G W (w4.setCell ⟨G, o, none⟩ u') := by
  have hold : ∀ j, j ≤ G → w4.heap[j]? = W.heap[j]? := fun j hj => by
    rw [hg.block j (by simp; omega) (fun e => by have := (hrow.lt j e.symm).1; omega), Below.heap_alloc _ _ _ (by omega)]
  have hsz : W.heap.size ≤ w4.heap.size := Nat.le_trans (by simp) hg.size
  have hb : Below (G + 1) W w4 := ⟨hg.os, hg.tape, hg.output, hsz, fun j hj => hold j (by omega)⟩
  exact ⟨hold, hb, (hb.mono (show G ≤ G + 1 by omega)).setCell (show G ≤ (⟨G, o, none⟩ : Addr).block from Nat.le_refl _) _⟩
theorem Keep.of_lower {B G : Nat} {w W W' : World} (h : Keep B w W) (hb : Below G W W') (hG : w.heap.size ≤ G) : Keep B w W' :=
  ⟨hb.os.trans h.os, hb.tape.trans h.tape, hb.output.trans h.output, Nat.le_trans h.size hb.size, fun k hk hB => (hb.block k (by omega)).trans (h.block k hk hB)⟩
/-- A message at hand in block M; what lay in wm lies as it lay, but for the source. -/
structure MSt (B M : Nat) (wm W : World) (n : Int) (gv : Value) (ps : List (Value × List Value)) (gs : List Seg) : Prop where
  kp : Keep B wm W
  src : IsSrc B W
  m : W.heap[M]? = some (.cells #[.int .i64 n, gv] 50)
  own : OwnWL (M + 1) W gv ps gs
  bd : BdGs gs
  ge : wm.heap.size ≤ M
  bo : B < wm.heap.size
theorem MSt.lt {B M : Nat} {wm W : World} {n : Int} {gv : Value} {ps : List (Value × List Value)} {gs : List Seg} (h : MSt B M wm W n gv ps gs) : M < W.heap.size := (Array.getElem?_eq_some_iff.1 h.m).1
theorem MSt.keep {B M : Nat} {wm W W' : World} {n : Int} {gv : Value} {ps : List (Value × List Value)} {gs : List Seg} (h : MSt B M wm W n gv ps gs) (hk : Keep B W W') (hs : IsSrc B W') : MSt B M wm W' n gv ps gs := by
  have h1 := h.ge
  have h2 := h.bo
  exact ⟨h.kp.trans hk, hs, (hk.block _ h.lt (by omega)).trans h.m, h.own.keep hk (by omega), h.bd, h1, h2⟩
theorem MSt.below {B M : Nat} {wm W W' : World} {n : Int} {gv : Value} {ps : List (Value × List Value)} {gs : List Seg} (h : MSt B M wm W n gv ps gs) (hb : Below W.heap.size W W') : MSt B M wm W' n gv ps gs :=
  h.keep (Keep.of_below hb) (h.src.below (hb.mono (by have := h.lt; have := h.ge; have := h.bo; omega)))
theorem MSt.push {B M : Nat} {wm W w4 : World} {n : Int} {gv u u' : Value} {vals : List Value} {ps : List (Value × List Value)} {gs : List Seg} {g : Seg} {x : Obj} (h : MSt B M wm W n gv ps gs) (hu : OwnW (M + 1) W u vals g.2) (hb : g.1.size ≤ 100 ∧ g.2.length ≤ 12 ∧ BdW g.2)
    (hg : (W.alloc x).grownBy w4 gv.ownBlock) (hown : w4.ownsRow (M + 1) 33 2 u' (gs.length + 1) (cellsL gs ps ++ [.string g.1, u])) :
    (∃ z, w4.cell? ⟨M, 1, none⟩ = some z) ∧ (∀ o, w4.frozen? ⟨M, o, none⟩ = false) ∧ MSt B M wm (w4.setCell ⟨M, 1, none⟩ u') n u' (ps ++ [(u, vals)]) (gs ++ [g]) := by
  have h1 := h.ge
  have h2 := h.bo
  have h3 := h.lt
  obtain ⟨hold, hb1, hb2⟩ := box_grow 1 u' h.own.row h3 hg
  have he := (hold M (Nat.le_refl _)).trans h.m
  have hbA : Below W.heap.size W (W.alloc x) := (Below.refl _ _).alloc (Nat.le_refl _) _
  have hO := ((h.own.below hbA).push (hu.below hbA) hown hg).set (B := M) (by omega) 1 u'
  have hmm : (w4.setCell ⟨M, 1, none⟩ u').heap[M]? = some (.cells #[.int .i64 n, u'] 50) := by
    have := heap_setCell_same w4 M 1 _ _ u' he
    simpa using this
  refine ⟨⟨gv, by simp [World.cell?, he]⟩, fun o => by simp [World.frozen?, he], h.kp.of_lower hb2 h1, h.src.below (hb2.mono (by omega)), hmm, hO, fun e he => ?_, h1, h2⟩
  rcases List.mem_append.1 he with q | q
  · exact h.bd e q
  · rw [List.mem_singleton.1 q]
    exact hb
/-- A bundle at hand in block M. -/
structure BSt (B M : Nat) (wm W : World) (k n : Int) (mv : Value) (ms : List MsgV) : Prop where
  kp : Keep B wm W
  src : IsSrc B W
  b : W.heap[M]? = some (.cells #[.int .i64 k, .int .i64 n, mv] 48)
  own : OwnWM (M + 1) W mv ms
  bd : ∀ x ∈ ms, BdGs x.1.body ∧ x.1.body.length ≤ 3 ∧ 0 ≤ x.1.num ∧ x.1.num ≤ 100
  ge : wm.heap.size ≤ M
  bo : B < wm.heap.size
theorem BSt.lt {B M : Nat} {wm W : World} {k n : Int} {mv : Value} {ms : List MsgV} (h : BSt B M wm W k n mv ms) : M < W.heap.size := (Array.getElem?_eq_some_iff.1 h.b).1
theorem BSt.keep {B M : Nat} {wm W W' : World} {k n : Int} {mv : Value} {ms : List MsgV} (h : BSt B M wm W k n mv ms) (hk : Keep B W W') (hs : IsSrc B W') : BSt B M wm W' k n mv ms := by
  have h1 := h.ge
  have h2 := h.bo
  exact ⟨h.kp.trans hk, hs, (hk.block _ h.lt (by omega)).trans h.b, h.own.keep hk (by omega), h.bd, h1, h2⟩
theorem BSt.below {B M : Nat} {wm W W' : World} {k n : Int} {mv : Value} {ms : List MsgV} (h : BSt B M wm W k n mv ms) (hb : Below W.heap.size W W') : BSt B M wm W' k n mv ms :=
  h.keep (Keep.of_below hb) (h.src.below (hb.mono (by have := h.lt; have := h.ge; have := h.bo; omega)))
theorem BSt.push {B M : Nat} {wm W w4 : World} {k n : Int} {mv gv u' : Value} {ms : List MsgV} {m : Msg} {ps : List (Value × List Value)} {x : Obj} (h : BSt B M wm W k n mv ms) (hu : OwnWL (M + 1) W gv ps m.body) (hb : BdGs m.body ∧ m.body.length ≤ 3 ∧ 0 ≤ m.num ∧ m.num ≤ 100)
    (hg : (W.alloc x).grownBy w4 mv.ownBlock) (hown : w4.ownsRow (M + 1) 50 2 u' (ms.length + 1) (ms.flatMap clMv ++ [.int .i64 m.num, gv])) :
    (∃ z, w4.cell? ⟨M, 2, none⟩ = some z) ∧ (∀ o, w4.frozen? ⟨M, o, none⟩ = false) ∧ BSt B M wm (w4.setCell ⟨M, 2, none⟩ u') k n u' (ms ++ [(m, gv, ps)]) := by
  have h1 := h.ge
  have h2 := h.bo
  have h3 := h.lt
  obtain ⟨hold, hb1, hb2⟩ := box_grow 2 u' h.own.row h3 hg
  have he := (hold M (Nat.le_refl _)).trans h.b
  have hbA : Below W.heap.size W (W.alloc x) := (Below.refl _ _).alloc (Nat.le_refl _) _
  have hO := ((h.own.below hbA).push (hu.below hbA) hown hg).set (B := M) (by omega) 2 u'
  have hmm : (w4.setCell ⟨M, 2, none⟩ u').heap[M]? = some (.cells #[.int .i64 k, .int .i64 n, u'] 48) := by
    have := heap_setCell_same w4 M 2 _ _ u' he
    simpa using this
  refine ⟨⟨mv, by simp [World.cell?, he]⟩, fun o => by simp [World.frozen?, he], h.kp.of_lower hb2 h1, h.src.below (hb2.mono (by omega)), hmm, hO, fun e he => ?_, h1, h2⟩
  rcases List.mem_append.1 he with q | q
  · exact h.bd e q
  · rw [List.mem_singleton.1 q]
    exact hb
/-- The interchange at hand in block X, the answer's in R. -/
structure XSt (B R X : Nat) (w W : World) (frm tt : ByteArray) (num : Int) (v : Value) (bs : List BunV) : Prop where
  kp : Keep B w W
  src : IsSrc B W
  r : W.heap[R]? = some (.cells #[.string ⟨#[]⟩, .string ⟨#[]⟩, .int .i64 0, .slice none 0 0] 25)
  x : W.heap[X]? = some (.cells #[.string frm, .string tt, .int .i64 num, v] 25)
  own : OwnWBs (X + 1) W v bs
  bd : BdBs bs
  wr : w.heap.size ≤ R
  rx : R < X
  bo : B < w.heap.size
  zs : frm.size ≤ 100 ∧ tt.size ≤ 100 ∧ 0 ≤ num ∧ num ≤ 1000000
theorem XSt.lt {B R X : Nat} {w W : World} {frm tt : ByteArray} {num : Int} {v : Value} {bs : List BunV} (h : XSt B R X w W frm tt num v bs) : X < W.heap.size := (Array.getElem?_eq_some_iff.1 h.x).1
theorem XSt.keep {B R X : Nat} {w W W' : World} {frm tt : ByteArray} {num : Int} {v : Value} {bs : List BunV} (h : XSt B R X w W frm tt num v bs) (hk : Keep B W W') (hs : IsSrc B W') : XSt B R X w W' frm tt num v bs := by
  have h1 := h.wr
  have h2 := h.rx
  have h3 := h.bo
  have h4 := h.lt
  exact ⟨h.kp.trans hk, hs, (hk.block _ (by omega) (by omega)).trans h.r, (hk.block _ h4 (by omega)).trans h.x, h.own.keep hk (by omega), h.bd, h1, h2, h3, h.zs⟩
theorem XSt.below {B R X : Nat} {w W W' : World} {frm tt : ByteArray} {num : Int} {v : Value} {bs : List BunV} (h : XSt B R X w W frm tt num v bs) (hb : Below W.heap.size W W') : XSt B R X w W' frm tt num v bs :=
  h.keep (Keep.of_below hb) (h.src.below (hb.mono (by have := h.lt; have := h.rx; have := h.wr; have := h.bo; omega)))
theorem XSt.push {B R X : Nat} {w W w4 : World} {frm tt : ByteArray} {num : Int} {v mv u' : Value} {bs : List BunV} {b : Bun} {ms : List MsgV} {x : Obj} (h : XSt B R X w W frm tt num v bs) (hu : OwnWM (X + 1) W mv ms) (hm : ms.map (·.1) = b.msgs) (hl : bs.length ≤ 5) (hb : BdMs ms ∧ 0 ≤ b.kind ∧ b.kind ≤ 8 ∧ 0 ≤ b.num ∧ b.num ≤ 100)
    (hg : (W.alloc x).grownBy w4 v.ownBlock) (hown : w4.ownsRow (X + 1) 48 3 u' (bs.length + 1) (bs.flatMap clBv ++ [.int .i64 b.kind, .int .i64 b.num, mv])) :
    (∃ z, w4.cell? ⟨X, 3, none⟩ = some z) ∧ (∀ o, w4.frozen? ⟨X, o, none⟩ = false) ∧ XSt B R X w (w4.setCell ⟨X, 3, none⟩ u') frm tt num u' (bs ++ [(b, mv, ms)]) := by
  have h1 := h.wr
  have h2 := h.rx
  have h5 := h.bo
  have h3 := h.lt
  obtain ⟨hold, hb1, hb2⟩ := box_grow 3 u' h.own.row h3 hg
  have he := (hold X (Nat.le_refl _)).trans h.x
  have hbA : Below W.heap.size W (W.alloc x) := (Below.refl _ _).alloc (Nat.le_refl _) _
  have hO := ((h.own.below hbA).push (hu.below hbA) hm hown hg).set (B := X) (by omega) 3 u'
  have hmm : (w4.setCell ⟨X, 3, none⟩ u').heap[X]? = some (.cells #[.string frm, .string tt, .int .i64 num, u'] 25) := by
    have := heap_setCell_same w4 X 3 _ _ u' he
    simpa using this
  refine ⟨⟨v, by simp [World.cell?, he]⟩, fun o => by simp [World.frozen?, he], h.kp.of_lower hb2 (by omega), h.src.below (hb2.mono (by omega)), (hb2.block R (by omega)).trans h.r, hmm, hO, ⟨by simp; omega, fun e he => ?_⟩, h1, h2, h5, h.zs⟩
  rcases List.mem_append.1 he with q | q
  · exact h.bd.2 e q
  · rw [List.mem_singleton.1 q]
    exact hb
end Go.Proofs.YtjnikogaleofaaaDoor
namespace Go.Proofs.YtjnikogaleofaaaDoor
open Go.ChangeShapes Go.WideShapes Go.ChangeAt Go.RowKit Go.Shelf
theorem XSt.setX {B R X : Nat} {w W : World} {frm tt : ByteArray} {num : Int} {v : Value} {bs : List BunV} (h : XSt B R X w W frm tt num v bs) (o : Nat) (u : Value) :
    Keep B w (W.setCell ⟨X, o, none⟩ u) ∧ IsSrc B (W.setCell ⟨X, o, none⟩ u) ∧ (W.setCell ⟨X, o, none⟩ u).heap[R]? = some (.cells #[.string ⟨#[]⟩, .string ⟨#[]⟩, .int .i64 0, .slice none 0 0] 25) ∧ OwnWBs (X + 1) (W.setCell ⟨X, o, none⟩ u) v bs := by
  have h1 := h.wr
  have h2 := h.rx
  have h3 := h.bo
  have h4 := h.lt
  have hb : Below X W (W.setCell ⟨X, o, none⟩ u) := (Below.refl X W).setCell (show X ≤ (⟨X, o, none⟩ : Addr).block from Nat.le_refl _) _
  exact ⟨h.kp.of_lower hb (by omega), h.src.below (hb.mono (by omega)), (hb.block R h2).trans h.r, h.own.set (by omega) o u⟩
theorem XSt.setFrm {B R X : Nat} {w W : World} {frm tt : ByteArray} {num : Int} {v : Value} {bs : List BunV} (h : XSt B R X w W frm tt num v bs) (s : ByteArray) (hs : s.size ≤ 100) : XSt B R X w (W.setCell ⟨X, 0, none⟩ (.string s)) s tt num v bs := by
  obtain ⟨a, b, c, d⟩ := h.setX 0 (.string s)
  exact ⟨a, b, c, by have := heap_setCell_same W X 0 _ _ (.string s) h.x; simpa using this, d, h.bd, h.wr, h.rx, h.bo, hs, h.zs.2⟩
theorem XSt.setNum {B R X : Nat} {w W : World} {frm tt : ByteArray} {num : Int} {v : Value} {bs : List BunV} (h : XSt B R X w W frm tt num v bs) (n : Int) (h0 : 0 ≤ n) (h1 : n ≤ 1000000) : XSt B R X w (W.setCell ⟨X, 2, none⟩ (.int .i64 n)) frm tt n v bs := by
  obtain ⟨a, b, c, d⟩ := h.setX 2 (.int .i64 n)
  exact ⟨a, b, c, by have := heap_setCell_same W X 2 _ _ (.int .i64 n) h.x; simpa using this, d, h.bd, h.wr, h.rx, h.bo, h.zs.1, h.zs.2.1, h0, h1⟩
theorem XSt.setNil {B R X : Nat} {w W : World} {frm tt : ByteArray} {num : Int} {v : Value} {bs : List BunV} (h : XSt B R X w W frm tt num v bs) : XSt B R X w (W.setCell ⟨X, 3, none⟩ (.slice none 0 0)) frm tt num (.slice none 0 0) [] := by
  obtain ⟨a, b, c, d⟩ := h.setX 3 (.slice none 0 0)
  exact ⟨a, b, c, by have := heap_setCell_same W X 3 _ _ (.slice none 0 0) h.x; simpa using this, OwnWBs.nil _ _, ⟨by simp, fun x h => by cases h⟩, h.wr, h.rx, h.bo, h.zs⟩
/-- Behind four stores into the answer's block. -/
theorem low4 (R : Nat) (W : World) (v0 v1 v2 v3 : Value) : Below R W ((((W.setCell ⟨R, 0, none⟩ v0).setCell ⟨R, 1, none⟩ v1).setCell ⟨R, 2, none⟩ v2).setCell ⟨R, 3, none⟩ v3) := by
  have hle : ∀ o, R ≤ (⟨R, o, none⟩ : Addr).block := fun o => Nat.le_refl R
  exact (((((Below.refl R W).setCell (hle 0) v0).setCell (hle 1) v1).setCell (hle 2) v2).setCell (hle 3) v3)
theorem XSt.done {B R X : Nat} {w W : World} {frm tt : ByteArray} {num : Int} {v : Value} {bs : List BunV} (h : XSt B R X w W frm tt num v bs) (v0 v1 v2 v3 : Value) : OwnWBs R ((((W.setCell ⟨R, 0, none⟩ v0).setCell ⟨R, 1, none⟩ v1).setCell ⟨R, 2, none⟩ v2).setCell ⟨R, 3, none⟩ v3) v bs ∧ IsSrc B ((((W.setCell ⟨R, 0, none⟩ v0).setCell ⟨R, 1, none⟩ v1).setCell ⟨R, 2, none⟩ v2).setCell ⟨R, 3, none⟩ v3) ∧ Keep B w ((((W.setCell ⟨R, 0, none⟩ v0).setCell ⟨R, 1, none⟩ v1).setCell ⟨R, 2, none⟩ v2).setCell ⟨R, 3, none⟩ v3) := by
  have h1 := h.wr
  have h2 := h.rx
  have h3 := h.bo
  have hb := low4 R W v0 v1 v2 v3
  exact ⟨((((h.own.set (B := R) (by omega) 0 v0).set (B := R) (by omega) 1 v1).set (B := R) (by omega) 2 v2).set (B := R) (by omega) 3 v3).mono (by omega), h.src.below (hb.mono (by omega)), h.kp.of_lower hb h1⟩
/-- Its list of bundles lies in a block of its own, if there is one. -/
theorem OwnWBs.at {N : Nat} {W : World} {v : Value} {b : BunV} {r : List BunV} (h : OwnWBs N W v (b :: r)) : ∃ g C, v = .slice (some ⟨g, 0, none⟩) (b :: r).length C ∧ N ≤ g ∧ (∃ cur, W.heap[g]? = some (.cells cur 48)) ∧ W.cell? ⟨g, 0, none⟩ = some (.int .i64 b.1.kind) ∧ W.cell? ⟨g, 1, none⟩ = some (.int .i64 b.1.num) ∧ W.cell? ⟨g, 2, none⟩ = some b.2.1 ∧ ∀ o, W.frozen? ⟨g, o, none⟩ = false := by
  have hr := h.row
  rcases hr.2 with ⟨rfl, h0⟩ | ⟨g, cap, cur, rfl, hb, hh, _⟩
  · simp at h0
  · refine ⟨g, cap, rfl, hb, ⟨cur, hh⟩, ?_, ?_, ?_, fun o => hr.frozenAt o⟩
    · rw [hr.cellAt 0 (by simp)]; simp [clBv]
    · rw [hr.cellAt 1 (by simp; omega)]; simp [clBv]
    · rw [hr.cellAt 2 (by simp; omega)]; simp [clBv]
theorem XSt.setRow {B R X g o : Nat} {u : Value} {w W : World} {frm tt : ByteArray} {num : Int} {v : Value} {bs bs' : List BunV} (h : XSt B R X w W frm tt num v bs) (hg : X + 1 ≤ g) (hO : OwnWBs (X + 1) (W.setCell ⟨g, o, none⟩ u) v bs') (hb : BdBs bs') : XSt B R X w (W.setCell ⟨g, o, none⟩ u) frm tt num v bs' := by
  have h1 := h.wr
  have h2 := h.rx
  have h3 := h.bo
  have hb2 : Below (X + 1) W (W.setCell ⟨g, o, none⟩ u) := (Below.refl (X + 1) W).setCell (show X + 1 ≤ (⟨g, o, none⟩ : Addr).block from hg) _
  exact ⟨h.kp.of_lower hb2 (by omega), h.src.below (hb2.mono (by omega)), (hb2.block R (by omega)).trans h.r, (hb2.block X (by omega)).trans h.x, hO, hb, h1, h2, h3, h.zs⟩
/-- The first bundle's kind. -/
theorem OwnWBs.setKind {N g C : Nat} {W : World} {b : Bun} {mv : Value} {ms : List MsgV} {r : List BunV} (h : OwnWBs N W (.slice (some ⟨g, 0, none⟩) ((b, mv, ms) :: r).length C) ((b, mv, ms) :: r)) (k : Int) (hc : ∃ cur, W.heap[g]? = some (.cells cur 48)) :
    OwnWBs N (W.setCell ⟨g, 0, none⟩ (.int .i64 k)) (.slice (some ⟨g, 0, none⟩) ((b, mv, ms) :: r).length C) ((⟨k, b.num, b.msgs⟩, mv, ms) :: r) := by
  obtain ⟨cur, hc⟩ := hc
  have hs := SameT.of_set hc 0 (.int .i64 k)
  refine ⟨?_, fun x hx => ?_⟩
  · have := (World.ownsRow.stored h.row 0 (.int .i64 k)).1
    simpa [clBv] using this
  · rcases List.mem_cons.1 hx with rfl | q
    · have := h.msgs (b, mv, ms) List.mem_cons_self
      exact ⟨this.1.sameT hs, this.2⟩
    · have := h.msgs x (List.mem_cons_of_mem _ q)
      exact ⟨this.1.sameT hs, this.2⟩
theorem OwnWM.other {N n k : Nat} {W W' : World} {mv mv' : Value} {ms : List MsgV} {xs : List Value} (h : OwnWM N W mv ms) (hr : W.ownsRow n 50 2 mv' k xs) (hg : W.grownBy W' mv'.ownBlock) (hne : ∀ b, mv.ownBlock = some b → mv'.ownBlock ≠ some b) : OwnWM N W' mv ms := by
  refine ⟨h.row.kept hg ?_, fun x hx => (h.body x hx).sameT (SameT.of_grown hr hg) (by decide) (by decide) (by decide)⟩
  cases hv : mv.ownBlock with
  | none => exact .inl rfl
  | some j => exact .inr fun e => hne j hv e.symm
/-- A message more in the first bundle. -/
theorem OwnWBs.addM0 {N g gg C cap : Nat} {W w4 : World} {b : Bun} {mv : Value} {ms : List MsgV} {r : List BunV} {n : Int} (h : OwnWBs N W (.slice (some ⟨g, 0, none⟩) ((b, mv, ms) :: r).length C) ((b, mv, ms) :: r)) (hs : SepW ((b, mv, ms) :: r))
    (hr : w4.ownsRow N 50 2 (.slice (some ⟨gg, 0, none⟩) (ms.length + 1) cap) (ms.length + 1) (ms.flatMap clMv ++ [.int .i64 n, .slice none 0 0])) (hg : W.grownBy w4 mv.ownBlock) (hor : mv.ownBlock = some gg ∨ W.heap.size ≤ gg) :
    OwnWBs N (w4.setCell ⟨g, 2, none⟩ (.slice (some ⟨gg, 0, none⟩) (ms.length + 1) cap)) (.slice (some ⟨g, 0, none⟩) ((b, mv, ms) :: r).length C) ((⟨b.kind, b.num, b.msgs ++ [⟨n, []⟩]⟩, .slice (some ⟨gg, 0, none⟩) (ms.length + 1) cap, ms ++ [(⟨n, []⟩, .slice none 0 0, [])]) :: r) ∧
      SepW ((⟨b.kind, b.num, b.msgs ++ [⟨n, []⟩]⟩, .slice (some ⟨gg, 0, none⟩) (ms.length + 1) cap, ms ++ [(⟨n, []⟩, .slice none 0 0, [])]) :: r) ∧ w4.cell? ⟨g, 2, none⟩ = some mv ∧ w4.frozen? ⟨g, 2, none⟩ = false := by
  have hM := (h.msgs (b, mv, ms) List.mem_cons_self)
  have hsM : SameT 50 W w4 := SameT.of_grown hM.1.row hg
  have hrow : w4.ownsRow N 48 3 (.slice (some ⟨g, 0, none⟩) ((b, mv, ms) :: r).length C) ((b, mv, ms) :: r).length (((b, mv, ms) :: r).flatMap clBv) := row_sameT h.row hsM (by decide)
  have hcell : w4.cell? ⟨g, 2, none⟩ = some mv := by rw [hrow.cellAt 2 (by simp; omega)]; simp [clBv]
  have hcur : ∃ cur, w4.heap[g]? = some (.cells cur 48) := by
    rcases hrow.2 with ⟨e, _⟩ | ⟨b', cap', cur, e, _, hh, _⟩
    · cases e
    · simp only [Value.slice.injEq, Option.some.injEq, Addr.mk.injEq] at e
      obtain ⟨⟨rfl, _⟩, _⟩ := e
      exact ⟨cur, hh⟩
  obtain ⟨cur, hcur⟩ := hcur
  have hset : SameT 48 w4 (w4.setCell ⟨g, 2, none⟩ (.slice (some ⟨gg, 0, none⟩) (ms.length + 1) cap)) := SameT.of_set hcur _ _
  refine ⟨⟨?_, fun x hx => ?_⟩, ?_, hcell, hrow.frozenAt 2⟩
  · have := (World.ownsRow.stored hrow 2 (.slice (some ⟨gg, 0, none⟩) (ms.length + 1) cap)).1
    simpa [clBv] using this
  · rcases List.mem_cons.1 hx with rfl | q
    · refine ⟨⟨?_, fun y hy => ?_⟩, by simp [hM.2]⟩
      · refine row_sameT ?_ hset (by decide)
        simpa [clMv] using hr
      · rcases List.mem_append.1 hy with hy | hy
        · exact ((hM.1.body y hy).sameT hsM (by decide) (by decide) (by decide)).sameT hset (by decide) (by decide) (by decide)
        · rw [List.mem_singleton.1 hy]
          exact OwnWL.nil _ _
    · have hp := h.msgs x (List.mem_cons_of_mem _ q)
      obtain ⟨i, hi⟩ := List.mem_iff_getElem?.1 q
      refine ⟨(hp.1.other hM.1.row hg fun bb hb e => ?_).sameT hset, hp.2⟩
      exact hs 0 (i + 1) (b, mv, ms) x (by omega) (by simp) (by simpa using hi) bb e hb
  · intro i j x y hij hx hy bb hb
    cases j with
    | zero => omega
    | succ j =>
      cases i with
      | succ i => exact hs (i + 1) (j + 1) x y hij (by simpa using hx) (by simpa using hy) bb hb
      | zero =>
        simp at hx hy
        rw [← hx] at hb
        simp only [Value.ownBlock, Option.some.injEq] at hb
        subst hb
        intro e
        rcases hor with ho | ho
        · exact hs 0 (j + 1) (b, mv, ms) y (by omega) (by simp) (by simpa using hy) gg ho e
        · have := ((h.msgs y (List.mem_cons_of_mem _ (List.mem_of_getElem? hy))).1.row.lt gg e).2
          omega
theorem XSt.setKind {B R X g C : Nat} {w W : World} {frm tt : ByteArray} {num : Int} {b : Bun} {mv : Value} {ms : List MsgV} {r : List BunV} (h : XSt B R X w W frm tt num (.slice (some ⟨g, 0, none⟩) ((b, mv, ms) :: r).length C) ((b, mv, ms) :: r)) (hg : X + 1 ≤ g) (hc : ∃ cur, W.heap[g]? = some (.cells cur 48)) (k : Int) (h0 : 0 ≤ k) (h1 : k ≤ 8) :
    XSt B R X w (W.setCell ⟨g, 0, none⟩ (.int .i64 k)) frm tt num (.slice (some ⟨g, 0, none⟩) ((b, mv, ms) :: r).length C) ((⟨k, b.num, b.msgs⟩, mv, ms) :: r) := by
  refine h.setRow hg (h.own.setKind k hc) ⟨h.bd.1, fun x hx => ?_⟩
  rcases List.mem_cons.1 hx with rfl | q
  · have := h.bd.2 (b, mv, ms) List.mem_cons_self
    exact ⟨this.1, h0, h1, this.2.2.2⟩
  · exact h.bd.2 x (List.mem_cons_of_mem _ q)
/-- How many bundles the interchange in block X has, how many messages the bundle at the head of block g. -/
def lenX (W : World) (X o : Nat) : Nat := match W.cell? ⟨X, o, none⟩ with
  | some (.slice _ n _) => n
  | _ => 0
/-- The first bundle once more, behind all. -/
theorem XSt.twice {B R X g C : Nat} {w W w4 : World} {frm tt : ByteArray} {num : Int} {u' : Value} {b : Bun} {mv : Value} {ms : List MsgV} {r : List BunV} {x : Obj} (h : XSt B R X w W frm tt num (.slice (some ⟨g, 0, none⟩) ((b, mv, ms) :: r).length C) ((b, mv, ms) :: r)) (hl : ((b, mv, ms) :: r).length ≤ 5)
    (hg : (W.alloc x).grownBy w4 (Value.slice (some ⟨g, 0, none⟩) ((b, mv, ms) :: r).length C).ownBlock) (hown : w4.ownsRow (X + 1) 48 3 u' (((b, mv, ms) :: r).length + 1) (((b, mv, ms) :: r).flatMap clBv ++ [.int .i64 b.kind, .int .i64 b.num, mv])) :
    (∃ z, w4.cell? ⟨X, 3, none⟩ = some z) ∧ (∀ o, w4.frozen? ⟨X, o, none⟩ = false) ∧ XSt B R X w (w4.setCell ⟨X, 3, none⟩ u') frm tt num u' ((b, mv, ms) :: (r ++ [(b, mv, ms)])) := by
  have h1 := h.own.msgs (b, mv, ms) List.mem_cons_self
  have h2 := h.bd.2 (b, mv, ms) List.mem_cons_self
  exact h.push h1.1 h1.2 hl h2 hg hown
/-- A message more in the first bundle. -/
theorem XSt.more {B R X g gg C cap : Nat} {w W w4 : World} {frm tt : ByteArray} {num : Int} {b : Bun} {mv : Value} {ms : List MsgV} {r : List BunV} {x : Obj} (h : XSt B R X w W frm tt num (.slice (some ⟨g, 0, none⟩) ((b, mv, ms) :: r).length C) ((b, mv, ms) :: r)) (hs : SepW ((b, mv, ms) :: r)) (hg0 : X + 1 ≤ g) (hl : ms.length ≤ 10)
    (hr : w4.ownsRow (X + 1) 50 2 (.slice (some ⟨gg, 0, none⟩) (ms.length + 1) cap) (ms.length + 1) (ms.flatMap clMv ++ [.int .i64 1, .slice none 0 0])) (hg : (W.alloc x).grownBy w4 mv.ownBlock) (hor : mv.ownBlock = some gg ∨ gg = W.heap.size + 1) :
    w4.cell? ⟨g, 2, none⟩ = some mv ∧ w4.frozen? ⟨g, 2, none⟩ = false ∧ w4.cell? ⟨X, 3, none⟩ = some (.slice (some ⟨g, 0, none⟩) ((b, mv, ms) :: r).length C) ∧ SepW ((⟨b.kind, b.num, b.msgs ++ [⟨1, []⟩]⟩, .slice (some ⟨gg, 0, none⟩) (ms.length + 1) cap, ms ++ [(⟨1, []⟩, .slice none 0 0, [])]) :: r) ∧
      XSt B R X w (w4.setCell ⟨g, 2, none⟩ (.slice (some ⟨gg, 0, none⟩) (ms.length + 1) cap)) frm tt num (.slice (some ⟨g, 0, none⟩) ((b, mv, ms) :: r).length C) ((⟨b.kind, b.num, b.msgs ++ [⟨1, []⟩]⟩, .slice (some ⟨gg, 0, none⟩) (ms.length + 1) cap, ms ++ [(⟨1, []⟩, .slice none 0 0, [])]) :: r) := by
  have h1 := h.wr
  have h2 := h.rx
  have h5 := h.bo
  have h3 := h.lt
  have hbA : Below W.heap.size W (W.alloc x) := (Below.refl _ _).alloc (Nat.le_refl _) _
  have hM := h.own.msgs (b, mv, ms) List.mem_cons_self
  have hold : ∀ j, j < X + 1 → w4.heap[j]? = W.heap[j]? := fun j hj => by
    rw [hg.block j (by simp; omega) (fun e => by have := (hM.1.row.lt j e.symm).1; omega), Below.heap_alloc _ _ _ (by omega)]
  have hb1 : Below (X + 1) W w4 := ⟨hg.os, hg.tape, hg.output, Nat.le_trans (by simp) hg.size, hold⟩
  have hb2 : Below (X + 1) W (w4.setCell ⟨g, 2, none⟩ (.slice (some ⟨gg, 0, none⟩) (ms.length + 1) cap)) := hb1.setCell (show X + 1 ≤ (⟨g, 2, none⟩ : Addr).block from hg0) _
  obtain ⟨hO, hS, hc, hf⟩ := (h.own.below hbA).addM0 hs hr hg (hor.imp id fun e => by simp; omega)
  have hxx := (hold X (by omega)).trans h.x
  refine ⟨hc, hf, by simp [World.cell?, hxx], hS, h.kp.of_lower hb2 (by omega), h.src.below (hb2.mono (by omega)), (hb2.block R (by omega)).trans h.r, (hb2.block X (by omega)).trans h.x, hO, ⟨h.bd.1, fun y hy => ?_⟩, h1, h2, h5, h.zs⟩
  rcases List.mem_cons.1 hy with rfl | q
  · obtain ⟨⟨b1, b2⟩, b3⟩ := h.bd.2 (b, mv, ms) List.mem_cons_self
    refine ⟨⟨by simp; omega, fun z hz => ?_⟩, b3⟩
    rcases List.mem_append.1 hz with hz | hz
    · exact b2 z hz
    · rw [List.mem_singleton.1 hz]
      exact ⟨fun e he => by simp at he, by simp, by simp, by simp⟩
  · exact h.bd.2 y (List.mem_cons_of_mem _ q)
end Go.Proofs.YtjnikogaleofaaaDoor
