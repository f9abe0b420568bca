/- Contract of the model's l07Partner: a drawn partner, its list in a row of the call's own. -/
import Derived.Test.YtbnjieppcojckaaPtkO
import Derived.Test.YtbnjieppcojckaaNumD
import Derived.Test.YtbnjieppcojckaaNewP
import Derived.Deep.RegionHeld3
import Derived.Deep.AppendLies
import Derived.Deep.Cut
import Derived.Deep.CutRange
namespace Go.Proofs.Ytbnjieppcojckaa
open Go.ChangeShapes Go.WideShapes Go.ChangeAt Go.RowKit
theorem cell_blkD {W : World} {B i : Nat} {c : Array Value} {t : TypeId} {x : Value} (h : W.heap[B]? = some (.cells c t)) (hx : c[i]? = some x) : W.cell? ⟨B, i, none⟩ = some x := by
  unfold World.cell?
  rw [h]
  exact hx
theorem set9_boxD {W : World} {X : Nat} {t : Tk} {u : Value} (h : W.heap[X]? = some (.cells #[.string ⟨#[]⟩, .int .i64 0, .int .i64 0, .slice none 0 0, .int .i64 0, .int .i64 0, .int .i64 0, .int .i64 0, .int .i64 0] 36)) : (((((((((W.setCell ⟨X, 0, none⟩ (.string t.p.name)).setCell ⟨X, 1, none⟩ (.int .i64 t.p.low)).setCell ⟨X, 2, none⟩ (.int .i64 t.p.next)).setCell ⟨X, 3, none⟩ u).setCell ⟨X, 4, none⟩ (.int .i64 t.kind)).setCell ⟨X, 5, none⟩ (.int .i64 t.seen.number)).setCell ⟨X, 6, none⟩ (.int .i64 t.seen.answer)).setCell ⟨X, 7, none⟩ (.int .i64 t.seen.code)).setCell ⟨X, 8, none⟩ (.int .i64 t.code)).heap[X]? = some (.cells #[.string t.p.name, .int .i64 t.p.low, .int .i64 t.p.next, u, .int .i64 t.kind, .int .i64 t.seen.number, .int .i64 t.seen.answer, .int .i64 t.seen.code, .int .i64 t.code] 36) := by
  simp [World.setCell, Array.getElem?_modify, h]
theorem kp9D {W : World} {b o X : Nat} {v : Value} (h : W.cell? ⟨b, o, none⟩ = some v) (hne : b ≠ X) (x0 x1 x2 x3 x4 x5 x6 x7 x8 : Value) : (((((((((W.setCell ⟨X, 0, none⟩ x0).setCell ⟨X, 1, none⟩ x1).setCell ⟨X, 2, none⟩ x2).setCell ⟨X, 3, none⟩ x3).setCell ⟨X, 4, none⟩ x4).setCell ⟨X, 5, none⟩ x5).setCell ⟨X, 6, none⟩ x6).setCell ⟨X, 7, none⟩ x7).setCell ⟨X, 8, none⟩ x8).cell? ⟨b, o, none⟩ = some v := by
  have e : ∀ (W : World) (i : Nat) (x : Value), (W.setCell ⟨X, i, none⟩ x).cell? ⟨b, o, none⟩ = W.cell? ⟨b, o, none⟩ := fun W i x => World.cell?_of_block (Below.heap_setCell W ⟨X, i, none⟩ x b hne)
  rw [e, e, e, e, e, e, e, e, e]
  exact h
theorem boxTD {W : World} {X : Nat} (h : W.heap[X]? = some (.cells #[.string ⟨#[]⟩, .int .i64 0, .int .i64 0, .slice none 0 0, .int .i64 0, .int .i64 0, .int .i64 0, .int .i64 0, .int .i64 0] 36)) : W.cell? ⟨X, 0, none⟩ = some (.string ⟨#[]⟩) ∧ W.cell? ⟨X, 1, none⟩ = some (.int .i64 0) ∧ W.cell? ⟨X, 2, none⟩ = some (.int .i64 0) ∧ W.cell? ⟨X, 3, none⟩ = some (.slice none 0 0) ∧ W.cell? ⟨X, 4, none⟩ = some (.int .i64 0) ∧ W.cell? ⟨X, 5, none⟩ = some (.int .i64 0) ∧ W.cell? ⟨X, 6, none⟩ = some (.int .i64 0) ∧ W.cell? ⟨X, 7, none⟩ = some (.int .i64 0) ∧ W.cell? ⟨X, 8, none⟩ = some (.int .i64 0) ∧ ∀ o, W.frozen? ⟨X, o, none⟩ = false := by
  refine ⟨?_, ?_, ?_, ?_, ?_, ?_, ?_, ?_, ?_, fun o => ?_⟩ <;> simp [World.cell?, World.frozen?, h]
theorem keep_grown {B : Nat} {W W' : World} (h : Keep B W W') : W.grownBy W' (some B) := ⟨h.os, h.tape, h.output, h.size, fun k hk hne => h.block k hk (fun e => hne (by rw [e]))⟩
/-- A partner in its box P, its list in a row of the call's own; the answer's box; the source. -/
structure QD (B P : Nat) (w W : World) (p : Ptn) (v : Value) : Prop where
  src : IsSrc B W
  kp : Keep B w W
  rb : W.heap[w.heap.size]? = some (.cells #[.string ⟨#[]⟩, .int .i64 0, .int .i64 0, .slice none 0 0] 30)
  box : W.heap[P]? = some (.cells #[.string p.name, .int .i64 p.low, .int .i64 p.next, v] 30)
  row : OSn w.heap.size W v p.seen
  fair : Fair v
  nm : p.name.size ≤ 100
  len : p.seen.length ≤ 100
  hB : B < w.heap.size
  hP : w.heap.size < P
theorem OSn.ne_box {n0 P : Nat} {W : World} {v : Value} {rs : List Sn} {c : Array Value} {t : TypeId} (h : OSn n0 W v rs) (hb : W.heap[P]? = some (.cells c t)) (ht : t ≠ 34) : ∀ j, v.ownBlock = some j → j ≠ P := fun j hj e => by
  subst e
  rcases h.2 with ⟨rfl, _⟩ | ⟨g, cap, cur, rfl, _, hgb, _⟩
  · simp [Value.ownBlock] at hj
  · obtain rfl : g = j := by simpa [Value.ownBlock] using hj
    rw [hgb] at hb
    cases hb
    exact ht rfl
theorem QD.keep {B P : Nat} {w W W' : World} {p : Ptn} {v : Value} (h : QD B P w W p v) (hk : Keep B W W') (hs : IsSrc B W') : QD B P w W' p v := by
  have hB := h.hB
  have hP := h.hP
  refine ⟨hs, h.kp.trans hk, (hk.block _ (Array.getElem?_eq_some_iff.1 h.rb).1 (by omega)).trans h.rb, (hk.block _ (Array.getElem?_eq_some_iff.1 h.box).1 (by omega)).trans h.box, h.row.kept (keep_grown hk) (fun j hj => by have := (h.row.lt j hj).1; omega), h.fair, h.nm, h.len, hB, hP⟩
theorem QD.below {B P : Nat} {w W W' : World} {p : Ptn} {v : Value} (h : QD B P w W p v) (hb : Below W.heap.size W W') : QD B P w W' p v := h.keep (Keep.of_below hb) (h.src.below (hb.mono (h.src.lt)))
theorem QD.cells {B P : Nat} {w W : World} {p : Ptn} {v : Value} (h : QD B P w W p v) : W.cell? ⟨P, 0, none⟩ = some (.string p.name) ∧ W.cell? ⟨P, 1, none⟩ = some (.int .i64 p.low) ∧ W.cell? ⟨P, 2, none⟩ = some (.int .i64 p.next) ∧ W.cell? ⟨P, 3, none⟩ = some v ∧ ∀ o, W.frozen? ⟨P, o, none⟩ = false := by
  refine ⟨cell_blkD h.box rfl, cell_blkD h.box rfl, cell_blkD h.box rfl, cell_blkD h.box rfl, fun o => ?_⟩
  have := h.box
  simp [World.frozen?, this]
theorem QD.rpt {B P : Nat} {w W : World} {p : Ptn} {v : Value} (h : QD B P w W p v) : RPt W v p := by
  have hl := h.len
  have hn := h.nm
  obtain ⟨b, _, hL⟩ := h.row.lsn (by omega)
  exact ⟨hL.row, by omega⟩
theorem QD.lt {B P : Nat} {w W : World} {p : Ptn} {v : Value} (h : QD B P w W p v) : P < W.heap.size := (Array.getElem?_eq_some_iff.1 h.box).1
theorem set4_at {W : World} {P : Nat} {x0 x1 x2 x3 y0 y1 y2 y3 : Value} (h : W.heap[P]? = some (.cells #[x0, x1, x2, x3] 30)) : ((((W.setCell ⟨P, 0, none⟩ y0).setCell ⟨P, 1, none⟩ y1).setCell ⟨P, 2, none⟩ y2).setCell ⟨P, 3, none⟩ y3).heap[P]? = some (.cells #[y0, y1, y2, y3] 30) := by
  simp [World.setCell, Array.getElem?_modify, h]
/-- Its box written anew: some world in which only that block is another one. -/
theorem QD.write {B P : Nat} {w W W' : World} {p q : Ptn} {v u : Value} (h : QD B P w W p v) (hk : Keep P W W') (hb : W'.heap[P]? = some (.cells #[.string q.name, .int .i64 q.low, .int .i64 q.next, u] 30)) (hrow : OSn w.heap.size W u q.seen) (hf : Fair u) (hn : q.name.size ≤ 100) (hl : q.seen.length ≤ 100) : QD B P w W' q u := by
  have hB := h.hB
  have hP := h.hP
  refine ⟨h.src.below (hk.below (by omega) (by have := h.src.lt; omega)), ⟨hk.os.trans h.kp.os, hk.tape.trans h.kp.tape, hk.output.trans h.kp.output, Nat.le_trans h.kp.size hk.size, fun k hk' hne => (hk.block k (Nat.lt_of_lt_of_le hk' h.kp.size) (by omega)).trans (h.kp.block k hk' hne)⟩, (hk.block _ (Array.getElem?_eq_some_iff.1 h.rb).1 (by omega)).trans h.rb, hb, hrow.kept (keep_grown hk) (hrow.ne_box h.box (by decide)), hf, hn, hl, hB, hP⟩
/-- What was taken, in its box X. -/
structure QT (B P X : Nat) (w W : World) (p : Ptn) (v : Value) (t : Tk) (u : Value) : Prop where
  q : QD B P w W p v
  xb : W.heap[X]? = some (.cells #[.string t.p.name, .int .i64 t.p.low, .int .i64 t.p.next, u, .int .i64 t.kind, .int .i64 t.seen.number, .int .i64 t.seen.answer, .int .i64 t.seen.code, .int .i64 t.code] 36)
  row : OSn w.heap.size W u t.p.seen
  fair : Fair u
theorem QT.mkA {B P b : Nat} {w W W' : World} {p : Ptn} {v u : Value} {t : Tk} (h : QD B P w W p v) (hb : Below W.heap.size W W') (hu : OSn b W' u t.p.seen) (hl : W.heap.size ≤ b) (hf : Fair u) : QT B P W'.heap.size w (W'.alloc (.cells #[.string t.p.name, .int .i64 t.p.low, .int .i64 t.p.next, u, .int .i64 t.kind, .int .i64 t.seen.number, .int .i64 t.seen.answer, .int .i64 t.seen.code, .int .i64 t.code] 36)) p v t u := by
  have ha : Below W'.heap.size W' (W'.alloc (.cells #[.string t.p.name, .int .i64 t.p.low, .int .i64 t.p.next, u, .int .i64 t.kind, .int .i64 t.seen.number, .int .i64 t.seen.answer, .int .i64 t.seen.code, .int .i64 t.code] 36)) := (Below.refl _ _).alloc (Nat.le_refl _) _
  have hs := h.kp.size
  refine ⟨(h.below hb).below ha, World.alloc_heap_new _ _, ?_, hf⟩
  have := hu.below ha
  exact ⟨this.1, this.2.imp id fun ⟨g, cap, cur, q1, q2, q3⟩ => ⟨g, cap, cur, q1, by omega, q3⟩⟩
theorem QT.mkB {B P X b : Nat} {w W W' : World} {p : Ptn} {v u : Value} {t : Tk} (h : QD B P w W p v) (hb : Below W.heap.size W W') (hx : W.heap[X]? = some (.cells #[.string ⟨#[]⟩, .int .i64 0, .int .i64 0, .slice none 0 0, .int .i64 0, .int .i64 0, .int .i64 0, .int .i64 0, .int .i64 0] 36)) (hu : OSn b W' u t.p.seen) (hl : W.heap.size ≤ b) (hf : Fair u) (hXw : w.heap.size < X) : QT B P X w (((((((((W'.setCell ⟨X, 0, none⟩ (.string t.p.name)).setCell ⟨X, 1, none⟩ (.int .i64 t.p.low)).setCell ⟨X, 2, none⟩ (.int .i64 t.p.next)).setCell ⟨X, 3, none⟩ u).setCell ⟨X, 4, none⟩ (.int .i64 t.kind)).setCell ⟨X, 5, none⟩ (.int .i64 t.seen.number)).setCell ⟨X, 6, none⟩ (.int .i64 t.seen.answer)).setCell ⟨X, 7, none⟩ (.int .i64 t.seen.code)).setCell ⟨X, 8, none⟩ (.int .i64 t.code)) p v t u := by
  have hx' := (hb.block _ (Array.getElem?_eq_some_iff.1 hx).1).trans hx
  have hq := h.below hb
  have hB := h.hB
  have hs := h.kp.size
  have hXP : P ≠ X := fun e => by
    have := hq.box
    rw [e, hx'] at this
    exact absurd (Obj.cells.inj (Option.some.inj this)).2.1 (by decide)
  have hk : Keep X W' (((((((((W'.setCell ⟨X, 0, none⟩ (.string t.p.name)).setCell ⟨X, 1, none⟩ (.int .i64 t.p.low)).setCell ⟨X, 2, none⟩ (.int .i64 t.p.next)).setCell ⟨X, 3, none⟩ u).setCell ⟨X, 4, none⟩ (.int .i64 t.kind)).setCell ⟨X, 5, none⟩ (.int .i64 t.seen.number)).setCell ⟨X, 6, none⟩ (.int .i64 t.seen.answer)).setCell ⟨X, 7, none⟩ (.int .i64 t.seen.code)).setCell ⟨X, 8, none⟩ (.int .i64 t.code)) := (((((((((Keep.refl _ _).setCell _ _).setCell _ _).setCell _ _).setCell _ _).setCell _ _).setCell _ _).setCell _ _).setCell _ _).setCell _ _
  have hsrc := hq.src.lt
  refine ⟨⟨hq.src.below (hk.below (by omega) (by omega)), ⟨hk.os.trans hq.kp.os, hk.tape.trans hq.kp.tape, hk.output.trans hq.kp.output, Nat.le_trans hq.kp.size hk.size, fun k hk' hne => (hk.block k (Nat.lt_of_lt_of_le hk' hq.kp.size) (by omega)).trans (hq.kp.block k hk' hne)⟩, (hk.block _ (Array.getElem?_eq_some_iff.1 hq.rb).1 (by omega)).trans hq.rb, (hk.block _ hq.lt hXP).trans hq.box, hq.row.kept (keep_grown hk) (hq.row.ne_box hx' (by decide)), hq.fair, hq.nm, hq.len, hB, hq.hP⟩, set9_boxD hx', ?_, hf⟩
  have := hu.kept (keep_grown hk) (hu.ne_box hx' (by decide))
  exact ⟨this.1, this.2.imp id fun ⟨g, cap, cur, q1, q2, q3⟩ => ⟨g, cap, cur, q1, by omega, q3⟩⟩
theorem takeT_ok {p : Ptn} {k c : Int} (h : (takeT p k c).code = 0) (hn : p.name.size ≤ 100) (hl : p.seen.length ≤ 99) : (takeT p k c).p.name.size ≤ 100 ∧ (takeT p k c).p.seen.length ≤ 99 := by
  unfold takeT at h ⊢
  split
  · rename_i h1
    rw [if_pos h1] at h
    split
    · rename_i h2
      rw [if_pos h2] at h
      split
      · rename_i h3
        rw [if_pos h3] at h
        exact absurd h (by decide)
      · rename_i h3
        simp only [Bool.and_eq_true] at h1
        have hk := ctlB_iff.1 h1.2.1
        have := newPt_facts (c := c) h1.1 hk h2
        exact ⟨hn, Nat.le_trans this.2.1 (by omega)⟩
    · exact ⟨hn, hl⟩
  · rename_i h1
    rw [if_neg h1] at h
    exact absurd h (by decide)
theorem three_cells (w : World) (a b c : ByteArray) (g : Nat) (hg : g = w.heap.size) : ∀ (i : Nat) (t : ByteArray), [a, b, c][i]? = some t → (w.alloc (.cells #[.string a, .string b, .string c] 9)).cell? ⟨g, i, none⟩ = some (.string t) := by
  subst hg
  intro i t ht
  have h1 := World.alloc_heap_new w (.cells #[.string a, .string b, .string c] 9)
  have hi := (List.getElem?_eq_some_iff.1 ht).1
  simp at hi
  have hc : i = 0 ∨ i = 1 ∨ i = 2 := by omega
  rcases hc with rfl | rfl | rfl <;> simp at ht <;> subst ht <;> exact cell_blkD h1 rfl
theorem undrewD {a b : World} (h : Below a.drew.heap.size a.drew b) : Below a.heap.size a b := (Below.refl _ _).drew.trans h
theorem set1_0 {W : World} {P : Nat} {x0 x1 x2 x3 y : Value} (h : W.heap[P]? = some (.cells #[x0, x1, x2, x3] 30)) : (W.setCell ⟨P, 0, none⟩ y).heap[P]? = some (.cells #[y, x1, x2, x3] 30) := by simp [World.setCell, Array.getElem?_modify, h]
theorem set1_1 {W : World} {P : Nat} {x0 x1 x2 x3 y : Value} (h : W.heap[P]? = some (.cells #[x0, x1, x2, x3] 30)) : (W.setCell ⟨P, 1, none⟩ y).heap[P]? = some (.cells #[x0, y, x2, x3] 30) := by simp [World.setCell, Array.getElem?_modify, h]
theorem set1_2 {W : World} {P : Nat} {x0 x1 x2 x3 y : Value} (h : W.heap[P]? = some (.cells #[x0, x1, x2, x3] 30)) : (W.setCell ⟨P, 2, none⟩ y).heap[P]? = some (.cells #[x0, x1, y, x3] 30) := by simp [World.setCell, Array.getElem?_modify, h]
theorem set1_3 {W : World} {P : Nat} {x0 x1 x2 x3 y : Value} (h : W.heap[P]? = some (.cells #[x0, x1, x2, x3] 30)) : (W.setCell ⟨P, 3, none⟩ y).heap[P]? = some (.cells #[x0, x1, x2, y] 30) := by simp [World.setCell, Array.getElem?_modify, h]
/-- One more at the list's end. -/
theorem QD.app {B P : Nat} {w W W' : World} {p : Ptn} {v v' : Value} {o : Obj} {s : Sn} (h : QD B P w W p v) (hl : p.seen.length ≤ 99) (hg : (W.alloc o).grownBy W' v.ownBlock) (hown : W'.ownsRow w.heap.size 34 3 v' (p.seen.length + 1) (clSns p.seen ++ clSn s)) (hf : Fair v') : QD B P w (W'.setCell ⟨P, 3, none⟩ v') ⟨p.name, p.low, p.next, p.seen ++ [s]⟩ v' := by
  have hB := h.hB
  have hP := h.hP
  have hsrc := h.src.lt
  have hz := h.kp.size
  have hne := h.row.ne_box h.box (by decide)
  have hne2 := h.row.ne_box h.rb (by decide)
  have hlo := fun j hj => (h.row.lt j hj).1
  have ha : Below W.heap.size W (W.alloc o) := (Below.refl _ _).alloc (Nat.le_refl _) _
  have blk : ∀ k c, W.heap[k]? = some c → (∀ j, v.ownBlock = some j → j ≠ k) → W'.heap[k]? = some c := fun k c hk hj => by
    have hlt := (Array.getElem?_eq_some_iff.1 hk).1
    refine (hg.block k (by simp; omega) (fun e => hj k e.symm rfl)).trans ((ha.block k hlt).trans hk)
  have hbx := blk P _ h.box hne
  have hk : Keep P W' (W'.setCell ⟨P, 3, none⟩ v') := (Keep.refl _ _).setCell _ _
  have hgs := hg.size
  simp only [World.size_alloc] at hgs
  have hB1 : Below (B + 1) W W' := ⟨hg.os, hg.tape, hg.output, by omega, fun k hk' => (hg.block k (by simp; omega) (fun e => by have := hlo k e.symm; omega)).trans (ha.block k (by omega))⟩
  have hr : OSn w.heap.size W' v' (p.seen ++ [s]) := by
    unfold OSn
    rw [clSns_app, show (p.seen ++ [s]).length = p.seen.length + 1 by simp]
    exact hown
  refine ⟨(h.src.below hB1).below (hk.below (by omega) (by omega)), ⟨hg.os.trans h.kp.os, hg.tape.trans h.kp.tape, hg.output.trans h.kp.output, ?_, fun k hk' hneB => ?_⟩, ?_, set1_3 hbx, hr.set (hr.ne_box hbx (by decide)) _ _, hf, h.nm, by simp; omega, hB, hP⟩
  · have := hk.size
    omega
  · refine (hk.block k (by omega) (by omega)).trans ((hg.block k (by simp; omega) (fun e => by have := hlo k e.symm; omega)).trans ((ha.block k (by omega)).trans (h.kp.block k hk' hneB)))
  · exact (hk.block _ (by omega) (by omega)).trans (blk _ _ h.rb hne2)
end Go.Proofs.Ytbnjieppcojckaa
