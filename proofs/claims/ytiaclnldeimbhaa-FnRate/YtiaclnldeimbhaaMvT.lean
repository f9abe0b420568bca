/- The boxes of the model's move. -/
import Derived.Test.YtiaclnldeimbhaaCpS
import Derived.Test.YtiaclnldeimbhaaMvP
import Derived.Test.YtiaclnldeimbhaaBhS
namespace Go.Proofs.Ytiaclnldeimbhaa
open Go.ChangeShapes Go.WideShapes Go.ChangeAt Go.RowKit
theorem own_val {W : World} {base : Nat} {e : TypeId} {size : Nat} {v : Value} {k : Nat} {xs : List Value} (h : W.ownsRow base e size v k xs) : ∃ A C, v = .slice A k C := by
  rcases h.2 with ⟨e1, h0⟩ | ⟨g, cap, cur, e1, _⟩
  · exact ⟨none, 0, by rw [e1, h0]⟩
  · exact ⟨_, _, e1⟩
theorem own_ne {W : World} {base b : Nat} {e e' : TypeId} {size : Nat} {v : Value} {k : Nat} {xs : List Value} {c : Array Value} (h : W.ownsRow base e size v k xs) (hb : W.heap[b]? = some (.cells c e')) (hne : e ≠ e') : v.ownBlock = none ∨ v.ownBlock ≠ some b := by
  rcases h.2 with ⟨e1, _⟩ | ⟨g, cap, cur, e1, _, h2, _⟩
  · exact .inl (by rw [e1]; rfl)
  · refine .inr ?_
    rw [e1]
    intro e2
    simp only [Value.ownBlock, Option.some.injEq] at e2
    rw [e2, hb] at h2
    simp only [Option.some.injEq, Obj.cells.injEq] at h2
    exact hne h2.2.1.symm
theorem own_ne2 {W : World} {base base' : Nat} {e e' : TypeId} {size size' : Nat} {v v' : Value} {k k' : Nat} {xs xs' : List Value} (h : W.ownsRow base e size v k xs) (h' : W.ownsRow base' e' size' v' k' xs') (hne : e ≠ e') : v.ownBlock = none ∨ v.ownBlock ≠ v'.ownBlock := by
  rcases h'.2 with ⟨e1, _⟩ | ⟨g, cap, cur, e1, _, h2, _⟩
  · rcases h.2 with ⟨e3, _⟩ | ⟨g, cap, cur, e3, _⟩
    · exact .inl (by rw [e3]; rfl)
    · exact .inr (by rw [e1, e3]; simp [Value.ownBlock])
  · rcases own_ne h h2 hne with h3 | h3
    · exact .inl h3
    · exact .inr (by rw [e1]; exact h3)
theorem own_set {W : World} {base b i : Nat} {e e' : TypeId} {size : Nat} {v x : Value} {k : Nat} {xs : List Value} {c : Array Value} (h : W.ownsRow base e size v k xs) (hb : W.heap[b]? = some (.cells c e')) (hne : e ≠ e') : (W.setCell ⟨b, i, none⟩ x).ownsRow base e size v k xs :=
  h.kept (row := some b) ⟨rfl, rfl, rfl, by simp, fun j _ hn => setNe x (fun e => hn (by rw [e]))⟩ (own_ne h hb hne)
theorem own_below {W W' : World} {base : Nat} {e : TypeId} {size : Nat} {v : Value} {k : Nat} {xs : List Value} (h : W.ownsRow base e size v k xs) (hb : Below W.heap.size W W') : W'.ownsRow base e size v k xs := by
  refine h.kept (row := none) ⟨hb.os, hb.tape, hb.output, hb.size, fun j hj _ => hb.block j hj⟩ ?_
  rcases h.2 with ⟨e, _⟩ | ⟨g, cap, cur, e, _⟩
  · exact .inl (by rw [e]; rfl)
  · exact .inr (by rw [e]; simp [Value.ownBlock])
/-- The boxes of the model's move, and a book in rows of its own. -/
structure QL (w W : World) (A0 : Obj) (B : Nat) (lv ul : Value) (ts : List Stk) (ls : List OLn) : Prop where
  bel : Below w.heap.size w W
  arg : W.heap[w.heap.size]? = some A0
  res : W.heap[w.heap.size + 1]? = some (.cells #[.slice none 0 0, .slice none 0 0] 26)
  box : W.heap[B]? = some (.cells #[lv, ul] 26)
  own : W.ownsRow (w.heap.size + 2) 49 2 lv ts.length (clSts ts)
  ln : W.ownsRow (w.heap.size + 2) 32 8 ul ls.length (clOls ls)
  hB : w.heap.size + 1 < B
theorem QL.below {w W W' : World} {A0 : Obj} {B : Nat} {lv ul : Value} {ts : List Stk} {ls : List OLn} (h : QL w W A0 B lv ul ts ls) (hb : Below W.heap.size W W') : QL w W' A0 B lv ul ts ls := by
  have ha := (Array.getElem?_eq_some_iff.1 h.arg).1
  have hr := (Array.getElem?_eq_some_iff.1 h.res).1
  have hx := (Array.getElem?_eq_some_iff.1 h.box).1
  exact ⟨h.bel.trans (hb.mono h.bel.size), (hb.block _ ha).trans h.arg, (hb.block _ hr).trans h.res, (hb.block _ hx).trans h.box, own_below h.own hb, own_below h.ln hb, h.hB⟩
theorem ql_box {w W w' : World} {A0 : Obj} {B : Nat} {lv ul : Value} {ts : List Stk} {ls : List OLn} (h : QL w W A0 B lv ul ts ls) (hg : W.grownBy w' lv.ownBlock) : w'.heap[B]? = some (.cells #[lv, ul] 26) := by
  have hx := (Array.getElem?_eq_some_iff.1 h.box).1
  refine (hg.block B hx fun e => ?_).trans h.box
  rcases own_ne h.own h.box (by decide) with h1 | h1
  · rw [h1] at e; cases e
  · exact h1 e.symm
theorem QL.next {w W w' : World} {A0 : Obj} {B : Nat} {lv ul v' : Value} {ts ts' : List Stk} {ls : List OLn} (h : QL w W A0 B lv ul ts ls) (hg : W.grownBy w' lv.ownBlock) (bx : w'.heap[B]? = some (.cells #[lv, ul] 26)) (ho : w'.ownsRow (w.heap.size + 2) 49 2 v' ts'.length (clSts ts')) : QL w (w'.setCell ⟨B, 0, none⟩ v') A0 B v' ul ts' ls := by
  have ha := (Array.getElem?_eq_some_iff.1 h.arg).1
  have hr := (Array.getElem?_eq_some_iff.1 h.res).1
  have hB := h.hB
  have hne : ∀ j, j < w.heap.size + 2 → some j ≠ lv.ownBlock := fun j hj e => by
    have := (h.own.lt j e.symm).1
    omega
  refine ⟨(h.bel.trans ⟨hg.os, hg.tape, hg.output, hg.size, fun j hj => hg.block j (by have := h.bel.size; omega) (hne j (by omega))⟩).setCell (show w.heap.size ≤ B by omega) _, ?_, ?_, set2a _ bx, own_set ho bx (by decide), own_set (h.ln.kept hg (own_ne2 h.ln h.own (by decide))) bx (by decide), hB⟩
  · rw [setNe _ (by omega)]
    exact (hg.block _ ha (hne _ (by omega))).trans h.arg
  · rw [setNe _ (by omega)]
    exact (hg.block _ hr (hne _ (by omega))).trans h.res
theorem QL.nextN {w W w' : World} {A0 : Obj} {B n : Nat} {lv ul v' : Value} {ts ts' : List Stk} {ls : List OLn} (h : QL w W A0 B lv ul ts ls) (hg : W.grownBy w' lv.ownBlock) (bx : w'.heap[B]? = some (.cells #[lv, ul] 26)) (ho : w'.ownsRow (w.heap.size + 2) 49 2 v' n (clSts ts')) (hn : ts'.length = n) : QL w (w'.setCell ⟨B, 0, none⟩ v') A0 B v' ul ts' ls := by
  subst hn
  exact h.next hg bx ho
theorem QL.done {w W : World} {A0 : Obj} {B : Nat} {lv ul : Value} {ts : List Stk} {ls : List OLn} (h : QL w W A0 B lv ul ts ls) : Below w.heap.size w ((W.setCell ⟨w.heap.size + 1, 0, none⟩ lv).setCell ⟨w.heap.size + 1, 1, none⟩ ul) ∧ ((W.setCell ⟨w.heap.size + 1, 0, none⟩ lv).setCell ⟨w.heap.size + 1, 1, none⟩ ul).ownsRow (w.heap.size + 2) 49 2 lv ts.length (clSts ts) ∧ ((W.setCell ⟨w.heap.size + 1, 0, none⟩ lv).setCell ⟨w.heap.size + 1, 1, none⟩ ul).ownsRow (w.heap.size + 2) 32 8 ul ls.length (clOls ls) :=
  ⟨(h.bel.setCell (show w.heap.size ≤ w.heap.size + 1 by omega) _).setCell (show w.heap.size ≤ w.heap.size + 1 by omega) _, cp_set2 h.own (by omega), cp_set2 h.ln (by omega)⟩
theorem mv_same {p : Bk} {t : ByteArray} {z : Int} (h : ¬ MvOk p t z) : (movT p t z).stocks = p.stocks ∧ (false = true ↔ MvOk p t z) := ⟨by rw [movT_no h], by simp [h]⟩
theorem stepF (s : Stk) (dn : Bool) (y : Stk) (r : List Stk) : outF s dn (y :: r) = (if (!dn && !befS y s) = true then [s] else []) ++ ((if nmS s.item y = true then [] else [y]) ++ outF s (dn || !befS y s) r) := by
  cases dn
  · simp only [outF]
    cases e : befS y s with
    | true => simp [befS_nm e]
    | false => cases e2 : nmS s.item y <;> simp
  · simp only [outF]
    cases e2 : nmS s.item y <;> simp
/-- What the model's move tells. -/
def MvOut (p : Bk) (t : ByteArray) (z : Int) (w : World) (e : Ending) (w' : World) : Prop := ∃ us' ul' ok, e = .returned (.tuple #[.agg #[us', ul'], .bool ok]) ∧ w'.ownsRow (w.heap.size + 2) 49 2 us' (movT p t z).stocks.length (clSts (movT p t z).stocks) ∧ w'.ownsRow (w.heap.size + 2) 32 8 ul' p.lines.length (clOls p.lines) ∧ Below w.heap.size w w' ∧ (ok = true ↔ MvOk p t z)
theorem MvOut.mk {p : Bk} {t : ByteArray} {z : Int} {w w' : World} {e : Ending} {us' ul' : Value} {ok : Bool} (h1 : e = .returned (.tuple #[.agg #[us', ul'], .bool ok])) (h2 : w'.ownsRow (w.heap.size + 2) 49 2 us' (movT p t z).stocks.length (clSts (movT p t z).stocks)) (h3 : w'.ownsRow (w.heap.size + 2) 32 8 ul' p.lines.length (clOls p.lines)) (h4 : Below w.heap.size w w') (h5 : ok = true ↔ MvOk p t z) : MvOut p t z w e w' := ⟨us', ul', ok, h1, h2, h3, h4, h5⟩
theorem movT_bounds {p : Bk} {t : ByteArray} {z : Int} (h : BdBk 1048576 p) (ht : t.size ≤ 1048576) : (movT p t z).stocks.length ≤ 9223372036854775807 ∧ (∀ (i : Nat) (g : Stk), (movT p t z).stocks[i]? = some g → g.item.size ≤ 9223372036854775807) ∧ (movT p t z).lines = p.lines := by
  have hl := h.1.len
  by_cases g : MvOk p t z
  · rw [movT_yes g]
    refine ⟨?_, fun i x hi => ?_, rfl⟩
    · show (mvL p t z).length ≤ _
      unfold mvL
      rw [insS_len]
      have := List.length_filter_le (fun x => !nmS t x) p.stocks
      omega
    · rcases insS_mem x (List.mem_of_getElem? hi) with rfl | hx
      · show t.size ≤ _
        omega
      · obtain ⟨j, hj⟩ := List.getElem?_of_mem (List.mem_filter.1 hx).1
        have := h.1.2 j x hj
        omega
  · rw [movT_no g]
    exact ⟨by omega, fun i x hi => by have := h.1.2 i x hi; omega, rfl⟩
theorem fnd_some {p : Bk} {t : ByteArray} {ix : Int} (h : (ix < 0 ∧ findS t p.stocks = none) ∨ (0 ≤ ix ∧ (findS t p.stocks).isSome = true)) (h1 : ¬ ix < 0) : (findS t p.stocks).isSome = true := by
  rcases h with h4 | h4
  · omega
  · exact h4.2
theorem no_room {p : Bk} {t : ByteArray} {z ix : Int} (h : (ix < 0 ∧ findS t p.stocks = none) ∨ (0 ≤ ix ∧ (findS t p.stocks).isSome = true)) (h1 : ix < 0) (h2 : 100 ≤ p.stocks.length) (g : MvOk p t z) : False := by
  rcases g.room with h3 | h3
  · rcases h with h4 | h4
    · rw [h4.2] at h3
      cases h3
    · omega
  · omega
theorem ownsRow_dn {W : World} {base base' : Nat} {e : TypeId} {size : Nat} {v : Value} {k : Nat} {xs : List Value} (h : W.ownsRow base e size v k xs) (hb : base' ≤ base) : W.ownsRow base' e size v k xs := by
  obtain ⟨h1, h2⟩ := h
  refine ⟨h1, ?_⟩
  rcases h2 with h2 | ⟨g, cap, cur, e1, h3, h4⟩
  · exact .inl h2
  · exact .inr ⟨g, cap, cur, e1, by omega, h4⟩
end Go.Proofs.Ytiaclnldeimbhaa
