/- Texts of ours put together: Flat0, AppTx, PiN. -/
import Derived.Test.YtcdebinldmblkaaGreatDoorG00
import Derived.Deep.OwnRows
import Derived.Deep.RegionHeld3
import Derived.Laws.AppendOwn
import Derived.Maps.AppendAt
import Derived.Test.YtcdebinldmblkaaGreatDoorG19
import Derived.Test.YtcdebinldmblkaaGreatDoorG20
namespace Go.Proofs.YtcdebinldmblkaaGreatDoor
open Go.ChangeShapes Go.WideShapes Go.ChangeAt Go.RowKit
theorem fl_three (w : World) (o0 o1 o2 : Obj) : (((w.alloc o0).alloc o1).alloc o2).heap[w.heap.size]? = some o0 ∧ (((w.alloc o0).alloc o1).alloc o2).heap[w.heap.size + 1]? = some o1 ∧ (((w.alloc o0).alloc o1).alloc o2).heap[w.heap.size + 1 + 1]? = some o2 := by
  have e : (((w.alloc o0).alloc o1).alloc o2).heap = ((w.heap.push o0).push o1).push o2 := rfl
  rw [e]
  simp only [Array.getElem?_push, Array.size_push]
  refine ⟨?_, ?_, ?_⟩
  · rw [if_neg (by omega), if_neg (by omega), if_pos trivial]
  · rw [if_neg (by omega), if_pos trivial]
  · rw [if_pos trivial]
theorem fl_row (w : World) (c : Array Value) (t n : Nat) (hn : c.size = n) : ∃ f, (w.alloc (.cells c t)).rowIs w.heap.size t n f := by
  subst hn
  exact ⟨fun i => c[i]?.getD undef, World.rowIs_alloc w c t _ (fun i hi => by simp [hi])⟩
theorem fl_addr (b o i : Nat) : (⟨b, o, none⟩ : Addr).add i = ⟨b, o + i, none⟩ := by unfold Addr.add; split <;> simp_all
end Go.Proofs.YtcdebinldmblkaaGreatDoor
namespace Go.Proofs.YtcdebinldmblkaaGreatDoor
open Go.ChangeShapes Go.WideShapes Go.ChangeAt Go.RowKit
theorem infoTx : (Tryz.prog.info? 9).map (fun i => (i.zero, i.size, i.bytes)) = some (some (.string ⟨#[]⟩), 1, 16) := by kernel_rfl
theorem own0Tx (w : World) {B : Nat} (hB : B ≤ w.heap.size) : (w.alloc (.cells #[] 9)).ownsRow B 9 1 (.slice (some ⟨w.heap.size, 0, none⟩) 0 0) 0 [] :=
  ⟨rfl, .inr ⟨w.heap.size, 0, #[], rfl, hB, World.alloc_heap_new _ _, Nat.le_refl _, Nat.zero_le _, rfl, rfl⟩⟩
/-- An append of one text, at the list of a plain region's operations. -/
theorem wpList_appTx {ops : Array Oper} {rest : List Oper} {o : Oper} {a : Act} {Q : Exit → Act → World → Prop} {W : World} {base c C : Nat} {lv : Value} {ss : List ByteArray} {t : ByteArray} (hgd : o.guard = none) (s x : Operand)
    (ho : o.op = .call { callee := .builtin .append, args := #[s, x], argTypes := #[22, 22] })
    (hs' : a.eval s = lv) (hx : a.eval x = .slice (some ⟨c, 0, none⟩) 1 C) (h : W.ownsRow base 9 1 lv ss.length (ss.map Value.string)) (hg : W.cell? ⟨c, 0, none⟩ = some (.string t)) (hl : ss.length + 1 ≤ 2000000) (hbase : base ≤ W.heap.size)
    (k : ∀ v' w', w'.ownsRow base 9 1 v' (ss.length + 1) ((ss ++ [t]).map Value.string) → W.grownBy w' lv.ownBlock → (∃ A C, v' = .slice A (ss.length + 1) C) → wpList Tryz.prog ops Q rest (a.put o.dst v') w') : wpList Tryz.prog ops Q (o :: rest) a W := by
  obtain ⟨i0, hi, hz0, hz1, hz2⟩ := info_parts infoTx
  refine wpList_append_own W hgd s x 22 ho base 9 i0 (.string ⟨#[]⟩) 1 16 Tryz.underlying22 hi hz0 hz1 hz2 rfl (by decide) lv ss.length (ss.map Value.string) hs' h ⟨c, 0, none⟩ 1 C [.string t] hx rfl (fun j u hu => ?_) (fun u hu => ?_) (by unfold maxLen; omega) (by omega) hbase ?_
  · have hj := (List.getElem?_eq_some_iff.1 hu).1
    have hj1 : j < 1 := hj
    obtain rfl : j = 0 := by omega
    simp only [List.getElem?_cons_zero, Option.some.injEq] at hu
    subst hu
    rw [fl_addr]
    exact hg
  · rw [List.mem_singleton.1 hu]
    rfl
  · intro v' w' hown hgrow hnil
    have hown' : w'.ownsRow base 9 1 v' (ss.length + 1) ((ss ++ [t]).map Value.string) := by
      rw [List.map_append]
      exact hown
    refine k v' w' hown' hgrow ?_
    rcases hown'.2 with ⟨rfl, h0⟩ | ⟨b, cap, cur, rfl, _⟩
    · omega
    · exact ⟨_, _, rfl⟩
theorem appTx_below {w W w' : World} {base : Nat} {lv : Value} {n : Nat} {xs : List Value} (hb : Below base w W) (h : W.ownsRow base 9 1 lv n xs) (hg : W.grownBy w' lv.ownBlock) (hB : base ≤ W.heap.size) : Below base w w' :=
  hb.trans ⟨hg.os, hg.tape, hg.output, hg.size, fun q hq => hg.block q (by omega) (fun e => by have := (h.lt q e.symm).1; omega)⟩
theorem ownTx_down {W : World} {base base' : Nat} {e : TypeId} {size : Nat} {v : Value} {k : Nat} {xs : List Value} (h : W.ownsRow base e size v k xs) (hb : base' ≤ base) : W.ownsRow base' e size v k xs := by
  obtain ⟨h1, h2⟩ := h
  refine ⟨h1, ?_⟩
  rcases h2 with h2 | ⟨g, cap, cur, e1, h3, h4⟩
  · exact .inl h2
  · exact .inr ⟨g, cap, cur, e1, by omega, h4⟩
theorem ownTx_below {W W' : World} {base : Nat} {v : Value} {k : Nat} {xs : List Value} (h : W.ownsRow base 9 1 v k xs) (hb : Below W.heap.size W W') : W'.ownsRow base 9 1 v k xs := by
  refine h.kept (row := none) ⟨hb.os, hb.tape, hb.output, hb.size, fun j hj _ => hb.block j hj⟩ ?_
  rcases h.2 with ⟨e, _⟩ | ⟨g, cap, cur, e, _⟩
  · exact .inl (by rw [e]; rfl)
  · exact .inr (by rw [e]; simp [Value.ownBlock])
end Go.Proofs.YtcdebinldmblkaaGreatDoor
namespace Go.Proofs.YtcdebinldmblkaaGreatDoor
open Go.ChangeShapes Go.WideShapes Go.ChangeAt Go.RowKit
theorem setNe {W : World} {b c i : Nat} (y : Value) (h : b ≠ c) : (W.setCell ⟨c, i, none⟩ y).heap[b]? = W.heap[b]? := by
  simp [World.setCell, Array.getElem?_modify]
  intro e
  omega
theorem own_ne {W : World} {base b : Nat} {e e' : TypeId} {size : Nat} {v : Value} {k : Nat} {xs : List Value} {c : Array Value} (h : W.ownsRow base e size v k xs) (hb : W.heap[b]? = some (.cells c e')) (hne : e ≠ e') : v.ownBlock = none ∨ v.ownBlock ≠ some b := by
  rcases h.2 with ⟨e1, _⟩ | ⟨g, cap, cur, e1, _, h2, _⟩
  · exact .inl (by rw [e1]; rfl)
  · refine .inr ?_
    rw [e1]
    intro e2
    simp only [Value.ownBlock, Option.some.injEq] at e2
    rw [e2, hb] at h2
    simp only [Option.some.injEq, Obj.cells.injEq] at h2
    exact hne h2.2.1.symm
theorem own_ne2 {W : World} {base base' : Nat} {e e' : TypeId} {size size' : Nat} {v v' : Value} {k k' : Nat} {xs xs' : List Value} (h : W.ownsRow base e size v k xs) (h' : W.ownsRow base' e' size' v' k' xs') (hne : e ≠ e') : v.ownBlock = none ∨ v.ownBlock ≠ v'.ownBlock := by
  rcases h'.2 with ⟨e1, _⟩ | ⟨g, cap, cur, e1, _, h2, _⟩
  · rcases h.2 with ⟨e3, _⟩ | ⟨g, cap, cur, e3, _⟩
    · exact .inl (by rw [e3]; rfl)
    · exact .inr (by rw [e1, e3]; simp [Value.ownBlock])
  · rcases own_ne h h2 hne with h3 | h3
    · exact .inl h3
    · exact .inr (by rw [e1]; exact h3)
theorem own_set {W : World} {base b i : Nat} {e e' : TypeId} {size : Nat} {v x : Value} {k : Nat} {xs : List Value} {c : Array Value} (h : W.ownsRow base e size v k xs) (hb : W.heap[b]? = some (.cells c e')) (hne : e ≠ e') : (W.setCell ⟨b, i, none⟩ x).ownsRow base e size v k xs :=
  h.kept (row := some b) ⟨rfl, rfl, rfl, by simp, fun j _ hn => setNe x (fun e => hn (by rw [e]))⟩ (own_ne h hb hne)
theorem own_below {W W' : World} {base : Nat} {e : TypeId} {size : Nat} {v : Value} {k : Nat} {xs : List Value} (h : W.ownsRow base e size v k xs) (hb : Below W.heap.size W W') : W'.ownsRow base e size v k xs := by
  refine h.kept (row := none) ⟨hb.os, hb.tape, hb.output, hb.size, fun j hj _ => hb.block j hj⟩ ?_
  rcases h.2 with ⟨e, _⟩ | ⟨g, cap, cur, e, _⟩
  · exact .inl (by rw [e]; rfl)
  · exact .inr (by rw [e]; simp [Value.ownBlock])
/-- A line's cells, one behind the other. -/
def clL (l : Ln) : List Value := [.int .i64 l.no, .string l.item, .int .i64 l.qty, .int .i64 l.money, .string l.note]
def clLs (ls : List Ln) : List Value := ls.flatMap clL
theorem clLs_len (ls : List Ln) : (clLs ls).length = ls.length * 5 := by
  induction ls with
  | nil => rfl
  | cons g r ih =>
    have : clLs (g :: r) = clL g ++ clLs r := rfl
    rw [this, List.length_append, ih, List.length_cons]
    have : (clL g).length = 5 := rfl
    omega
theorem clLs_app (ls : List Ln) (g : Ln) : clLs (ls ++ [g]) = clLs ls ++ clL g := by simp [clLs]
theorem clLs_at : ∀ {ls : List Ln} {i : Nat} {l : Ln}, ls[i]? = some l → (clLs ls)[i * 5]? = some (.int .i64 l.no) ∧ (clLs ls)[i * 5 + 1]? = some (.string l.item) ∧ (clLs ls)[i * 5 + 2]? = some (.int .i64 l.qty) ∧ (clLs ls)[i * 5 + 3]? = some (.int .i64 l.money) ∧ (clLs ls)[i * 5 + 4]? = some (.string l.note)
  | [], i, g, h => by simp at h
  | x :: r, 0, g, h => by
    simp only [List.getElem?_cons_zero, Option.some.injEq] at h
    subst h
    exact ⟨rfl, rfl, rfl, rfl, rfl⟩
  | x :: r, i + 1, g, h => by
    rw [List.getElem?_cons_succ] at h
    obtain ⟨e0, e1, e2, e3, e4⟩ := clLs_at h
    have hc : clLs (x :: r) = clL x ++ clLs r := rfl
    have hl : (clL x).length = 5 := rfl
    refine ⟨?_, ?_, ?_, ?_, ?_⟩
    · rw [hc, List.getElem?_append_right (by omega), hl, ← e0]; congr 1; omega
    · rw [hc, List.getElem?_append_right (by omega), hl, ← e1]; congr 1; omega
    · rw [hc, List.getElem?_append_right (by omega), hl, ← e2]; congr 1; omega
    · rw [hc, List.getElem?_append_right (by omega), hl, ← e3]; congr 1; omega
    · rw [hc, List.getElem?_append_right (by omega), hl, ← e4]; congr 1; omega
theorem rowL_of_owns {W : World} {base : Nat} {v : Value} {ls : List Ln} (h : W.ownsRow base 63 5 v ls.length (clLs ls)) (hl : ls.length ≤ 100) (hz : ∀ l ∈ ls, l.item.size ≤ 9223372036854775807 ∧ l.note.size ≤ 9223372036854775807) : RowL W v ls := by
  refine ⟨?_, by omega, fun i l hi => hz l (List.mem_of_getElem? hi)⟩
  rcases h.2 with ⟨rfl, h0⟩ | ⟨g, cap, cur, rfl, _⟩
  · exact ⟨none, 0, by rw [h0], fun hn => absurd (List.length_eq_zero_iff.1 h0) hn⟩
  · refine ⟨_, _, rfl, fun _ => ⟨g, 0, rfl, fun i l hi => ?_⟩⟩
    obtain ⟨e0, e1, e2, e3, e4⟩ := clLs_at hi
    have ea : ∀ i, (⟨g, 0, none⟩ : Addr).add i = ⟨g, 0 + i, none⟩ := fun i => by unfold Addr.add; split <;> simp_all
    have h0 := h.cells (g := g) rfl _ _ e0
    have h1 := h.cells (g := g) rfl _ _ e1
    have h2 := h.cells (g := g) rfl _ _ e2
    have h3 := h.cells (g := g) rfl _ _ e3
    have h4 := h.cells (g := g) rfl _ _ e4
    rw [ea, Nat.zero_add] at h0 h1 h2 h3 h4
    rw [Nat.zero_add]
    exact ⟨h0, h1, h2, h3, h4⟩
theorem rowS_of_owns {W : World} {base : Nat} {v : Value} {ss : List ByteArray} (h : W.ownsRow base 9 1 v ss.length (ss.map Value.string)) (hl : ss.length ≤ 100) (hz : ∀ t ∈ ss, t.size ≤ 1048576) : RowS W v ss := own_rowT h rfl (by omega) hz
theorem rowL_of_owns' {W W0 : World} {base : Nat} {v : Value} {ls : List Ln} (h : W.ownsRow base 63 5 v ls.length (clLs ls)) (hr : RowL W0 v ls) : RowL W v ls := by
  refine ⟨?_, hr.len, hr.sizes⟩
  rcases h.2 with ⟨rfl, h0⟩ | ⟨g, cap, cur, rfl, _⟩
  · exact ⟨none, 0, by rw [h0], fun hn => absurd (List.length_eq_zero_iff.1 h0) hn⟩
  · refine ⟨_, _, rfl, fun _ => ⟨g, 0, rfl, fun i l hi => ?_⟩⟩
    obtain ⟨e0, e1, e2, e3, e4⟩ := clLs_at hi
    have ea : ∀ i, (⟨g, 0, none⟩ : Addr).add i = ⟨g, 0 + i, none⟩ := fun i => by unfold Addr.add; split <;> simp_all
    have h0 := h.cells (g := g) rfl _ _ e0
    have h1 := h.cells (g := g) rfl _ _ e1
    have h2 := h.cells (g := g) rfl _ _ e2
    have h3 := h.cells (g := g) rfl _ _ e3
    have h4 := h.cells (g := g) rfl _ _ e4
    rw [ea, Nat.zero_add] at h0 h1 h2 h3 h4
    rw [Nat.zero_add]
    exact ⟨h0, h1, h2, h3, h4⟩
theorem rowS_of_owns' {W W0 : World} {base : Nat} {v : Value} {ss : List ByteArray} (h : W.ownsRow base 9 1 v ss.length (ss.map Value.string)) (hr : RowS W0 v ss) : RowS W v ss := by
  refine ⟨?_, hr.len, hr.sizes⟩
  rcases h.2 with ⟨rfl, h0⟩ | ⟨g, cap, cur, rfl, _⟩
  · exact ⟨none, 0, by rw [h0], fun hn => absurd (List.length_eq_zero_iff.1 h0) hn⟩
  · refine ⟨_, _, rfl, fun _ => ⟨g, 0, rfl, fun i t hi => ?_⟩⟩
    have h1 := h.cells (g := g) rfl i (.string t) (by simp [hi])
    have e : (⟨g, 0, none⟩ : Addr).add i = ⟨g, 0 + i, none⟩ := by unfold Addr.add; split <;> simp_all
    rwa [e] at h1
/-- A paper's lists in rows of the call's own. -/
structure OwnQ (B : Nat) (W : World) (q : Pap) (vn vl : Value) : Prop where
  ns : W.ownsRow B 9 1 vn q.notes.length (q.notes.map Value.string)
  ls : W.ownsRow B 63 5 vl q.lines.length (clLs q.lines)
theorem own_old {B b : Nat} (hb : b < B) {e : TypeId} {size : Nat} {v : Value} {len : Nat} {xs : List Value} {W : World} (hr : W.ownsRow B e size v len xs) (i : Nat) (a : Value) : (W.setCell ⟨b, i, none⟩ a).ownsRow B e size v len xs := by
  refine hr.kept (row := some b) ⟨rfl, rfl, rfl, by simp, fun k _ hne => setNe _ (fun e => hne (by rw [e]))⟩ ?_
  rcases hr.2 with ⟨e, _⟩ | ⟨g, cap, cur, e, hg, _⟩
  · exact .inl (by rw [e]; rfl)
  · refine .inr ?_
    rw [e]
    simp only [Value.ownBlock]
    intro e2
    simp only [Option.some.injEq] at e2
    omega
theorem OwnQ.set {B b : Nat} {W : World} {q : Pap} {vn vl : Value} (h : OwnQ B W q vn vl) (hb : b < B) (i : Nat) (a : Value) : OwnQ B (W.setCell ⟨b, i, none⟩ a) q vn vl := ⟨own_old hb h.ns i a, own_old hb h.ls i a⟩
theorem OwnQ.below {B : Nat} {W W' : World} {q : Pap} {vn vl : Value} (h : OwnQ B W q vn vl) (hb : Below W.heap.size W W') : OwnQ B W' q vn vl := ⟨own_below h.ns hb, own_below h.ls hb⟩
theorem OwnQ.mono {B B' : Nat} {W : World} {q : Pap} {vn vl : Value} (h : OwnQ B W q vn vl) (hb : B' ≤ B) : OwnQ B' W q vn vl :=
  ⟨⟨h.ns.1, h.ns.2.imp id fun ⟨g, cap, cur, e, hg, r⟩ => ⟨g, cap, cur, e, by omega, r⟩⟩, ⟨h.ls.1, h.ls.2.imp id fun ⟨g, cap, cur, e, hg, r⟩ => ⟨g, cap, cur, e, by omega, r⟩⟩⟩
theorem PapR.ofQ {B : Nat} {W W0 : World} {q : Pap} {vn vl : Value} (h0 : PapR W0 vn vl q) (h : OwnQ B W q vn vl) : PapR W vn vl q := ⟨rowS_of_owns' h.ns h0.ns, rowL_of_owns' h.ls h0.ls, h0.rz, h0.oz⟩
/-- The boxes of paperOf: the answer's, the paper's; its lists in rows of their own. -/
structure PO (w W : World) (q : Pap) (vn vl : Value) : Prop where
  res : W.heap[w.heap.size]? = some (.cells #[.int .i64 0, .string ⟨#[]⟩, .string ⟨#[]⟩, .int .i64 0, .slice none 0 0, .slice none 0 0] 31)
  box : W.heap[w.heap.size + 1]? = some (.cells #[.int .i64 q.kind, .string q.ref, .string q.other, .int .i64 q.day, vn, vl] 31)
  ns : W.ownsRow (w.heap.size + 2) 9 1 vn q.notes.length (q.notes.map Value.string)
  ls : W.ownsRow (w.heap.size + 2) 63 5 vl q.lines.length (clLs q.lines)
  bel : Below w.heap.size w W
theorem PO.below {w W W' : World} {q : Pap} {vn vl : Value} (h : PO w W q vn vl) (hb : Below W.heap.size W W') : PO w W' q vn vl :=
  ⟨(hb.block _ (Array.getElem?_eq_some_iff.1 h.res).1).trans h.res, (hb.block _ (Array.getElem?_eq_some_iff.1 h.box).1).trans h.box, own_below h.ns hb, own_below h.ls hb, h.bel.trans (hb.mono h.bel.size)⟩
theorem PO.lt {w W : World} {q : Pap} {vn vl : Value} (h : PO w W q vn vl) : w.heap.size + 2 ≤ W.heap.size := (Array.getElem?_eq_some_iff.1 h.box).1
/-- The first segment's fields are set. -/
theorem PO.doc {w W W' : World} {q q' : Pap} {vn vl : Value} (h : PO w W q vn vl) (hk : Keep (w.heap.size + 1) W W') (hx : W'.heap[w.heap.size + 1]? = some (.cells #[.int .i64 q'.kind, .string q'.ref, .string q'.other, .int .i64 q'.day, vn, vl] 31)) (hn : q'.notes = q.notes) (hl : q'.lines = q.lines) : PO w W' q' vn vl := by
  have hlt := h.lt
  have kp : ∀ {e : TypeId} {size : Nat} {v : Value} {len : Nat} {xs : List Value}, W.ownsRow (w.heap.size + 2) e size v len xs → W'.ownsRow (w.heap.size + 2) e size v len xs := fun hr => by
    refine hr.kept (row := some (w.heap.size + 1)) ⟨hk.os, hk.tape, hk.output, hk.size, fun k hk' hne => hk.block k hk' (fun e => hne (by rw [e]))⟩ ?_
    rcases hr.2 with ⟨e, _⟩ | ⟨g, cap, cur, e, hg, _⟩
    · exact .inl (by rw [e]; rfl)
    · refine .inr ?_
      rw [e]
      simp only [Value.ownBlock]
      intro e2
      simp only [Option.some.injEq] at e2
      omega
  refine ⟨(hk.block _ (by omega) (by omega)).trans h.res, hx, by rw [hn]; exact kp h.ns, by rw [hl]; exact kp h.ls, h.bel.trans (hk.below (by omega) h.bel.size)⟩
/-- One note more, stored. -/
theorem PO.note {w W w' : World} {q : Pap} {vn vl v' : Value} {t : ByteArray} (h : PO w W q vn vl) (ho : w'.ownsRow (w.heap.size + 2) 9 1 v' (q.notes.length + 1) ((q.notes ++ [t]).map Value.string)) (hg : W.grownBy w' vn.ownBlock) :
    w'.heap[w.heap.size + 1]? = some (.cells #[.int .i64 q.kind, .string q.ref, .string q.other, .int .i64 q.day, vn, vl] 31) ∧ PO w (w'.setCell ⟨w.heap.size + 1, 4, none⟩ v') ⟨q.kind, q.ref, q.other, q.day, q.notes ++ [t], q.lines⟩ v' vl := by
  have hlt := h.lt
  have hne : ∀ j, j < w.heap.size + 2 → some j ≠ vn.ownBlock := fun j hj e => by
    have := (h.ns.lt j e.symm).1
    omega
  have hbx : w'.heap[w.heap.size + 1]? = some (.cells #[.int .i64 q.kind, .string q.ref, .string q.other, .int .i64 q.day, vn, vl] 31) := (hg.block _ (by omega) (hne _ (by omega))).trans h.box
  have hls : w'.ownsRow (w.heap.size + 2) 63 5 vl q.lines.length (clLs q.lines) := h.ls.kept hg (own_ne2 h.ls h.ns (by decide))
  refine ⟨hbx, (setNe _ (by omega)).trans ((hg.block _ (by omega) (hne _ (by omega))).trans h.res), heap_setCell_same w' _ 4 _ _ v' hbx, by rw [List.length_append]; exact own_set ho hbx (by decide), own_set hls hbx (by decide), ?_⟩
  exact (h.bel.trans ⟨hg.os, hg.tape, hg.output, hg.size, fun j hj => hg.block j (by have := h.bel.size; omega) (hne j (by omega))⟩).setCell (show w.heap.size ≤ w.heap.size + 1 by omega) _
/-- One line more, stored. -/
theorem PO.line {w W w' : World} {q : Pap} {vn vl v' : Value} {l : Ln} (h : PO w W q vn vl) (ho : w'.ownsRow (w.heap.size + 2) 63 5 v' (q.lines.length + 1) (clLs q.lines ++ clL l)) (hg : W.grownBy w' vl.ownBlock) :
    w'.heap[w.heap.size + 1]? = some (.cells #[.int .i64 q.kind, .string q.ref, .string q.other, .int .i64 q.day, vn, vl] 31) ∧ PO w (w'.setCell ⟨w.heap.size + 1, 5, none⟩ v') ⟨q.kind, q.ref, q.other, q.day, q.notes, q.lines ++ [l]⟩ vn v' := by
  have hlt := h.lt
  have hne : ∀ j, j < w.heap.size + 2 → some j ≠ vl.ownBlock := fun j hj e => by
    have := (h.ls.lt j e.symm).1
    omega
  have hbx : w'.heap[w.heap.size + 1]? = some (.cells #[.int .i64 q.kind, .string q.ref, .string q.other, .int .i64 q.day, vn, vl] 31) := (hg.block _ (by omega) (hne _ (by omega))).trans h.box
  have hns : w'.ownsRow (w.heap.size + 2) 9 1 vn q.notes.length (q.notes.map Value.string) := h.ns.kept hg (own_ne2 h.ns h.ls (by decide))
  refine ⟨hbx, (setNe _ (by omega)).trans ((hg.block _ (by omega) (hne _ (by omega))).trans h.res), heap_setCell_same w' _ 5 _ _ v' hbx, own_set hns hbx (by decide), by rw [List.length_append, clLs_app]; exact own_set ho hbx (by decide), ?_⟩
  exact (h.bel.trans ⟨hg.os, hg.tape, hg.output, hg.size, fun j hj => hg.block j (by have := h.bel.size; omega) (hne j (by omega))⟩).setCell (show w.heap.size ≤ w.heap.size + 1 by omega) _
/-- What is read of the first j segments. -/
def prt (p : Pap) (j : Nat) : Pap := if j = 0 then ⟨p.kind, eT, eT, 0, [], []⟩ else ⟨p.kind, p.ref, selB (hasO p.kind) p.other eT, p.day, p.notes.take (j - 1), (p.lines.map (lnI p.kind)).take (j - 1 - p.notes.length)⟩
theorem prt_all (p : Pap) : prt p (1 + (p.notes.length + p.lines.length)) = rdP lnI p := by
  unfold prt rdP
  rw [if_neg (by omega), List.take_of_length_le (by omega), List.take_of_length_le (by rw [List.length_map]; omega)]
  rfl
theorem prt_note {p : Pap} {k : Nat} {t : ByteArray} (h : p.notes[k]? = some t) : prt p (k + 1 + 1) = ⟨(prt p (k + 1)).kind, (prt p (k + 1)).ref, (prt p (k + 1)).other, (prt p (k + 1)).day, (prt p (k + 1)).notes ++ [t], (prt p (k + 1)).lines⟩ := by
  have hk := (List.getElem?_eq_some_iff.1 h).1
  unfold prt
  rw [if_neg (by omega), if_neg (by omega)]
  simp only [Nat.add_sub_cancel]
  rw [List.take_add_one, h, show k + 1 - p.notes.length = 0 by omega, show k - p.notes.length = 0 by omega]
  rfl
theorem prt_line {p : Pap} {k : Nat} {l : Ln} (h : p.lines[k]? = some l) : prt p (p.notes.length + k + 1 + 1) = ⟨(prt p (p.notes.length + k + 1)).kind, (prt p (p.notes.length + k + 1)).ref, (prt p (p.notes.length + k + 1)).other, (prt p (p.notes.length + k + 1)).day, (prt p (p.notes.length + k + 1)).notes, (prt p (p.notes.length + k + 1)).lines ++ [lnI p.kind l]⟩ := by
  unfold prt
  rw [if_neg (by omega), if_neg (by omega)]
  simp only [Nat.add_sub_cancel]
  have e1 : p.notes.take (p.notes.length + k + 1) = p.notes := List.take_of_length_le (by omega)
  have e2 : p.notes.take (p.notes.length + k) = p.notes := List.take_of_length_le (by omega)
  rw [e1, e2, show p.notes.length + k + 1 - p.notes.length = k + 1 by omega, show p.notes.length + k - p.notes.length = k by omega, List.take_add_one, List.getElem?_map, h]
  rfl
end Go.Proofs.YtcdebinldmblkaaGreatDoor
