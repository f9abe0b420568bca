/- Texts of ours put together: CtlB, IxP, OwnX, OwnWB. -/
import Derived.Test.YtjnikogaleofaaaDoorG00
import Derived.Test.YtjnikogaleofaaaDoorG07
import Derived.Test.YtjnikogaleofaaaDoorG08
import Derived.Test.YtjnikogaleofaaaDoorG10
import Derived.Test.YtjnikogaleofaaaDoorG11
import Derived.Laws.OwnMore
namespace Go.Proofs.YtjnikogaleofaaaDoor
open Go.ChangeShapes Go.WideShapes Go.ChangeAt Go.RowKit
def ctlB (n : Int) : Bool := decide (1 ≤ n) && decide (n ≤ 999999)
theorem ctlB_iff {n : Int} : ctlB n = true ↔ 1 ≤ n ∧ n ≤ 999999 := by simp [ctlB]
theorem isControl_any (n : Int) (w : World) : Calls Tryd.prog 56 #[.int .i64 n] w fun e w' => e = .returned (.bool (ctlB n)) ∧ w' = w := by
  by_cases h1 : 1 ≤ n
  · by_cases h2 : n ≤ 999999
    · go_enter Tryd.func56, Tryd.ntmps56
      go_wp2
      go_ret
      exact ⟨ret_bool (by simp [ctlB, h1, h2]), rfl⟩
    · go_enter Tryd.func56, Tryd.ntmps56
      go_wp2
      go_ret
      exact ⟨ret_bool (by simp [ctlB, h1, h2]), rfl⟩
  · go_enter Tryd.func56, Tryd.ntmps56
    go_wp2
    go_ret
    exact ⟨ret_bool (by simp [ctlB]; omega), rfl⟩
theorem l01Control_any (n : Int) (w : World) : Calls Tryd.prog 12 #[.int .i64 n] w fun e w' => e = .returned (.bool (ctlB n)) ∧ w' = w := by
  by_cases h1 : 1 ≤ n
  · by_cases h2 : n ≤ 999999
    · go_enter Tryd.func12, Tryd.ntmps12
      go_wp2
      go_ret
      exact ⟨ret_bool (by simp [ctlB, h1, h2]), rfl⟩
    · go_enter Tryd.func12, Tryd.ntmps12
      go_wp2
      go_ret
      exact ⟨ret_bool (by simp [ctlB, h1, h2]), rfl⟩
  · go_enter Tryd.func12, Tryd.ntmps12
    go_wp2
    go_ret
    exact ⟨ret_bool (by simp [ctlB]; omega), rfl⟩
end Go.Proofs.YtjnikogaleofaaaDoor
namespace Go.Proofs.YtjnikogaleofaaaDoor
open Go.ChangeShapes Go.WideShapes Go.ChangeAt Go.RowKit
/-- The Tags of envelopes. -/
def ownT (t : ByteArray) : Bool := decide (t = ⟨#[73, 88, 72]⟩) || (decide (t = ⟨#[71, 82, 72]⟩) || (decide (t = ⟨#[77, 83, 72]⟩) || (decide (t = ⟨#[77, 83, 84]⟩) || (decide (t = ⟨#[71, 82, 84]⟩) || decide (t = ⟨#[73, 88, 84]⟩)))))
def bodyB (g : Seg) : Bool := !ownT g.1 && rightG g.1 g.2
def msgB (m : Msg) : Bool := ctlB m.num && (decide (m.body.length ≤ 40) && m.body.all bodyB)
def bunB (b : Bun) : Bool := ctlB b.num && (decide (1 ≤ b.kind) && (decide (b.kind ≤ 7) && (decide (1 ≤ b.msgs.length) && (decide (b.msgs.length ≤ 10) && b.msgs.all msgB))))
def ixB (x : Ixc) : Bool := ctlB x.num && (nameB x.frm && (nameB x.to && (decide (1 ≤ x.buns.length) && (decide (x.buns.length ≤ 5) && x.buns.all bunB))))
end Go.Proofs.YtjnikogaleofaaaDoor
namespace Go.Proofs.YtjnikogaleofaaaDoor
open Go.ChangeShapes Go.WideShapes Go.ChangeAt Go.RowKit
/-- What was a block of cells of another type is as it was. -/
def SameT (t : Nat) (W W' : World) : Prop := ∀ (g : Nat) (c : Array Value) (t' : Nat), t' ≠ t → W.heap[g]? = some (.cells c t') → W'.heap[g]? = some (.cells c t')
theorem SameT.refl (t : Nat) (W : World) : SameT t W W := fun _ _ _ _ h => h
theorem SameT.trans {t : Nat} {W W1 W2 : World} (h : SameT t W W1) (h' : SameT t W1 W2) : SameT t W W2 := fun g c t' ht h0 => h' g c t' ht (h g c t' ht h0)
theorem SameT.of_below {t : Nat} {W W' : World} (h : Below W.heap.size W W') : SameT t W W' := fun g _ _ _ h0 => (h.block g (Array.getElem?_eq_some_iff.1 h0).1).trans h0
theorem SameT.of_grown {t n s k : Nat} {W W' : World} {v : Value} {xs : List Value} (hr : W.ownsRow n t s v k xs) (hg : W.grownBy W' v.ownBlock) : SameT t W W' := fun g c t' ht h0 => by
  refine (hg.block g (Array.getElem?_eq_some_iff.1 h0).1 fun e => ?_).trans h0
  rcases hr.2 with ⟨rfl, _⟩ | ⟨b, cap, cur, rfl, _, hh, _⟩
  · simp [Value.ownBlock] at e
  · simp only [Value.ownBlock, Option.some.injEq] at e
    rw [← e, h0] at hh
    simp only [Option.some.injEq, Obj.cells.injEq] at hh
    exact ht hh.2.1
theorem SameT.of_set {t b : Nat} {W : World} {c0 : Array Value} (hb : W.heap[b]? = some (.cells c0 t)) (o : Nat) (u : Value) : SameT t W (W.setCell ⟨b, o, none⟩ u) := fun g c t' ht h0 => by
  refine (heap_setCell_other _ _ g _ fun e => ?_).trans h0
  rw [e, hb] at h0
  simp only [Option.some.injEq, Obj.cells.injEq] at h0
  exact ht h0.2.1.symm
theorem row_sameT {n t t' s k : Nat} {W W' : World} {v : Value} {xs : List Value} (h : W.ownsRow n t' s v k xs) (hs : SameT t W W') (ht : t' ≠ t) : W'.ownsRow n t' s v k xs := by
  obtain ⟨h1, h2⟩ := h
  refine ⟨h1, ?_⟩
  rcases h2 with h2 | ⟨b, cap, cur, e, hb, hh, r⟩
  · exact .inl h2
  · exact .inr ⟨b, cap, cur, e, hb, hs b cur t' ht hh, r⟩
theorem OwnV.sameT {n t : Nat} {W W' : World} {v : Value} {vals : List Value} {es : List (List ByteArray)} (h : OwnV n W v vals es) (hs : SameT t W W') (h1 : 36 ≠ t) (h2 : 9 ≠ t) : OwnV n W' v vals es :=
  ⟨h.len, row_sameT h.row hs h1, fun i u e hu he => ⟨row_sameT (h.parts i u e hu he).1 hs h2, (h.parts i u e hu he).2⟩, h.apart⟩
theorem OwnL.sameT {n t : Nat} {W W' : World} {v : Value} {ps : List (Value × List Value)} {gs : List Seg} (h : OwnL n W v ps gs) (hs : SameT t W W') (h0 : 33 ≠ t) (h1 : 36 ≠ t) (h2 : 9 ≠ t) : OwnL n W' v ps gs :=
  ⟨h.len, row_sameT h.row hs h0, fun i p g hp hg => (h.segs i p g hp hg).sameT hs h1 h2, h.sep⟩
/-- A message, its body's value, what stands in the body's cells. -/
abbrev MsgV := Msg × Value × List (Value × List Value)
/-- A bundle, its messages' value, its messages. -/
abbrev BunV := Bun × Value × List MsgV
def clMv (x : MsgV) : List Value := [.int .i64 x.1.num, x.2.1]
def clBv (x : BunV) : List Value := [.int .i64 x.1.kind, .int .i64 x.1.num, x.2.1]
/-- Messages in a row of the call's own, their bodies in rows of their own. -/
structure OwnM (N : Nat) (W : World) (mv : Value) (ms : List MsgV) : Prop where
  row : W.ownsRow N 50 2 mv ms.length (ms.flatMap clMv)
  body : ∀ x ∈ ms, OwnL N W x.2.1 x.2.2 x.1.body
theorem OwnM.nil (N : Nat) (W : World) : OwnM N W (.slice none 0 0) [] := ⟨World.ownsRow_nil _ _ _ _, fun x h => by cases h⟩
theorem OwnM.below {N : Nat} {W W' : World} {mv : Value} {ms : List MsgV} (h : OwnM N W mv ms) (hb : Below W.heap.size W W') : OwnM N W' mv ms :=
  ⟨row_sameT h.row (SameT.of_below (t := 48) hb) (by decide), fun x hx => (h.body x hx).below hb⟩
theorem OwnM.sameT {N : Nat} {W W' : World} {mv : Value} {ms : List MsgV} (h : OwnM N W mv ms) (hs : SameT 48 W W') : OwnM N W' mv ms :=
  ⟨row_sameT h.row hs (by decide), fun x hx => (h.body x hx).sameT hs (by decide) (by decide) (by decide)⟩
/-- Where another row of messages grows. -/
theorem OwnM.other {N n k : Nat} {W W' : World} {mv mv' : Value} {ms : List MsgV} {xs : List Value} (h : OwnM N W mv ms) (hr : W.ownsRow n 50 2 mv' k xs) (hg : W.grownBy W' mv'.ownBlock) (hne : ∀ b, mv.ownBlock = some b → mv'.ownBlock ≠ some b) : OwnM N W' mv ms := by
  refine ⟨h.row.kept hg ?_, fun x hx => (h.body x hx).sameT (SameT.of_grown hr hg) (by decide) (by decide) (by decide)⟩
  cases hv : mv.ownBlock with
  | none => exact .inl rfl
  | some j =>
    refine .inr ?_
    exact fun e => hne j hv e.symm
/-- Bundles in a row of the call's own, their messages in rows of their own, no two in one block. -/
structure OwnBs (N : Nat) (W : World) (v : Value) (bs : List BunV) : Prop where
  row : W.ownsRow N 48 3 v bs.length (bs.flatMap clBv)
  msgs : ∀ x ∈ bs, OwnM N W x.2.1 x.2.2 ∧ x.2.2.map (·.1) = x.1.msgs
  sep : ∀ (i j : Nat) (x y : BunV), i < j → bs[i]? = some x → bs[j]? = some y → ∀ b, x.2.1.ownBlock = some b → y.2.1.ownBlock ≠ some b
theorem OwnBs.nil (N : Nat) (W : World) : OwnBs N W (.slice none 0 0) [] := ⟨World.ownsRow_nil _ _ _ _, (fun x h => by cases h), fun i j x y _ h => by simp at h⟩
theorem OwnBs.below {N : Nat} {W W' : World} {v : Value} {bs : List BunV} (h : OwnBs N W v bs) (hb : Below W.heap.size W W') : OwnBs N W' v bs :=
  ⟨row_sameT h.row (SameT.of_below (t := 50) hb) (by decide), fun x hx => ⟨(h.msgs x hx).1.below hb, (h.msgs x hx).2⟩, h.sep⟩
/-- One bundle more, without messages. -/
theorem OwnBs.add {N : Nat} {W W' : World} {v v' : Value} {bs : List BunV} {k num : Int} (h : OwnBs N W v bs) (hr : W'.ownsRow N 48 3 v' (bs.length + 1) (bs.flatMap clBv ++ [.int .i64 k, .int .i64 num, .slice none 0 0])) (hg : W.grownBy W' v.ownBlock) : OwnBs N W' v' (bs ++ [(⟨k, num, []⟩, .slice none 0 0, [])]) := by
  have hs := SameT.of_grown h.row hg
  refine ⟨by simpa [clBv] using hr, fun x hx => ?_, fun i j x y hij hx hy b hb => ?_⟩
  · rcases List.mem_append.1 hx with hx | hx
    · exact ⟨(h.msgs x hx).1.sameT hs, (h.msgs x hx).2⟩
    · rw [List.mem_singleton.1 hx]
      exact ⟨OwnM.nil _ _, rfl⟩
  · rcases Nat.lt_or_ge j bs.length with hj | hj
    · rw [List.getElem?_append_left hj] at hy
      rw [List.getElem?_append_left (by omega)] at hx
      exact h.sep i j x y hij hx hy b hb
    · have hy1 := (List.getElem?_eq_some_iff.1 hy).1
      rw [List.length_append, List.length_singleton] at hy1
      obtain rfl : j = bs.length := by omega
      simp at hy
      rw [← hy]
      simp [Value.ownBlock]
theorem clBv_len (bs : List BunV) : (bs.flatMap clBv).length = bs.length * 3 := by
  induction bs with
  | nil => rfl
  | cons b r ih =>
    have e : (clBv b).length = 3 := rfl
    rw [List.flatMap_cons, List.length_append, ih, e, List.length_cons]
    omega
theorem clBv_set (pre : List BunV) (b : Bun) (mv mv' : Value) (ms ms' : List MsgV) (msgs : List Msg) : ((pre ++ [((b, mv, ms) : BunV)]).flatMap clBv).set (pre.length * 3 + 2) mv' = (pre ++ [((⟨b.kind, b.num, msgs⟩, mv', ms') : BunV)]).flatMap clBv := by
  rw [List.flatMap_append, List.flatMap_append, List.set_append, if_neg (by rw [clBv_len]; omega), clBv_len]
  simp [clBv]
/-- A message more in the last bundle. -/
theorem OwnBs.addM {N g gg C cap : Nat} {W w' : World} {pre : List BunV} {b : Bun} {mv : Value} {ms : List MsgV} {m : Msg} {gv : Value} {ps : List (Value × List Value)} (h : OwnBs N W (.slice (some ⟨g, 0, none⟩) (pre.length + 1) C) (pre ++ [(b, mv, ms)]))
    (hG : OwnL N W gv ps m.body) (hr : w'.ownsRow N 50 2 (.slice (some ⟨gg, 0, none⟩) (ms.length + 1) cap) (ms.length + 1) (ms.flatMap clMv ++ [.int .i64 m.num, gv]))
    (hg : W.grownBy w' mv.ownBlock) (hor : mv.ownBlock = some gg ∨ gg = W.heap.size) :
    OwnBs N (w'.setCell ⟨g, pre.length * 3 + 2, none⟩ (.slice (some ⟨gg, 0, none⟩) (ms.length + 1) cap)) (.slice (some ⟨g, 0, none⟩) (pre.length + 1) C) (pre ++ [(⟨b.kind, b.num, b.msgs ++ [m]⟩, .slice (some ⟨gg, 0, none⟩) (ms.length + 1) cap, ms ++ [(m, gv, ps)])]) ∧ w'.cell? ⟨g, pre.length * 3 + 2, none⟩ = some mv ∧ w'.frozen? ⟨g, pre.length * 3 + 2, none⟩ = false := by
  have hlast : (pre ++ [((b, mv, ms) : BunV)])[pre.length]? = some (b, mv, ms) := by simp
  have hM := (h.msgs (b, mv, ms) (List.mem_append_right _ (List.mem_singleton.2 rfl))).1
  have hMs := (h.msgs (b, mv, ms) (List.mem_append_right _ (List.mem_singleton.2 rfl))).2
  have hsM : SameT 50 W w' := SameT.of_grown hM.row hg
  have hrow : w'.ownsRow N 48 3 (.slice (some ⟨g, 0, none⟩) (pre.length + 1) C) (pre ++ [((b, mv, ms) : BunV)]).length ((pre ++ [((b, mv, ms) : BunV)]).flatMap clBv) := row_sameT h.row hsM (by decide)
  have hlen : (pre ++ [((b, mv, ms) : BunV)]).length = pre.length + 1 := by simp
  have hblk : ∃ cur, w'.heap[g]? = some (.cells cur 48) := by
    rcases hrow.2 with ⟨e, _⟩ | ⟨b', cap', cur, e, _, hh, _⟩
    · cases e
    · simp only [Value.slice.injEq, Option.some.injEq, Addr.mk.injEq] at e
      obtain ⟨⟨rfl, _⟩, _⟩ := e
      exact ⟨cur, hh⟩
  obtain ⟨cur, hcur⟩ := hblk
  have hcell : w'.cell? ⟨g, pre.length * 3 + 2, none⟩ = some mv := by
    rcases hrow.2 with ⟨e, _⟩ | ⟨b', cap', cur', e, _, hh, hc, hm, hs, ht⟩
    · cases e
    · simp only [Value.slice.injEq, Option.some.injEq, Addr.mk.injEq] at e
      obtain ⟨⟨rfl, _⟩, _⟩ := e
      have hx : ((pre ++ [((b, mv, ms) : BunV)]).flatMap clBv)[pre.length * 3 + 2]? = some mv := by
        rw [List.flatMap_append, List.getElem?_append_right (by rw [clBv_len]; omega), clBv_len]
        simp [clBv]
      rw [← ht, List.getElem?_take_of_lt (by rw [hlen]; omega), Array.getElem?_toList] at hx
      simp only [World.cell?, hh]
      exact hx
  have hset : SameT 48 w' (w'.setCell ⟨g, pre.length * 3 + 2, none⟩ (.slice (some ⟨gg, 0, none⟩) (ms.length + 1) cap)) := SameT.of_set hcur _ _
  refine ⟨⟨?_, fun x hx => ?_, fun i j x y hij hx hy bb hb => ?_⟩, hcell, by simp [World.frozen?, hcur]⟩
  · have hl2 : (pre ++ [((⟨b.kind, b.num, b.msgs ++ [m]⟩, .slice (some ⟨gg, 0, none⟩) (ms.length + 1) cap, ms ++ [(m, gv, ps)]) : BunV)]).length = pre.length + 1 := by simp
    rw [hl2, ← clBv_set pre b mv _ ms (ms ++ [(m, gv, ps)]) (b.msgs ++ [m])]
    rw [hlen] at hrow
    exact (World.ownsRow.stored hrow _ _).1
  · rcases List.mem_append.1 hx with hx | hx
    · have hp := h.msgs x (List.mem_append_left _ hx)
      obtain ⟨i, hi⟩ := List.mem_iff_getElem?.1 hx
      have hil := (List.getElem?_eq_some_iff.1 hi).1
      have hsep := h.sep i pre.length x (b, mv, ms) hil (by rw [List.getElem?_append_left hil]; exact hi) hlast
      exact ⟨(hp.1.other hM.row hg hsep).sameT hset, hp.2⟩
    · rw [List.mem_singleton.1 hx]
      refine ⟨⟨?_, fun y hy => ?_⟩, by simp [hMs]⟩
      · refine row_sameT ?_ hset (by decide)
        simpa [clMv] using hr
      · rcases List.mem_append.1 hy with hy | hy
        · exact ((hM.body y hy).sameT hsM (by decide) (by decide) (by decide)).sameT hset (by decide) (by decide) (by decide)
        · rw [List.mem_singleton.1 hy]
          exact (hG.sameT hsM (by decide) (by decide) (by decide)).sameT hset (by decide) (by decide) (by decide)
  · rcases Nat.lt_or_ge j pre.length with hj | hj
    · rw [List.getElem?_append_left hj] at hy
      rw [List.getElem?_append_left (by omega)] at hx
      exact h.sep i j x y hij (by rw [List.getElem?_append_left (by omega)]; exact hx) (by rw [List.getElem?_append_left hj]; exact hy) bb hb
    · have hy1 := (List.getElem?_eq_some_iff.1 hy).1
      rw [List.length_append, List.length_singleton] at hy1
      obtain rfl : j = pre.length := by omega
      rw [List.getElem?_append_left hij] at hx
      simp at hy
      rw [← hy]
      simp only [Value.ownBlock, ne_eq, Option.some.injEq]
      intro e
      have hsep := h.sep i pre.length x (b, mv, ms) hij (by rw [List.getElem?_append_left hij]; exact hx) hlast bb hb
      rcases hor with ho | ho
      · rw [ho] at hsep
        exact hsep (by rw [e])
      · have hxr := (h.msgs x (List.mem_append_left _ (List.mem_of_getElem? hx))).1.row
        have := (hxr.lt bb hb).2
        omega
end Go.Proofs.YtjnikogaleofaaaDoor
namespace Go.Proofs.YtjnikogaleofaaaDoor
open Go.ChangeShapes Go.WideShapes Go.ChangeAt Go.RowKit Go.Shelf
theorem OwnW.sameT {n t : Nat} {W W' : World} {v : Value} {vals : List Value} {es : List (List ByteArray)} (h : OwnW n W v vals es) (hs : SameT t W W') (h1 : 36 ≠ t) (h2 : 9 ≠ t) : OwnW n W' v vals es :=
  ⟨h.len, row_sameT h.row hs h1, fun i u e hu he => row_sameT (h.parts i u e hu he) hs h2⟩
theorem OwnWL.sameT {n t : Nat} {W W' : World} {v : Value} {ps : List (Value × List Value)} {gs : List Seg} (h : OwnWL n W v ps gs) (hs : SameT t W W') (h0 : 33 ≠ t) (h1 : 36 ≠ t) (h2 : 9 ≠ t) : OwnWL n W' v ps gs :=
  ⟨h.len, row_sameT h.row hs h0, fun i p g hp hg => (h.segs i p g hp hg).sameT hs h1 h2⟩
theorem OwnWL.nil (n : Nat) (W : World) : OwnWL n W (.slice none 0 0) [] [] := ⟨rfl, World.ownsRow_nil _ _ _ _, fun i p g h => by simp at h⟩
/-- Messages in a row of the call's own, their bodies in rows of the call's own. -/
structure OwnWM (N : Nat) (W : World) (mv : Value) (ms : List MsgV) : Prop where
  row : W.ownsRow N 50 2 mv ms.length (ms.flatMap clMv)
  body : ∀ x ∈ ms, OwnWL N W x.2.1 x.2.2 x.1.body
theorem OwnWM.nil (N : Nat) (W : World) : OwnWM N W (.slice none 0 0) [] := ⟨World.ownsRow_nil _ _ _ _, fun x h => by cases h⟩
theorem OwnWM.same {N : Nat} {W W' : World} {mv : Value} {ms : List MsgV} (h : OwnWM N W mv ms) (hs : ∀ g, N ≤ g → g < W.heap.size → W'.heap[g]? = W.heap[g]?) : OwnWM N W' mv ms :=
  ⟨row_sameW h.row fun g h1 h2 _ => hs g h1 h2, fun x hx => (h.body x hx).same hs⟩
theorem OwnWM.keep {N B : Nat} {W W' : World} {mv : Value} {ms : List MsgV} (h : OwnWM N W mv ms) (hk : Keep B W W') (hB : B < N) : OwnWM N W' mv ms :=
  h.same fun g h1 h2 => hk.block g h2 (by omega)
theorem OwnWM.below {N : Nat} {W W' : World} {mv : Value} {ms : List MsgV} (h : OwnWM N W mv ms) (hb : Below W.heap.size W W') : OwnWM N W' mv ms :=
  h.same fun g _ h2 => hb.block g h2
theorem OwnWM.set {N B : Nat} {W : World} {mv : Value} {ms : List MsgV} (h : OwnWM N W mv ms) (hB : B < N) (i : Nat) (x : Value) : OwnWM N (W.setCell ⟨B, i, none⟩ x) mv ms :=
  h.same fun g h1 _ => Below.heap_setCell W ⟨B, i, none⟩ x g (show g ≠ B by omega)
theorem OwnWM.mono {N M : Nat} {W : World} {mv : Value} {ms : List MsgV} (h : OwnWM N W mv ms) (hn : M ≤ N) : OwnWM M W mv ms :=
  ⟨rowz_mono h.row hn, fun x hx => (h.body x hx).mono hn⟩
theorem OwnWM.sameT {N : Nat} {W W' : World} {mv : Value} {ms : List MsgV} (h : OwnWM N W mv ms) (hs : SameT 48 W W') : OwnWM N W' mv ms :=
  ⟨row_sameT h.row hs (by decide), fun x hx => (h.body x hx).sameT hs (by decide) (by decide) (by decide)⟩
/-- One message more. -/
theorem OwnWM.push {N : Nat} {W w4 : World} {mv mv' gv : Value} {ms : List MsgV} {m : Msg} {ps : List (Value × List Value)} (h : OwnWM N W mv ms) (hG : OwnWL N W gv ps m.body)
    (hr : w4.ownsRow N 50 2 mv' (ms.length + 1) (ms.flatMap clMv ++ [.int .i64 m.num, gv])) (hg : W.grownBy w4 mv.ownBlock) : OwnWM N w4 mv' (ms ++ [(m, gv, ps)]) := by
  have hs := SameT.of_grown h.row hg
  refine ⟨by simpa [clMv] using hr, fun x hx => ?_⟩
  rcases List.mem_append.1 hx with q | q
  · exact (h.body x q).sameT hs (by decide) (by decide) (by decide)
  · rw [List.mem_singleton.1 q]
    exact hG.sameT hs (by decide) (by decide) (by decide)
/-- Bundles in a row of the call's own, their messages in rows of the call's own. -/
structure OwnWBs (N : Nat) (W : World) (v : Value) (bs : List BunV) : Prop where
  row : W.ownsRow N 48 3 v bs.length (bs.flatMap clBv)
  msgs : ∀ x ∈ bs, OwnWM N W x.2.1 x.2.2 ∧ x.2.2.map (·.1) = x.1.msgs
/-- No two of them in one block. -/
def SepW (bs : List BunV) : Prop := ∀ (i j : Nat) (x y : BunV), i < j → bs[i]? = some x → bs[j]? = some y → ∀ b, x.2.1.ownBlock = some b → y.2.1.ownBlock ≠ some b
theorem OwnWBs.nil (N : Nat) (W : World) : OwnWBs N W (.slice none 0 0) [] := ⟨World.ownsRow_nil _ _ _ _, fun x h => by cases h⟩
theorem OwnWBs.same {N : Nat} {W W' : World} {v : Value} {bs : List BunV} (h : OwnWBs N W v bs) (hs : ∀ g, N ≤ g → g < W.heap.size → W'.heap[g]? = W.heap[g]?) : OwnWBs N W' v bs :=
  ⟨row_sameW h.row fun g h1 h2 _ => hs g h1 h2, fun x hx => ⟨(h.msgs x hx).1.same hs, (h.msgs x hx).2⟩⟩
theorem OwnWBs.keep {N B : Nat} {W W' : World} {v : Value} {bs : List BunV} (h : OwnWBs N W v bs) (hk : Keep B W W') (hB : B < N) : OwnWBs N W' v bs :=
  h.same fun g h1 h2 => hk.block g h2 (by omega)
theorem OwnWBs.below {N : Nat} {W W' : World} {v : Value} {bs : List BunV} (h : OwnWBs N W v bs) (hb : Below W.heap.size W W') : OwnWBs N W' v bs :=
  h.same fun g _ h2 => hb.block g h2
theorem OwnWBs.set {N B : Nat} {W : World} {v : Value} {bs : List BunV} (h : OwnWBs N W v bs) (hB : B < N) (i : Nat) (x : Value) : OwnWBs N (W.setCell ⟨B, i, none⟩ x) v bs :=
  h.same fun g h1 _ => Below.heap_setCell W ⟨B, i, none⟩ x g (show g ≠ B by omega)
theorem OwnWBs.mono {N M : Nat} {W : World} {v : Value} {bs : List BunV} (h : OwnWBs N W v bs) (hn : M ≤ N) : OwnWBs M W v bs :=
  ⟨rowz_mono h.row hn, fun x hx => ⟨(h.msgs x hx).1.mono hn, (h.msgs x hx).2⟩⟩
/-- One bundle more. -/
theorem OwnWBs.push {N : Nat} {W w4 : World} {v v' mv : Value} {bs : List BunV} {b : Bun} {ms : List MsgV} (h : OwnWBs N W v bs) (hM : OwnWM N W mv ms) (hm : ms.map (·.1) = b.msgs)
    (hr : w4.ownsRow N 48 3 v' (bs.length + 1) (bs.flatMap clBv ++ [.int .i64 b.kind, .int .i64 b.num, mv])) (hg : W.grownBy w4 v.ownBlock) : OwnWBs N w4 v' (bs ++ [(b, mv, ms)]) := by
  have hs := SameT.of_grown h.row hg
  refine ⟨by simpa [clBv] using hr, fun x hx => ?_⟩
  rcases List.mem_append.1 hx with q | q
  · exact ⟨(h.msgs x q).1.sameT hs, (h.msgs x q).2⟩
  · rw [List.mem_singleton.1 q]
    exact ⟨hM.sameT hs, hm⟩
theorem SepW.push {N : Nat} {mv : Value} {bs : List BunV} {b : Bun} {ms : List MsgV} (h : SepW bs) (hw : ∀ x ∈ bs, ∀ g, x.2.1.ownBlock = some g → g < N) (hm : ∀ g, mv.ownBlock = some g → N ≤ g) : SepW (bs ++ [(b, mv, ms)]) := by
  intro i j x y hij hx hy g hg
  rcases Nat.lt_or_ge j bs.length with hj | hj
  · rw [List.getElem?_append_left hj] at hy
    rw [List.getElem?_append_left (by omega)] at hx
    exact h i j x y hij hx hy g hg
  · have hy1 := (List.getElem?_eq_some_iff.1 hy).1
    rw [List.length_append, List.length_singleton] at hy1
    obtain rfl : j = bs.length := by omega
    rw [List.getElem?_append_left hij] at hx
    simp at hy
    rw [← hy]
    intro e
    have h1 := hw x (List.mem_of_getElem? hx) g hg
    have h2 := hm g e
    omega
theorem row_slice_any {n₀ t z k : Nat} {W : World} {v : Value} {xs : List Value} (h : W.ownsRow n₀ t z v k xs) : ∃ A C, v = .slice A k C := by
  rcases h.2 with ⟨rfl, h0⟩ | ⟨g, cap, cur, rfl, _⟩
  · exact ⟨none, 0, by rw [h0]⟩
  · exact ⟨_, _, rfl⟩
/-- Bounds of what is drawn. -/
def BdMs (ms : List MsgV) : Prop := ms.length ≤ 11 ∧ ∀ x ∈ ms, BdGs x.1.body ∧ x.1.body.length ≤ 3 ∧ 0 ≤ x.1.num ∧ x.1.num ≤ 100
def BdBs (bs : List BunV) : Prop := bs.length ≤ 6 ∧ ∀ x ∈ bs, BdMs x.2.2 ∧ 0 ≤ x.1.kind ∧ x.1.kind ≤ 8 ∧ 0 ≤ x.1.num ∧ x.1.num ≤ 100
theorem OwnWM.rowM {N : Nat} {W : World} {v : Value} {ms : List MsgV} (h : OwnWM N W v ms) (hX : BdMs ms) : RowM W v (ms.map (·.1)) := by
  refine ⟨?_, by rw [List.length_map]; have := hX.1; omega⟩
  rcases h.row.2 with ⟨rfl, h0⟩ | ⟨g, cap, cur, rfl, _⟩
  · have : ms = [] := List.eq_nil_of_length_eq_zero h0
    subst this
    exact ⟨none, 0, rfl, fun hn => absurd rfl hn⟩
  · refine ⟨_, _, by rw [List.length_map], fun _ => ⟨g, 0, rfl, fun i r hi => ?_⟩⟩
    rw [List.getElem?_map] at hi
    obtain ⟨x, hx, rfl⟩ := Option.map_eq_some_iff.1 hi
    have hlt := (List.getElem?_eq_some_iff.1 hx).1
    have hm := List.mem_of_getElem? hx
    have key : ∀ (l : List MsgV) (i : Nat) (x : MsgV), l[i]? = some x → (l.flatMap clMv)[i * 2]? = some (.int .i64 x.1.num) ∧ (l.flatMap clMv)[i * 2 + 1]? = some x.2.1 := by
      intro l
      induction l with
      | nil => intro i x h; simp at h
      | cons a r ih =>
        intro i x h
        cases i with
        | zero => simp at h; subst h; simp [clMv]
        | succ j =>
          have := ih j x (by simpa using h)
          simp only [List.flatMap_cons, clMv] at this ⊢
          have e1 : (j + 1) * 2 = (j * 2) + 1 + 1 := by omega
          rw [e1]
          simpa using this
    obtain ⟨k1, k2⟩ := key ms i x hx
    obtain ⟨b1, b2, _⟩ := hX.2 x hm
    refine ⟨x.2.1, ⟨?_, ?_⟩, ⟨(h.body x hm).rowG b1 (by omega)⟩⟩
    · rw [Nat.zero_add, h.row.cellAt _ (by omega)]; exact k1
    · rw [Nat.zero_add, h.row.cellAt _ (by omega)]; exact k2
theorem OwnWBs.rowB {N : Nat} {W : World} {v : Value} {bs : List BunV} (h : OwnWBs N W v bs) (hX : BdBs bs) : RowB W v (bs.map (·.1)) := by
  refine ⟨?_, by rw [List.length_map]; have := hX.1; omega⟩
  rcases h.row.2 with ⟨rfl, h0⟩ | ⟨g, cap, cur, rfl, _⟩
  · have : bs = [] := List.eq_nil_of_length_eq_zero h0
    subst this
    exact ⟨none, 0, rfl, fun hn => absurd rfl hn⟩
  · refine ⟨_, _, by rw [List.length_map], fun _ => ⟨g, 0, rfl, fun i r hi => ?_⟩⟩
    rw [List.getElem?_map] at hi
    obtain ⟨x, hx, rfl⟩ := Option.map_eq_some_iff.1 hi
    have hlt := (List.getElem?_eq_some_iff.1 hx).1
    have hm := List.mem_of_getElem? hx
    have key : ∀ (l : List BunV) (i : Nat) (x : BunV), l[i]? = some x → (l.flatMap clBv)[i * 3]? = some (.int .i64 x.1.kind) ∧ (l.flatMap clBv)[i * 3 + 1]? = some (.int .i64 x.1.num) ∧ (l.flatMap clBv)[i * 3 + 2]? = some x.2.1 := by
      intro l
      induction l with
      | nil => intro i x h; simp at h
      | cons a r ih =>
        intro i x h
        cases i with
        | zero => simp at h; subst h; simp [clBv]
        | succ j =>
          have := ih j x (by simpa using h)
          simp only [List.flatMap_cons, clBv] at this ⊢
          have e1 : (j + 1) * 3 = (j * 3) + 1 + 1 + 1 := by omega
          rw [e1]
          simpa using this
    obtain ⟨k1, k2, k3⟩ := key bs i x hx
    refine ⟨x.2.1, ⟨?_, ?_, ?_⟩, ⟨?_⟩⟩
    · rw [Nat.zero_add, h.row.cellAt _ (by omega)]; exact k1
    · rw [Nat.zero_add, h.row.cellAt _ (by omega)]; exact k2
    · rw [Nat.zero_add, h.row.cellAt _ (by omega)]; exact k3
    · have hM := h.msgs x hm
      rw [← hM.2]
      exact hM.1.rowM (hX.2 x hm).1
/-- What is drawn reads as an interchange, within its bounds. -/
theorem OwnWBs.ri {N : Nat} {W : World} {v : Value} {bs : List BunV} {frm tt : ByteArray} {num : Int} (h : OwnWBs N W v bs) (hX : BdBs bs) (h1 : frm.size ≤ 100) (h2 : tt.size ≤ 100) : RI W v ⟨frm, tt, num, bs.map (·.1)⟩ ∧ BdI 1048576 ⟨frm, tt, num, bs.map (·.1)⟩ := by
  have hl : bs.length ≤ 6 := hX.1
  refine ⟨⟨h.rowB hX, by dsimp only; omega, by dsimp only; omega⟩, by dsimp only; omega, by dsimp only; omega, by rw [List.length_map]; omega, fun i r hi => ?_⟩
  rw [List.getElem?_map] at hi
  obtain ⟨x, hx, rfl⟩ := Option.map_eq_some_iff.1 hi
  have hm := List.mem_of_getElem? hx
  have hb := (hX.2 x hm).1
  have he := (h.msgs x hm).2
  have hbl := hb.1
  refine ⟨by rw [← he, List.length_map]; omega, fun j m hj => ?_⟩
  rw [← he, List.getElem?_map] at hj
  obtain ⟨y, hy, rfl⟩ := Option.map_eq_some_iff.1 hj
  obtain ⟨b1, b2, _⟩ := hb.2 y (List.mem_of_getElem? hy)
  exact bdGs_bdG b1 (by omega)
end Go.Proofs.YtjnikogaleofaaaDoor
