/- Texts of ours put together: CtlB, IxP, OwnB, OwnX, RowL, RowPs, NumP, ShNum, Plain, Num. -/
import Derived.Test.YtkaolpnbddjdpaaGreatDoorG00
import Derived.Test.YtkaolpnbddjdpaaGreatDoorG01
import Derived.Deep.OwnRows
import Derived.Laws.OwnMore
import Derived.Lib.ParseIntB
import Derived.Lib.ItoaNum
import Derived.Lib.Strings
import Derived.Shelf.LaysM
import Derived.Shelf.Strconv.ParseIntPublic10
import Derived.Shelf.Strings.Prefix
import Derived.Test.YtkaolpnbddjdpaaGreatDoorRows
import Derived.WalkKit
import Derived.Lib.AtoiErrMem
namespace Go.Proofs.YtkaolpnbddjdpaaGreatDoor
open Go.ChangeShapes Go.WideShapes Go.ChangeAt Go.RowKit
def ctlB (n : Int) : Bool := decide (1 ≤ n) && decide (n ≤ 999999)
theorem isControl_any (n : Int) (w : World) : Calls Tryz.prog 180 #[.int .i64 n] w fun e w' => e = .returned (.bool (ctlB n)) ∧ w' = w := by
  by_cases h1 : 1 ≤ n
  · by_cases h2 : n ≤ 999999
    · go_enter Tryz.func180, Tryz.ntmps180
      go_wp2
      go_ret
      exact ⟨ret_bool (by simp [ctlB, h1, h2]), rfl⟩
    · go_enter Tryz.func180, Tryz.ntmps180
      go_wp2
      go_ret
      exact ⟨ret_bool (by simp [ctlB, h1, h2]), rfl⟩
  · go_enter Tryz.func180, Tryz.ntmps180
    go_wp2
    go_ret
    exact ⟨ret_bool (by simp [ctlB]; omega), rfl⟩
theorem l01Control_any (n : Int) (w : World) : Calls Tryz.prog 79 #[.int .i64 n] w fun e w' => e = .returned (.bool (ctlB n)) ∧ w' = w := by
  by_cases h1 : 1 ≤ n
  · by_cases h2 : n ≤ 999999
    · go_enter Tryz.func79, Tryz.ntmps79
      go_wp2
      go_ret
      exact ⟨ret_bool (by simp [ctlB, h1, h2]), rfl⟩
    · go_enter Tryz.func79, Tryz.ntmps79
      go_wp2
      go_ret
      exact ⟨ret_bool (by simp [ctlB, h1, h2]), rfl⟩
  · go_enter Tryz.func79, Tryz.ntmps79
    go_wp2
    go_ret
    exact ⟨ret_bool (by simp [ctlB]; omega), rfl⟩
end Go.Proofs.YtkaolpnbddjdpaaGreatDoor
namespace Go.Proofs.YtkaolpnbddjdpaaGreatDoor
open Go.ChangeShapes Go.WideShapes Go.ChangeAt Go.RowKit
/-- The Tags of envelopes. -/
def ownT (t : ByteArray) : Bool := decide (t = ⟨#[73, 88, 72]⟩) || (decide (t = ⟨#[71, 82, 72]⟩) || (decide (t = ⟨#[77, 83, 72]⟩) || (decide (t = ⟨#[77, 83, 84]⟩) || (decide (t = ⟨#[71, 82, 84]⟩) || decide (t = ⟨#[73, 88, 84]⟩)))))
def bodyB (g : Seg) : Bool := !ownT g.1 && rightG g.1 g.2
def msgB (m : Msg) : Bool := ctlB m.num && (decide (m.body.length ≤ 40) && m.body.all bodyB)
def bunB (b : Bun) : Bool := ctlB b.num && (decide (1 ≤ b.kind) && (decide (b.kind ≤ 7) && (decide (1 ≤ b.msgs.length) && (decide (b.msgs.length ≤ 10) && b.msgs.all msgB))))
def ixB (x : Ixc) : Bool := ctlB x.num && (nameB x.frm && (nameB x.to && (decide (1 ≤ x.buns.length) && (decide (x.buns.length ≤ 5) && x.buns.all bunB))))
end Go.Proofs.YtkaolpnbddjdpaaGreatDoor
namespace Go.Proofs.YtkaolpnbddjdpaaGreatDoor
open Go.ChangeShapes Go.WideShapes Go.ChangeAt Go.RowKit
theorem row_mono {W : World} {n₀ n₁ e k : Nat} {v : Value} {xs : List Value} (h : W.ownsRow n₁ e 1 v k xs) (hn : n₀ ≤ n₁) : W.ownsRow n₀ e 1 v k xs := by
  rcases h.2 with h1 | ⟨g, cap, cur, h1, h2, h3⟩
  · exact ⟨h.1, .inl h1⟩
  · exact ⟨h.1, .inr ⟨g, cap, cur, h1, Nat.le_trans hn h2, h3⟩⟩
/-- Two rows of unlike elements lie apart. -/
theorem rows_apart {W : World} {n₀ n₁ e e' k k' : Nat} {v v' : Value} {xs xs' : List Value} (h : W.ownsRow n₀ e 1 v k xs) (h' : W.ownsRow n₁ e' 1 v' k' xs') (hne : e ≠ e') : v.ownBlock = none ∨ v.ownBlock ≠ v'.ownBlock := by
  rcases h.2 with ⟨rfl, _⟩ | ⟨g, cap, cur, rfl, _, hgb, _⟩
  · exact .inl rfl
  · refine .inr fun e1 => ?_
    rcases h'.2 with ⟨rfl, _⟩ | ⟨g', cap', cur', rfl, _, hgb', _⟩
    · simp [Value.ownBlock] at e1
    · obtain rfl : g = g' := by simpa [Value.ownBlock] using e1
      rw [hgb] at hgb'
      cases hgb'
      exact hne rfl
theorem row_lt {W : World} {n₁ e k : Nat} {v : Value} {xs : List Value} (h : W.ownsRow n₁ e 1 v k xs) {b : Nat} (hb : b < n₁) : some b ≠ v.ownBlock := by
  intro e1
  rcases h.2 with ⟨rfl, _⟩ | ⟨g, cap, cur, rfl, hg, _⟩
  · simp [Value.ownBlock] at e1
  · obtain rfl : b = g := by simpa [Value.ownBlock] using e1
    omega
/-- A row of texts of the call's own reads as the list. -/
theorem own_rowS {W : World} {n₀ n : Nat} {v : Value} {ss : List ByteArray} (h : W.ownsRow n₀ 9 1 v n (ss.map Value.string)) (hn : n = ss.length) (hl : ss.length ≤ 1048576) (hz : ∀ t ∈ ss, t.size ≤ 40) : RowS W v ss := by
  subst hn
  refine ⟨?_, by omega, fun i t hi => Nat.le_trans (hz t (List.mem_of_getElem? hi)) (by omega)⟩
  rcases h.2 with ⟨rfl, h0⟩ | ⟨g, cap, cur, rfl, _⟩
  · exact ⟨none, 0, by rw [h0], fun hn => absurd (List.length_eq_zero_iff.1 h0) hn⟩
  · refine ⟨_, _, rfl, fun _ => ⟨g, 0, rfl, fun i t hi => ?_⟩⟩
    have h1 := h.cells (g := g) rfl i (.string t) (by simp [hi])
    have e : (⟨g, 0, none⟩ : Addr).add i = ⟨g, 0 + i, none⟩ := by unfold Addr.add; split <;> simp_all
    rwa [e] at h1
/-- Elements in rows of the call's own, each in a block for itself. -/
structure OwnV (n₀ : Nat) (W : World) (v : Value) (vals : List Value) (es : List (List ByteArray)) : Prop where
  len : vals.length = es.length
  row : W.ownsRow n₀ 141 1 v es.length vals
  parts : ∀ (i : Nat) (u : Value) (e : List ByteArray), vals[i]? = some u → es[i]? = some e → W.ownsRow n₀ 9 1 u e.length (e.map Value.string) ∧ 0 < e.length
  apart : ∀ (i j : Nat) (u x : Value), i < j → vals[i]? = some u → vals[j]? = some x → u.ownBlock ≠ x.ownBlock
theorem row_keep {n₀ t k : Nat} {W W' : World} {v : Value} {xs : List Value} (h : W.ownsRow n₀ t 1 v k xs) (hb : Below W.heap.size W W') : W'.ownsRow n₀ t 1 v k xs := by
  refine h.kept (show W.grownBy W' none from ⟨hb.os, hb.tape, hb.output, hb.size, fun k hk _ => hb.block k hk⟩) ?_
  cases v.ownBlock with
  | none => exact .inl rfl
  | some k => exact .inr (by simp)
theorem OwnV.below {n₀ : Nat} {W W' : World} {v : Value} {vals : List Value} {es : List (List ByteArray)} (h : OwnV n₀ W v vals es) (hb : Below W.heap.size W W') : OwnV n₀ W' v vals es :=
  ⟨h.len, row_keep h.row hb, fun i u e hu he => ⟨row_keep (h.parts i u e hu he).1 hb, (h.parts i u e hu he).2⟩, h.apart⟩
theorem OwnV.set {n₀ B : Nat} {W : World} {v : Value} {vals : List Value} {es : List (List ByteArray)} (h : OwnV n₀ W v vals es) (hB : B < n₀) (i : Nat) (x : Value) : OwnV n₀ (W.setCell ⟨B, i, none⟩ x) v vals es := by
  have k : ∀ {t k : Nat} {u : Value} {xs : List Value}, W.ownsRow n₀ t 1 u k xs → (W.setCell ⟨B, i, none⟩ x).ownsRow n₀ t 1 u k xs := fun hr => hr.kept (show W.grownBy (W.setCell ⟨B, i, none⟩ x) (some B) from ⟨rfl, rfl, rfl, by simp, fun k _ hk => Below.heap_setCell W ⟨B, i, none⟩ x k (fun e => hk (by rw [e]))⟩) (.inr (row_lt hr hB).symm)
  exact ⟨h.len, k h.row, fun i u e hu he => ⟨k (h.parts i u e hu he).1, (h.parts i u e hu he).2⟩, h.apart⟩
theorem OwnV.mono {n₀ n₁ : Nat} {W : World} {v : Value} {vals : List Value} {es : List (List ByteArray)} (h : OwnV n₁ W v vals es) (hn : n₀ ≤ n₁) : OwnV n₀ W v vals es :=
  ⟨h.len, row_mono h.row hn, fun i u e hu he => ⟨row_mono (h.parts i u e hu he).1 hn, (h.parts i u e hu he).2⟩, h.apart⟩
theorem row_own {n₀ t k : Nat} {W : World} {v : Value} {xs : List Value} (h : W.ownsRow n₀ t 1 v k xs) (hk : 0 < k) : ∃ g, v.ownBlock = some g ∧ g < W.heap.size ∧ n₀ ≤ g := by
  rcases h.2 with ⟨rfl, h0⟩ | ⟨g, cap, cur, rfl, hg, hgb, _⟩
  · omega
  · exact ⟨g, rfl, (Array.getElem?_eq_some_iff.1 hgb).1, hg⟩
/-- One element more. -/
theorem OwnV.push {n₀ : Nat} {W W2 W3 w4 : World} {v v' u : Value} {vals : List Value} {es : List (List ByteArray)} {e : List ByteArray} (h : OwnV n₀ W v vals es) (hn : n₀ ≤ W.heap.size) (hb2 : Below W.heap.size W W2) (hu : W2.ownsRow W.heap.size 9 1 u e.length (e.map Value.string)) (he : 0 < e.length) (hb3 : Below W2.heap.size W2 W3)
    (hown : w4.ownsRow n₀ 141 1 v' (es.length + 1) (vals ++ [u])) (hg : W3.grownBy w4 v.ownBlock) : OwnV n₀ w4 v' (vals ++ [u]) (es ++ [e]) := by
  have h3 := (h.below hb2).below hb3
  have u3 := row_keep hu hb3
  refine ⟨by simp [h.len], by simpa using hown, fun i x y hx hy => ?_, fun i j x y hij hx hy => ?_⟩
  · rcases Nat.lt_or_ge i vals.length with q | q
    · rw [List.getElem?_append_left q] at hx
      rw [List.getElem?_append_left (by rw [← h.len]; exact q)] at hy
      obtain ⟨p1, p2⟩ := h3.parts i x y hx hy
      exact ⟨p1.kept hg (rows_apart p1 h3.row (by decide)), p2⟩
    · have hi : i = vals.length := by
        have := (List.getElem?_eq_some_iff.1 hx).1
        simp at this
        omega
      subst hi
      rw [List.getElem?_append_right (Nat.le_refl _)] at hx
      rw [h.len, List.getElem?_append_right (Nat.le_refl _)] at hy
      simp at hx hy
      subst hx hy
      exact ⟨(row_mono u3 hn).kept hg (rows_apart u3 h3.row (by decide)), he⟩
  · rcases Nat.lt_or_ge j vals.length with q | q
    · rw [List.getElem?_append_left q] at hy
      rw [List.getElem?_append_left (by omega)] at hx
      exact h.apart i j x y hij hx hy
    · have hj : j = vals.length := by
        have := (List.getElem?_eq_some_iff.1 hy).1
        simp at this
        omega
      subst hj
      rw [List.getElem?_append_left hij] at hx
      rw [List.getElem?_append_right (Nat.le_refl _)] at hy
      simp at hy
      subst hy
      have hie : i < es.length := by rw [← h.len]; exact hij
      obtain ⟨p1, p2⟩ := h.parts i x _ hx (List.getElem?_eq_getElem hie)
      obtain ⟨g1, e1, l1, _⟩ := row_own p1 p2
      obtain ⟨g2, e2, _, l2⟩ := row_own hu he
      rw [e1, e2]
      simp
      omega
/-- Bounds of elements that were read. -/
def BdX (es : List (List ByteArray)) : Prop := ∀ e ∈ es, e.length ≤ 4 ∧ ∀ t ∈ e, t.size ≤ 40
theorem OwnV.rowE {n₀ : Nat} {W : World} {v : Value} {vals : List Value} {es : List (List ByteArray)} (h : OwnV n₀ W v vals es) (hX : BdX es) (hl : es.length ≤ 1048576) : RowE W v es := by
  refine ⟨?_, by omega⟩
  rcases h.row.2 with ⟨rfl, h0⟩ | ⟨g, cap, cur, rfl, _⟩
  · exact ⟨none, 0, by rw [h0], fun hn => absurd (List.length_eq_zero_iff.1 h0) hn⟩
  · refine ⟨_, _, rfl, fun _ => ⟨g, 0, rfl, fun i e hi => ?_⟩⟩
    have hlt := (List.getElem?_eq_some_iff.1 hi).1
    have hv : vals[i]? = some (vals[i]'(by rw [h.len]; exact hlt)) := List.getElem?_eq_getElem _
    have h1 := h.row.cells (g := g) rfl i _ hv
    have e1 : (⟨g, 0, none⟩ : Addr).add i = ⟨g, 0 + i, none⟩ := by unfold Addr.add; split <;> simp_all
    rw [e1] at h1
    have hx := hX e (List.mem_of_getElem? hi)
    exact ⟨_, h1, own_rowS (h.parts i _ e hv hi).1 rfl (by omega) hx.2⟩
theorem infoElm : (Tryz.prog.info? 141).map (fun i => (i.zero, i.size, i.bytes)) = some (some (.agg #[.slice none 0 0]), 1, 24) := by kernel_rfl
theorem row_slice {n₀ t k : Nat} {W : World} {v : Value} {xs : List Value} (h : W.ownsRow n₀ t 1 v k xs) : ∃ A N C, v = .slice A N C := by
  rcases h.2 with ⟨rfl, _⟩ | ⟨g, cap, cur, rfl, _⟩
  · exact ⟨_, _, _, rfl⟩
  · exact ⟨_, _, _, rfl⟩
theorem row2_ne {W : World} {n₁ e k : Nat} {v : Value} {xs : List Value} (h : W.ownsRow n₁ e 2 v k xs) {b : Nat} (hb : b < n₁) : v.ownBlock ≠ some b := by
  intro e1
  rcases h.2 with ⟨rfl, _⟩ | ⟨g, cap, cur, rfl, hg, _⟩
  · simp [Value.ownBlock] at e1
  · have : g = b := by simpa [Value.ownBlock] using e1
    omega
theorem row2_below {n₀ t k : Nat} {W W' : World} {v : Value} {xs : List Value} (h : W.ownsRow n₀ t 2 v k xs) (hb : Below W.heap.size W W') : W'.ownsRow n₀ t 2 v k xs := by
  refine h.kept (show W.grownBy W' none from ⟨hb.os, hb.tape, hb.output, hb.size, fun k hk _ => hb.block k hk⟩) ?_
  cases v.ownBlock with
  | none => exact .inl rfl
  | some k => exact .inr (by simp)
theorem row_same {t z n₀ k : Nat} {W W' : World} {v : Value} {xs : List Value} (h : W.ownsRow n₀ t z v k xs) (hs : ∀ g, v.ownBlock = some g → W'.heap[g]? = W.heap[g]?) : W'.ownsRow n₀ t z v k xs := by
  refine ⟨h.1, ?_⟩
  rcases h.2 with hn | ⟨g, cap, cur, rfl, hb, hgg, rest⟩
  · exact .inl hn
  · exact .inr ⟨g, cap, cur, rfl, hb, (hs g rfl).trans hgg, rest⟩
theorem row_at {t z n₀ k g : Nat} {W : World} {v : Value} {xs : List Value} (h : W.ownsRow n₀ t z v k xs) (hg : v.ownBlock = some g) : n₀ ≤ g ∧ g < W.heap.size ∧ ∃ c, W.heap[g]? = some (.cells c t (0, 0)) := by
  rcases h.2 with ⟨rfl, _⟩ | ⟨g1, cap, cur, rfl, hb, hg1, _⟩
  · simp [Value.ownBlock] at hg
  · have a1 : g1 = g := by simpa [Value.ownBlock] using hg
    subst a1
    exact ⟨hb, (Array.getElem?_eq_some_iff.1 hg1).1, cur, hg1⟩
theorem OwnV.same {n₀ : Nat} {W W' : World} {v : Value} {vals : List Value} {es : List (List ByteArray)} (h : OwnV n₀ W v vals es) (hs : ∀ g, n₀ ≤ g → g < W.heap.size → (∃ c t, W.heap[g]? = some (.cells c t (0, 0)) ∧ t ≠ 90) → W'.heap[g]? = W.heap[g]?) : OwnV n₀ W' v vals es := by
  refine ⟨h.len, row_same h.row fun g hg => ?_, fun i u e hu he => ⟨row_same (h.parts i u e hu he).1 fun g hg => ?_, (h.parts i u e hu he).2⟩, h.apart⟩
  · obtain ⟨h1, h2, c, h3⟩ := row_at h.row hg
    exact hs g h1 h2 ⟨c, _, h3, by decide⟩
  · obtain ⟨h1, h2, c, h3⟩ := row_at (h.parts i u e hu he).1 hg
    exact hs g h1 h2 ⟨c, _, h3, by decide⟩
theorem OwnV.grow2 {n₀ n1 k : Nat} {W W' : World} {v lv : Value} {vals xs : List Value} {es : List (List ByteArray)} (h : OwnV n₀ W v vals es) (hg : W.grownBy W' lv.ownBlock) (hl : W.ownsRow n1 90 2 lv k xs) : OwnV n₀ W' v vals es :=
  h.same fun g _ hlt ⟨c, t, hc, ht⟩ => hg.block g hlt (fun e => by
    obtain ⟨_, _, c2, h2⟩ := row_at hl e.symm
    rw [hc] at h2
    simp at h2
    exact ht h2.2)
theorem OwnV.base {n₀ : Nat} {W : World} {v : Value} {vals : List Value} {es : List (List ByteArray)} (h : OwnV n₀ W v vals es) : ∀ x ∈ v :: vals, ∀ b, x.ownBlock = some b → n₀ ≤ b ∧ b < W.heap.size := by
  intro x hx b hb
  rcases List.mem_cons.1 hx with rfl | hx
  · obtain ⟨h1, h2, _⟩ := row_at h.row hb
    exact ⟨h1, h2⟩
  · obtain ⟨i, hi⟩ := List.getElem?_of_mem hx
    have hlt := (List.getElem?_eq_some_iff.1 hi).1
    rw [h.len] at hlt
    obtain ⟨h1, h2, _⟩ := row_at (h.parts i x _ hi (List.getElem?_eq_getElem hlt)).1 hb
    exact ⟨h1, h2⟩
/-- The cells of a list of segments. -/
def cellsL (gs : List Seg) (ps : List (Value × List Value)) : List Value := (gs.zip ps).flatMap fun x => [.string x.1.1, x.2.1]
theorem cellsL_get {gs : List Seg} {ps : List (Value × List Value)} {i : Nat} {g : Seg} {p : Value × List Value} (hg : gs[i]? = some g) (hp : ps[i]? = some p) : (cellsL gs ps)[i * 2]? = some (.string g.1) ∧ (cellsL gs ps)[i * 2 + 1]? = some p.1 := by
  induction gs generalizing ps i with
  | nil => simp at hg
  | cons g1 gs ih =>
    cases ps with
    | nil => simp at hp
    | cons p1 ps =>
      have e : cellsL (g1 :: gs) (p1 :: ps) = .string g1.1 :: p1.1 :: cellsL gs ps := by simp [cellsL]
      rw [e]
      cases i with
      | zero =>
        simp at hg hp
        subst hg hp
        simp
      | succ i =>
        simp at hg hp
        have := ih hg hp
        rw [show (i + 1) * 2 = i * 2 + 1 + 1 by omega]
        simpa using this
/-- Segments in rows of the call's own, no two of which share a block. -/
structure OwnL (n₀ : Nat) (W : World) (v : Value) (ps : List (Value × List Value)) (gs : List Seg) : Prop where
  len : ps.length = gs.length
  row : W.ownsRow n₀ 90 2 v gs.length (cellsL gs ps)
  segs : ∀ (i : Nat) (p : Value × List Value) (g : Seg), ps[i]? = some p → gs[i]? = some g → OwnV n₀ W p.1 p.2 g.2
  sep : ∀ (i j : Nat) (p q : Value × List Value), i < j → ps[i]? = some p → ps[j]? = some q → ∀ x ∈ p.1 :: p.2, ∀ y ∈ q.1 :: q.2, ∀ b, x.ownBlock = some b → y.ownBlock ≠ some b
theorem OwnL.nil (n₀ : Nat) (W : World) : OwnL n₀ W (.slice none 0 0) [] [] := ⟨rfl, World.ownsRow_nil _ _ _ _, fun i p g h => by simp at h, fun i j p q _ h => by simp at h⟩
theorem OwnL.below {n₀ : Nat} {W W' : World} {v : Value} {ps : List (Value × List Value)} {gs : List Seg} (h : OwnL n₀ W v ps gs) (hb : Below W.heap.size W W') : OwnL n₀ W' v ps gs :=
  ⟨h.len, row2_below h.row hb, fun i p g hp hg => (h.segs i p g hp hg).below hb, h.sep⟩
theorem OwnL.mono {n₀ n₁ : Nat} {W : World} {v : Value} {ps : List (Value × List Value)} {gs : List Seg} (h : OwnL n₁ W v ps gs) (hn : n₀ ≤ n₁) : OwnL n₀ W v ps gs := by
  refine ⟨h.len, ⟨h.row.1, ?_⟩, fun i p g hp hg => (h.segs i p g hp hg).mono hn, h.sep⟩
  rcases h.row.2 with h1 | ⟨g, cap, cur, e, hb, rest⟩
  · exact .inl h1
  · exact .inr ⟨g, cap, cur, e, by omega, rest⟩
theorem OwnL.keepB {n₀ : Nat} {W W' : World} {v : Value} {ps : List (Value × List Value)} {gs : List Seg} (h : OwnL n₀ W v ps gs) (hs : ∀ g, n₀ ≤ g → g < W.heap.size → W'.heap[g]? = W.heap[g]?) : OwnL n₀ W' v ps gs :=
  ⟨h.len, row_same h.row fun g hg => hs g (row_at h.row hg).1 (row_at h.row hg).2.1, fun i p g hp hg => (h.segs i p g hp hg).same fun k h1 h2 _ => hs k h1 h2, h.sep⟩
theorem OwnL.set {n₀ B : Nat} {W : World} {v : Value} {ps : List (Value × List Value)} {gs : List Seg} (h : OwnL n₀ W v ps gs) (hB : B < n₀) (i : Nat) (x : Value) : OwnL n₀ (W.setCell ⟨B, i, none⟩ x) v ps gs :=
  h.keepB fun g hg _ => Below.heap_setCell W ⟨B, i, none⟩ x g (show g ≠ B by omega)
theorem OwnL.slice {n₀ : Nat} {W : World} {v : Value} {ps : List (Value × List Value)} {gs : List Seg} (h : OwnL n₀ W v ps gs) : ∃ A C, v = .slice A gs.length C := by
  rcases h.row.2 with ⟨rfl, h0⟩ | ⟨g, cap, cur, rfl, _⟩
  · exact ⟨none, 0, by rw [h0]⟩
  · exact ⟨_, _, rfl⟩
end Go.Proofs.YtkaolpnbddjdpaaGreatDoor
namespace Go.Proofs.YtkaolpnbddjdpaaGreatDoor
open Go.ChangeShapes Go.WideShapes Go.ChangeAt Go.RowKit
/-- What was a block of cells of another type is as it was. -/
def SameT (t : Nat) (W W' : World) : Prop := ∀ (g : Nat) (c : Array Value) (t' : Nat), t' ≠ t → W.heap[g]? = some (.cells c t') → W'.heap[g]? = some (.cells c t')
theorem SameT.refl (t : Nat) (W : World) : SameT t W W := fun _ _ _ _ h => h
theorem SameT.trans {t : Nat} {W W1 W2 : World} (h : SameT t W W1) (h' : SameT t W1 W2) : SameT t W W2 := fun g c t' ht h0 => h' g c t' ht (h g c t' ht h0)
theorem SameT.of_below {t : Nat} {W W' : World} (h : Below W.heap.size W W') : SameT t W W' := fun g _ _ _ h0 => (h.block g (Array.getElem?_eq_some_iff.1 h0).1).trans h0
theorem SameT.of_grown {t n s k : Nat} {W W' : World} {v : Value} {xs : List Value} (hr : W.ownsRow n t s v k xs) (hg : W.grownBy W' v.ownBlock) : SameT t W W' := fun g c t' ht h0 => by
  refine (hg.block g (Array.getElem?_eq_some_iff.1 h0).1 fun e => ?_).trans h0
  rcases hr.2 with ⟨rfl, _⟩ | ⟨b, cap, cur, rfl, _, hh, _⟩
  · simp [Value.ownBlock] at e
  · simp only [Value.ownBlock, Option.some.injEq] at e
    rw [← e, h0] at hh
    simp only [Option.some.injEq, Obj.cells.injEq] at hh
    exact ht hh.2.1
theorem SameT.of_set {t b : Nat} {W : World} {c0 : Array Value} (hb : W.heap[b]? = some (.cells c0 t)) (o : Nat) (u : Value) : SameT t W (W.setCell ⟨b, o, none⟩ u) := fun g c t' ht h0 => by
  refine (heap_setCell_other _ _ g _ fun e => ?_).trans h0
  rw [e, hb] at h0
  simp only [Option.some.injEq, Obj.cells.injEq] at h0
  exact ht h0.2.1.symm
theorem row_sameT {n t t' s k : Nat} {W W' : World} {v : Value} {xs : List Value} (h : W.ownsRow n t' s v k xs) (hs : SameT t W W') (ht : t' ≠ t) : W'.ownsRow n t' s v k xs := by
  obtain ⟨h1, h2⟩ := h
  refine ⟨h1, ?_⟩
  rcases h2 with h2 | ⟨b, cap, cur, e, hb, hh, r⟩
  · exact .inl h2
  · exact .inr ⟨b, cap, cur, e, hb, hs b cur t' ht hh, r⟩
theorem OwnV.sameT {n t : Nat} {W W' : World} {v : Value} {vals : List Value} {es : List (List ByteArray)} (h : OwnV n W v vals es) (hs : SameT t W W') (h1 : 141 ≠ t) (h2 : 9 ≠ t) : OwnV n W' v vals es :=
  ⟨h.len, row_sameT h.row hs h1, fun i u e hu he => ⟨row_sameT (h.parts i u e hu he).1 hs h2, (h.parts i u e hu he).2⟩, h.apart⟩
theorem OwnL.sameT {n t : Nat} {W W' : World} {v : Value} {ps : List (Value × List Value)} {gs : List Seg} (h : OwnL n W v ps gs) (hs : SameT t W W') (h0 : 90 ≠ t) (h1 : 141 ≠ t) (h2 : 9 ≠ t) : OwnL n W' v ps gs :=
  ⟨h.len, row_sameT h.row hs h0, fun i p g hp hg => (h.segs i p g hp hg).sameT hs h1 h2, h.sep⟩
/-- A message, its body's value, what stands in the body's cells. -/
abbrev MsgV := Msg × Value × List (Value × List Value)
/-- A bundle, its messages' value, its messages. -/
abbrev BunV := Bun × Value × List MsgV
def clMv (x : MsgV) : List Value := [.int .i64 x.1.num, x.2.1]
def clBv (x : BunV) : List Value := [.int .i64 x.1.kind, .int .i64 x.1.num, x.2.1]
/-- Messages in a row of the call's own, their bodies in rows of their own. -/
structure OwnM (N : Nat) (W : World) (mv : Value) (ms : List MsgV) : Prop where
  row : W.ownsRow N 98 2 mv ms.length (ms.flatMap clMv)
  body : ∀ x ∈ ms, OwnL N W x.2.1 x.2.2 x.1.body
theorem OwnM.nil (N : Nat) (W : World) : OwnM N W (.slice none 0 0) [] := ⟨World.ownsRow_nil _ _ _ _, fun x h => by cases h⟩
theorem OwnM.below {N : Nat} {W W' : World} {mv : Value} {ms : List MsgV} (h : OwnM N W mv ms) (hb : Below W.heap.size W W') : OwnM N W' mv ms :=
  ⟨row_sameT h.row (SameT.of_below (t := 95) hb) (by decide), fun x hx => (h.body x hx).below hb⟩
theorem OwnM.sameT {N : Nat} {W W' : World} {mv : Value} {ms : List MsgV} (h : OwnM N W mv ms) (hs : SameT 95 W W') : OwnM N W' mv ms :=
  ⟨row_sameT h.row hs (by decide), fun x hx => (h.body x hx).sameT hs (by decide) (by decide) (by decide)⟩
/-- Where another row of messages grows. -/
theorem OwnM.other {N n k : Nat} {W W' : World} {mv mv' : Value} {ms : List MsgV} {xs : List Value} (h : OwnM N W mv ms) (hr : W.ownsRow n 98 2 mv' k xs) (hg : W.grownBy W' mv'.ownBlock) (hne : ∀ b, mv.ownBlock = some b → mv'.ownBlock ≠ some b) : OwnM N W' mv ms := by
  refine ⟨h.row.kept hg ?_, fun x hx => (h.body x hx).sameT (SameT.of_grown hr hg) (by decide) (by decide) (by decide)⟩
  cases hv : mv.ownBlock with
  | none => exact .inl rfl
  | some j =>
    refine .inr ?_
    exact fun e => hne j hv e.symm
/-- Bundles in a row of the call's own, their messages in rows of their own, no two in one block. -/
structure OwnBs (N : Nat) (W : World) (v : Value) (bs : List BunV) : Prop where
  row : W.ownsRow N 95 3 v bs.length (bs.flatMap clBv)
  msgs : ∀ x ∈ bs, OwnM N W x.2.1 x.2.2 ∧ x.2.2.map (·.1) = x.1.msgs
  sep : ∀ (i j : Nat) (x y : BunV), i < j → bs[i]? = some x → bs[j]? = some y → ∀ b, x.2.1.ownBlock = some b → y.2.1.ownBlock ≠ some b
theorem OwnBs.nil (N : Nat) (W : World) : OwnBs N W (.slice none 0 0) [] := ⟨World.ownsRow_nil _ _ _ _, (fun x h => by cases h), fun i j x y _ h => by simp at h⟩
theorem OwnBs.below {N : Nat} {W W' : World} {v : Value} {bs : List BunV} (h : OwnBs N W v bs) (hb : Below W.heap.size W W') : OwnBs N W' v bs :=
  ⟨row_sameT h.row (SameT.of_below (t := 98) hb) (by decide), fun x hx => ⟨(h.msgs x hx).1.below hb, (h.msgs x hx).2⟩, h.sep⟩
/-- One bundle more, without messages. -/
theorem OwnBs.add {N : Nat} {W W' : World} {v v' : Value} {bs : List BunV} {k num : Int} (h : OwnBs N W v bs) (hr : W'.ownsRow N 95 3 v' (bs.length + 1) (bs.flatMap clBv ++ [.int .i64 k, .int .i64 num, .slice none 0 0])) (hg : W.grownBy W' v.ownBlock) : OwnBs N W' v' (bs ++ [(⟨k, num, []⟩, .slice none 0 0, [])]) := by
  have hs := SameT.of_grown h.row hg
  refine ⟨by simpa [clBv] using hr, fun x hx => ?_, fun i j x y hij hx hy b hb => ?_⟩
  · rcases List.mem_append.1 hx with hx | hx
    · exact ⟨(h.msgs x hx).1.sameT hs, (h.msgs x hx).2⟩
    · rw [List.mem_singleton.1 hx]
      exact ⟨OwnM.nil _ _, rfl⟩
  · rcases Nat.lt_or_ge j bs.length with hj | hj
    · rw [List.getElem?_append_left hj] at hy
      rw [List.getElem?_append_left (by omega)] at hx
      exact h.sep i j x y hij hx hy b hb
    · have hy1 := (List.getElem?_eq_some_iff.1 hy).1
      rw [List.length_append, List.length_singleton] at hy1
      obtain rfl : j = bs.length := by omega
      simp at hy
      rw [← hy]
      simp [Value.ownBlock]
theorem clBv_len (bs : List BunV) : (bs.flatMap clBv).length = bs.length * 3 := by
  induction bs with
  | nil => rfl
  | cons b r ih =>
    have e : (clBv b).length = 3 := rfl
    rw [List.flatMap_cons, List.length_append, ih, e, List.length_cons]
    omega
theorem clBv_set (pre : List BunV) (b : Bun) (mv mv' : Value) (ms ms' : List MsgV) (msgs : List Msg) : ((pre ++ [((b, mv, ms) : BunV)]).flatMap clBv).set (pre.length * 3 + 2) mv' = (pre ++ [((⟨b.kind, b.num, msgs⟩, mv', ms') : BunV)]).flatMap clBv := by
  rw [List.flatMap_append, List.flatMap_append, List.set_append, if_neg (by rw [clBv_len]; omega), clBv_len]
  simp [clBv]
/-- A message more in the last bundle. -/
theorem OwnBs.addM {N g gg C cap : Nat} {W w' : World} {pre : List BunV} {b : Bun} {mv : Value} {ms : List MsgV} {m : Msg} {gv : Value} {ps : List (Value × List Value)} (h : OwnBs N W (.slice (some ⟨g, 0, none⟩) (pre.length + 1) C) (pre ++ [(b, mv, ms)]))
    (hG : OwnL N W gv ps m.body) (hr : w'.ownsRow N 98 2 (.slice (some ⟨gg, 0, none⟩) (ms.length + 1) cap) (ms.length + 1) (ms.flatMap clMv ++ [.int .i64 m.num, gv]))
    (hg : W.grownBy w' mv.ownBlock) (hor : mv.ownBlock = some gg ∨ gg = W.heap.size) :
    OwnBs N (w'.setCell ⟨g, pre.length * 3 + 2, none⟩ (.slice (some ⟨gg, 0, none⟩) (ms.length + 1) cap)) (.slice (some ⟨g, 0, none⟩) (pre.length + 1) C) (pre ++ [(⟨b.kind, b.num, b.msgs ++ [m]⟩, .slice (some ⟨gg, 0, none⟩) (ms.length + 1) cap, ms ++ [(m, gv, ps)])]) ∧ w'.cell? ⟨g, pre.length * 3 + 2, none⟩ = some mv ∧ w'.frozen? ⟨g, pre.length * 3 + 2, none⟩ = false := by
  have hlast : (pre ++ [((b, mv, ms) : BunV)])[pre.length]? = some (b, mv, ms) := by simp
  have hM := (h.msgs (b, mv, ms) (List.mem_append_right _ (List.mem_singleton.2 rfl))).1
  have hMs := (h.msgs (b, mv, ms) (List.mem_append_right _ (List.mem_singleton.2 rfl))).2
  have hsM : SameT 98 W w' := SameT.of_grown hM.row hg
  have hrow : w'.ownsRow N 95 3 (.slice (some ⟨g, 0, none⟩) (pre.length + 1) C) (pre ++ [((b, mv, ms) : BunV)]).length ((pre ++ [((b, mv, ms) : BunV)]).flatMap clBv) := row_sameT h.row hsM (by decide)
  have hlen : (pre ++ [((b, mv, ms) : BunV)]).length = pre.length + 1 := by simp
  have hblk : ∃ cur, w'.heap[g]? = some (.cells cur 95) := by
    rcases hrow.2 with ⟨e, _⟩ | ⟨b', cap', cur, e, _, hh, _⟩
    · cases e
    · simp only [Value.slice.injEq, Option.some.injEq, Addr.mk.injEq] at e
      obtain ⟨⟨rfl, _⟩, _⟩ := e
      exact ⟨cur, hh⟩
  obtain ⟨cur, hcur⟩ := hblk
  have hcell : w'.cell? ⟨g, pre.length * 3 + 2, none⟩ = some mv := by
    rcases hrow.2 with ⟨e, _⟩ | ⟨b', cap', cur', e, _, hh, hc, hm, hs, ht⟩
    · cases e
    · simp only [Value.slice.injEq, Option.some.injEq, Addr.mk.injEq] at e
      obtain ⟨⟨rfl, _⟩, _⟩ := e
      have hx : ((pre ++ [((b, mv, ms) : BunV)]).flatMap clBv)[pre.length * 3 + 2]? = some mv := by
        rw [List.flatMap_append, List.getElem?_append_right (by rw [clBv_len]; omega), clBv_len]
        simp [clBv]
      rw [← ht, List.getElem?_take_of_lt (by rw [hlen]; omega), Array.getElem?_toList] at hx
      simp only [World.cell?, hh]
      exact hx
  have hset : SameT 95 w' (w'.setCell ⟨g, pre.length * 3 + 2, none⟩ (.slice (some ⟨gg, 0, none⟩) (ms.length + 1) cap)) := SameT.of_set hcur _ _
  refine ⟨⟨?_, fun x hx => ?_, fun i j x y hij hx hy bb hb => ?_⟩, hcell, by simp [World.frozen?, hcur]⟩
  · have hl2 : (pre ++ [((⟨b.kind, b.num, b.msgs ++ [m]⟩, .slice (some ⟨gg, 0, none⟩) (ms.length + 1) cap, ms ++ [(m, gv, ps)]) : BunV)]).length = pre.length + 1 := by simp
    rw [hl2, ← clBv_set pre b mv _ ms (ms ++ [(m, gv, ps)]) (b.msgs ++ [m])]
    rw [hlen] at hrow
    exact (World.ownsRow.stored hrow _ _).1
  · rcases List.mem_append.1 hx with hx | hx
    · have hp := h.msgs x (List.mem_append_left _ hx)
      obtain ⟨i, hi⟩ := List.mem_iff_getElem?.1 hx
      have hil := (List.getElem?_eq_some_iff.1 hi).1
      have hsep := h.sep i pre.length x (b, mv, ms) hil (by rw [List.getElem?_append_left hil]; exact hi) hlast
      exact ⟨(hp.1.other hM.row hg hsep).sameT hset, hp.2⟩
    · rw [List.mem_singleton.1 hx]
      refine ⟨⟨?_, fun y hy => ?_⟩, by simp [hMs]⟩
      · refine row_sameT ?_ hset (by decide)
        simpa [clMv] using hr
      · rcases List.mem_append.1 hy with hy | hy
        · exact ((hM.body y hy).sameT hsM (by decide) (by decide) (by decide)).sameT hset (by decide) (by decide) (by decide)
        · rw [List.mem_singleton.1 hy]
          exact (hG.sameT hsM (by decide) (by decide) (by decide)).sameT hset (by decide) (by decide) (by decide)
  · rcases Nat.lt_or_ge j pre.length with hj | hj
    · rw [List.getElem?_append_left hj] at hy
      rw [List.getElem?_append_left (by omega)] at hx
      exact h.sep i j x y hij (by rw [List.getElem?_append_left (by omega)]; exact hx) (by rw [List.getElem?_append_left hj]; exact hy) bb hb
    · have hy1 := (List.getElem?_eq_some_iff.1 hy).1
      rw [List.length_append, List.length_singleton] at hy1
      obtain rfl : j = pre.length := by omega
      rw [List.getElem?_append_left hij] at hx
      simp at hy
      rw [← hy]
      simp only [Value.ownBlock, ne_eq, Option.some.injEq]
      intro e
      have hsep := h.sep i pre.length x (b, mv, ms) hij (by rw [List.getElem?_append_left hij]; exact hx) hlast bb hb
      rcases hor with ho | ho
      · rw [ho] at hsep
        exact hsep (by rw [e])
      · have hxr := (h.msgs x (List.mem_append_left _ (List.mem_of_getElem? hx))).1.row
        have := (hxr.lt bb hb).2
        omega
end Go.Proofs.YtkaolpnbddjdpaaGreatDoor
namespace Go.Proofs.YtkaolpnbddjdpaaGreatDoor
open Go.ChangeShapes Go.WideShapes Go.ChangeAt Go.RowKit
/-- A line. -/
structure Ln where
  no : Int
  item : ByteArray
  qty : Int
  money : Int
  note : ByteArray
def Ln.val (l : Ln) : Value := .agg #[.int .i64 l.no, .string l.item, .int .i64 l.qty, .int .i64 l.money, .string l.note]
/-- A line's five cells. -/
def LnAt (W : World) (b o : Nat) (l : Ln) : Prop :=
  W.cell? ⟨b, o, none⟩ = some (.int .i64 l.no) ∧ W.cell? ⟨b, o + 1, none⟩ = some (.string l.item) ∧ W.cell? ⟨b, o + 2, none⟩ = some (.int .i64 l.qty) ∧ W.cell? ⟨b, o + 3, none⟩ = some (.int .i64 l.money) ∧ W.cell? ⟨b, o + 4, none⟩ = some (.string l.note)
theorem LnAt.below {W W' : World} {b o : Nat} {l : Ln} (h : LnAt W b o l) (hb : Below W.heap.size W W') : LnAt W' b o l := by
  obtain ⟨h0, h1, h2, h3, h4⟩ := h
  exact ⟨(hb.cell (cell_lt h0)).trans h0, (hb.cell (cell_lt h1)).trans h1, (hb.cell (cell_lt h2)).trans h2, (hb.cell (cell_lt h3)).trans h3, (hb.cell (cell_lt h4)).trans h4⟩
/-- A list of lines. -/
structure RowL (W : World) (v : Value) (ls : List Ln) : Prop where
  shape : ∃ a cap, v = .slice a ls.length cap ∧ (ls ≠ [] → ∃ b o, a = some ⟨b, o, none⟩ ∧ ∀ (i : Nat) (l : Ln), ls[i]? = some l → LnAt W b (o + i * 5) l)
  len : ls.length ≤ 9223372036854775807
  sizes : ∀ (i : Nat) (l : Ln), ls[i]? = some l → l.item.size ≤ 9223372036854775807 ∧ l.note.size ≤ 9223372036854775807
theorem RowL.below {W W' : World} {v : Value} {ls : List Ln} (h : RowL W v ls) (hb : Below W.heap.size W W') : RowL W' v ls := by
  obtain ⟨a, cap, e, hc⟩ := h.shape
  refine ⟨⟨a, cap, e, fun hn => ?_⟩, h.len, h.sizes⟩
  obtain ⟨b, o, ea, hcell⟩ := hc hn
  exact ⟨b, o, ea, fun i l hi => (hcell i l hi).below hb⟩
theorem RowL.at {W : World} {v : Value} {ls : List Ln} (h : RowL W v ls) {k : Nat} (hk : k < ls.length) : ∃ b o cap l, v = .slice (some ⟨b, o, none⟩) ls.length cap ∧ ls[k]? = some l ∧ LnAt W b (o + k * 5) l ∧ l.item.size ≤ 9223372036854775807 ∧ l.note.size ≤ 9223372036854775807 := by
  obtain ⟨a, cap, e, hc⟩ := h.shape
  obtain ⟨b, o, rfl, hcell⟩ := hc (by intro g; rw [g] at hk; simp at hk)
  have hs : ls[k]? = some ls[k] := List.getElem?_eq_getElem hk
  exact ⟨b, o, cap, _, e, hs, hcell k _ hs, h.sizes k _ hs⟩
theorem RowL.val {W : World} {v : Value} {ls : List Ln} (h : RowL W v ls) : ∃ a cap, v = .slice a ls.length cap := by
  obtain ⟨a, cap, e, _⟩ := h.shape
  exact ⟨a, cap, e⟩
def BdL (n : Nat) (ls : List Ln) : Prop := ls.length ≤ n ∧ ∀ (i : Nat) (l : Ln), ls[i]? = some l → l.item.size ≤ n ∧ l.note.size ≤ n
theorem BdL.mono {m n : Nat} {ls : List Ln} (h : BdL m ls) (hmn : m ≤ n) : BdL n ls := ⟨Nat.le_trans h.1 hmn, fun i l hi => ⟨Nat.le_trans (h.2 i l hi).1 hmn, Nat.le_trans (h.2 i l hi).2 hmn⟩⟩
/-- A paper. -/
structure Pap where
  kind : Int
  ref : ByteArray
  other : ByteArray
  day : Int
  notes : List ByteArray
  lines : List Ln
/-- A paper's value, its lists behind it. -/
def Pap.val (p : Pap) (vn vl : Value) : Value := .agg #[.int .i64 p.kind, .string p.ref, .string p.other, .int .i64 p.day, vn, vl]
/-- The two lists of a paper. -/
structure PapR (W : World) (vn vl : Value) (p : Pap) : Prop where
  ns : RowS W vn p.notes
  ls : RowL W vl p.lines
  rz : p.ref.size ≤ 9223372036854775807
  oz : p.other.size ≤ 9223372036854775807
theorem PapR.below {W W' : World} {vn vl : Value} {p : Pap} (h : PapR W vn vl p) (hb : Below W.heap.size W W') : PapR W' vn vl p := ⟨h.ns.below hb, h.ls.below hb, h.rz, h.oz⟩
def BdP (n : Nat) (p : Pap) : Prop := p.ref.size ≤ n ∧ p.other.size ≤ n ∧ BdS n p.notes ∧ BdL n p.lines
end Go.Proofs.YtkaolpnbddjdpaaGreatDoor
namespace Go.Proofs.YtkaolpnbddjdpaaGreatDoor
open Go.ChangeShapes Go.WideShapes Go.ChangeAt Go.RowKit
/-- A paper's six cells, its lists behind them. -/
def PapAt (W : World) (b o : Nat) (vn vl : Value) (p : Pap) : Prop :=
  W.cell? ⟨b, o, none⟩ = some (.int .i64 p.kind) ∧ W.cell? ⟨b, o + 1, none⟩ = some (.string p.ref) ∧ W.cell? ⟨b, o + 2, none⟩ = some (.string p.other) ∧ W.cell? ⟨b, o + 3, none⟩ = some (.int .i64 p.day) ∧ W.cell? ⟨b, o + 4, none⟩ = some vn ∧ W.cell? ⟨b, o + 5, none⟩ = some vl
theorem PapAt.below {W W' : World} {b o : Nat} {vn vl : Value} {p : Pap} (h : PapAt W b o vn vl p) (hb : Below W.heap.size W W') : PapAt W' b o vn vl p := by
  obtain ⟨h0, h1, h2, h3, h4, h5⟩ := h
  exact ⟨(hb.cell (cell_lt h0)).trans h0, (hb.cell (cell_lt h1)).trans h1, (hb.cell (cell_lt h2)).trans h2, (hb.cell (cell_lt h3)).trans h3, (hb.cell (cell_lt h4)).trans h4, (hb.cell (cell_lt h5)).trans h5⟩
/-- A list of papers. -/
structure RowPs (W : World) (v : Value) (ps : List Pap) : Prop where
  shape : ∃ a cap, v = .slice a ps.length cap ∧ (ps ≠ [] → ∃ b o, a = some ⟨b, o, none⟩ ∧ ∀ (i : Nat) (p : Pap), ps[i]? = some p → ∃ vn vl, PapAt W b (o + i * 6) vn vl p ∧ PapR W vn vl p)
  len : ps.length ≤ 9223372036854775807
theorem RowPs.below {W W' : World} {v : Value} {ps : List Pap} (h : RowPs W v ps) (hb : Below W.heap.size W W') : RowPs W' v ps := by
  obtain ⟨a, cap, e, hc⟩ := h.shape
  refine ⟨⟨a, cap, e, fun hn => ?_⟩, h.len⟩
  obtain ⟨b, o, ea, hcell⟩ := hc hn
  refine ⟨b, o, ea, fun i p hi => ?_⟩
  obtain ⟨vn, vl, h1, h2⟩ := hcell i p hi
  exact ⟨vn, vl, h1.below hb, h2.below hb⟩
theorem RowPs.at {W : World} {v : Value} {ps : List Pap} (h : RowPs W v ps) {k : Nat} (hk : k < ps.length) : ∃ b o cap p vn vl, v = .slice (some ⟨b, o, none⟩) ps.length cap ∧ ps[k]? = some p ∧ PapAt W b (o + k * 6) vn vl p ∧ PapR W vn vl p := by
  obtain ⟨a, cap, e, hc⟩ := h.shape
  obtain ⟨b, o, rfl, hcell⟩ := hc (by intro g; rw [g] at hk; simp at hk)
  have hs : ps[k]? = some ps[k] := List.getElem?_eq_getElem hk
  obtain ⟨vn, vl, h1, h2⟩ := hcell k _ hs
  exact ⟨b, o, cap, _, vn, vl, e, hs, h1, h2⟩
theorem RowPs.val {W : World} {v : Value} {ps : List Pap} (h : RowPs W v ps) : ∃ a cap, v = .slice a ps.length cap := by
  obtain ⟨a, cap, e, _⟩ := h.shape
  exact ⟨a, cap, e⟩
theorem BdP.mono {m n : Nat} {p : Pap} (h : BdP m p) (hmn : m ≤ n) : BdP n p := ⟨Nat.le_trans h.1 hmn, Nat.le_trans h.2.1 hmn, ⟨Nat.le_trans h.2.2.1.1 hmn, fun i s hi => Nat.le_trans (h.2.2.1.2 i s hi) hmn⟩, h.2.2.2.mono hmn⟩
def BdPs (n : Nat) (ps : List Pap) : Prop := ps.length ≤ n ∧ ∀ (i : Nat) (p : Pap), ps[i]? = some p → BdP n p
theorem BdPs.mono {m n : Nat} {ps : List Pap} (h : BdPs m ps) (hmn : m ≤ n) : BdPs n ps := ⟨Nat.le_trans h.1 hmn, fun i p hi => (h.2 i p hi).mono hmn⟩
/-- A parcel. -/
structure Pcl where
  frm : ByteArray
  to : ByteArray
  num : Int
  papers : List Pap
/-- The list of a parcel. -/
structure PclR (W : World) (v : Value) (p : Pcl) : Prop where
  ps : RowPs W v p.papers
  fz : p.frm.size ≤ 9223372036854775807
  tz : p.to.size ≤ 9223372036854775807
theorem PclR.below {W W' : World} {v : Value} {p : Pcl} (h : PclR W v p) (hb : Below W.heap.size W W') : PclR W' v p := ⟨h.ps.below hb, h.fz, h.tz⟩
def BdPc (n : Nat) (p : Pcl) : Prop := p.frm.size ≤ n ∧ p.to.size ≤ n ∧ BdPs n p.papers
theorem BdPc.mono {m n : Nat} {p : Pcl} (h : BdPc m p) (hmn : m ≤ n) : BdPc n p := ⟨Nat.le_trans h.1 hmn, Nat.le_trans h.2.1 hmn, h.2.2.mono hmn⟩
end Go.Proofs.YtkaolpnbddjdpaaGreatDoor
namespace Go.Proofs.YtkaolpnbddjdpaaGreatDoor
open Go.Lib
def dgOk (c : UInt8) : Bool := decide (48 ≤ c.toNat ∧ c.toNat ≤ 57)
/-- What digits spell, behind n. -/
def dgVal (n : Nat) : List UInt8 → Nat
  | [] => n
  | c :: r => dgVal (n * 10 + (c.toNat - 48)) r
def plainD (l : List UInt8) : Bool := !l.isEmpty && l.all dgOk && (l.head? != some 48 || l.length == 1)
/-- The number that a text tells, if it tells one. -/
def numT (l : List UInt8) : Option Int :=
  if l.head? = some 45 then (if plainD l.tail && (l.tail.head? != some 48) then some (-(dgVal 0 l.tail : Int)) else none)
  else if plainD l then some (dgVal 0 l : Int) else none
theorem dgVal_nil (n : Nat) : dgVal n [] = n := by rw [dgVal.eq_def]
theorem dgVal_cons (n : Nat) (c : UInt8) (r : List UInt8) : dgVal n (c :: r) = dgVal (n * 10 + (c.toNat - 48)) r := by rw [dgVal.eq_def]
theorem dgVal_snoc (l : List UInt8) (c : UInt8) : ∀ n, dgVal n (l ++ [c]) = dgVal n l * 10 + (c.toNat - 48) := by
  induction l with
  | nil => intro n; rw [List.nil_append, dgVal_cons, dgVal_nil, dgVal_nil]
  | cons x l ih => intro n; rw [List.cons_append, dgVal_cons, dgVal_cons, ih]
theorem dgVal_le (l : List UInt8) : ∀ n, n ≤ dgVal n l := by
  induction l with
  | nil => intro n; exact Nat.le_refl _
  | cons x l ih =>
    intro n
    have h := ih (n * 10 + (x.toNat - 48))
    show n ≤ dgVal (n * 10 + (x.toNat - 48)) l
    omega
theorem dgVal_pow (l : List UInt8) : ∀ n, n * 10 ^ l.length ≤ dgVal n l := by
  induction l with
  | nil => intro n; simp [dgVal_nil]
  | cons x l ih =>
    intro n
    simp only [dgVal_cons, List.length_cons, Nat.pow_succ]
    refine Nat.le_trans ?_ (ih _)
    rw [Nat.add_mul, Nat.mul_comm (10 ^ l.length) 10, ← Nat.mul_assoc]
    exact Nat.le_add_right _ _
theorem dgVal_lt (l : List UInt8) (h : l.all dgOk = true) : ∀ n, dgVal n l < (n + 1) * 10 ^ l.length := by
  induction l with
  | nil => intro n; simp [dgVal_nil]
  | cons x l ih =>
    intro n
    simp only [List.all_cons, Bool.and_eq_true] at h
    simp only [dgVal_cons, List.length_cons, Nat.pow_succ]
    have hx : x.toNat ≤ 57 := by have := h.1; simp [dgOk] at this; exact this.2
    refine Nat.lt_of_lt_of_le (ih h.2 _) ?_
    rw [Nat.mul_comm (10 ^ l.length) 10, ← Nat.mul_assoc]
    exact Nat.mul_le_mul_right _ (by omega)
theorem parseM_ok (l : List UInt8) (h : l.all dgOk = true) : ∀ n, dgVal n l ≤ 18446744073709551615 → parseUintM 18446744073709551615 n l = .ok (dgVal n l) := by
  induction l with
  | nil => intro n hn; rfl
  | cons x l ih =>
    intro n hn
    simp only [List.all_cons, Bool.and_eq_true] at h
    have hx := h.1
    simp only [dgOk, decide_eq_true_eq] at hx
    have hm := dgVal_le l (n * 10 + (x.toNat - 48))
    have hn' : dgVal (n * 10 + (x.toNat - 48)) l ≤ 18446744073709551615 := hn
    unfold parseUintM
    rw [if_pos hx, if_neg (by omega), if_neg (by omega)]
    exact ih h.2 _ hn'
theorem parseM_range (l : List UInt8) (h : l.all dgOk = true) : ∀ n, n ≤ 18446744073709551615 → 18446744073709551615 < dgVal n l → parseUintM 18446744073709551615 n l = .range := by
  induction l with
  | nil =>
    intro n hn hd
    have : 18446744073709551615 < n := hd
    omega
  | cons x l ih =>
    intro n hn hd
    simp only [List.all_cons, Bool.and_eq_true] at h
    have hx := h.1
    simp only [dgOk, decide_eq_true_eq] at hx
    unfold parseUintM
    rw [if_pos hx]
    by_cases h1 : 1844674407370955162 ≤ n
    · rw [if_pos h1]
    · rw [if_neg h1]
      by_cases h2 : 18446744073709551615 < n * 10 + (x.toNat - 48)
      · rw [if_pos h2]
      · rw [if_neg h2]
        exact ih h.2 _ (by omega) hd
theorem parseU_ok (l : List UInt8) (h : l.all dgOk = true) (hne : l ≠ []) (hb : dgVal 0 l ≤ 18446744073709551615) : parseUintB 64 l = .ok (dgVal 0 l) := by
  unfold parseUintB
  rw [if_neg hne]
  exact parseM_ok l h 0 hb
theorem parseU_range (l : List UInt8) (h : l.all dgOk = true) (hne : l ≠ []) (hb : 18446744073709551615 < dgVal 0 l) : parseUintB 64 l = .range := by
  unfold parseUintB
  rw [if_neg hne]
  exact parseM_range l h 0 (by omega) hb
theorem plainD_facts {l : List UInt8} (h : plainD l = true) : l ≠ [] ∧ l.all dgOk = true ∧ (l.head? = some 48 → l.length = 1) := by
  simp only [plainD, Bool.and_eq_true, Bool.not_eq_true', Bool.or_eq_true, bne_iff_ne, beq_iff_eq] at h
  obtain ⟨⟨h1, h2⟩, h3⟩ := h
  refine ⟨fun e => by subst e; simp at h1, h2, fun e => ?_⟩
  rcases h3 with h3 | h3
  · exact absurd e h3
  · exact h3
theorem parse_neg (r : List UInt8) (u : Nat) (h : parseUintB 64 r = .ok u) : parseIntB 64 (45 :: r) = if 9223372036854775808 < u then .range else .ok (-(u : Int)) := by
  have e : (if (45 : UInt8).toNat = 43 ∨ (45 : UInt8).toNat = 45 then r else 45 :: r) = r := rfl
  unfold parseIntB
  dsimp only
  rw [e, h]
  dsimp only
  rw [if_neg (fun x => x.1 rfl)]
  by_cases hu : 9223372036854775808 < u
  · rw [if_pos hu, if_pos ⟨rfl, hu⟩]
  · rw [if_neg hu, if_neg (fun x => hu x.2), if_pos (show (45 : UInt8).toNat = 45 from rfl)]
theorem parse_neg_range (r : List UInt8) (h : parseUintB 64 r = .range) : parseIntB 64 (45 :: r) = .range := by
  have e : (if (45 : UInt8).toNat = 43 ∨ (45 : UInt8).toNat = 45 then r else 45 :: r) = r := rfl
  unfold parseIntB
  dsimp only
  rw [e, h]
theorem parse_pos (c : UInt8) (r : List UInt8) (u : Nat) (hc : 48 ≤ c.toNat) (h : parseUintB 64 (c :: r) = .ok u) : parseIntB 64 (c :: r) = if 9223372036854775808 ≤ u then .range else .ok (u : Int) := by
  unfold parseIntB
  dsimp only
  rw [if_neg (by omega), h]
  dsimp only
  have hn : ¬ c.toNat = 45 := by omega
  by_cases hu : 9223372036854775808 ≤ u
  · rw [if_pos hu, if_pos ⟨hn, hu⟩]
  · rw [if_neg hu, if_neg (fun x => hu x.2), if_neg (fun x => hn x.1), if_neg hn]
theorem parse_pos_range (c : UInt8) (r : List UInt8) (hc : 48 ≤ c.toNat) (h : parseUintB 64 (c :: r) = .range) : parseIntB 64 (c :: r) = .range := by
  unfold parseIntB
  dsimp only
  rw [if_neg (by omega), h]
theorem numT_parse {l : List UInt8} {v : Int} (h : numT l = some v) : (-9223372036854775808 ≤ v ∧ v ≤ 9223372036854775807 ∧ parseIntB 64 l = .ok v) ∨ ((v < -9223372036854775808 ∨ 9223372036854775807 < v) ∧ parseIntB 64 l = .range) := by
  unfold numT at h
  split at h
  · rename_i h45
    split at h
    · rename_i hp
      simp only [Option.some.injEq] at h
      cases l with
      | nil => simp at h45
      | cons c r =>
        simp only [List.head?_cons, Option.some.injEq] at h45
        subst h45
        simp only [List.tail_cons, Bool.and_eq_true] at hp h
        obtain ⟨hne, hall, _⟩ := plainD_facts hp.1
        subst h
        by_cases hb : dgVal 0 r ≤ 18446744073709551615
        · rw [parse_neg r _ (parseU_ok r hall hne hb)]
          by_cases hc : 9223372036854775808 < dgVal 0 r
          · rw [if_pos hc]; exact .inr ⟨.inl (by omega), rfl⟩
          · rw [if_neg hc]; exact .inl ⟨by omega, by omega, rfl⟩
        · rw [parse_neg_range r (parseU_range r hall hne (by omega))]
          exact .inr ⟨.inl (by omega), rfl⟩
    · cases h
  · rename_i h45
    split at h
    · rename_i hp
      simp only [Option.some.injEq] at h
      obtain ⟨hne, hall, _⟩ := plainD_facts hp
      subst h
      cases l with
      | nil => exact absurd rfl hne
      | cons c r =>
        have hc : 48 ≤ c.toNat ∧ c.toNat ≤ 57 := by
          have := hall
          simp only [List.all_cons, Bool.and_eq_true, dgOk, decide_eq_true_eq] at this
          exact this.1
        by_cases hb : dgVal 0 (c :: r) ≤ 18446744073709551615
        · rw [parse_pos c r _ hc.1 (parseU_ok _ hall hne hb)]
          by_cases hc2 : 9223372036854775808 ≤ dgVal 0 (c :: r)
          · rw [if_pos hc2]; exact .inr ⟨.inr (by omega), rfl⟩
          · rw [if_neg hc2]; exact .inl ⟨by omega, by omega, rfl⟩
        · rw [parse_pos_range c r hc.1 (parseU_range _ hall hne (by omega))]
          exact .inr ⟨.inr (by omega), rfl⟩
    · cases h
theorem dec_all (u : Nat) : (decDigits u).all dgOk = true := by
  induction u using Nat.strongRecOn with
  | _ u ih =>
    rw [decDigits]
    split
    · rename_i h
      simp [dgOk, UInt8.toNat_ofNat']
      omega
    · rename_i h
      rw [List.all_append, ih (u / 10) (by omega)]
      simp [dgOk, UInt8.toNat_ofNat']
      omega
theorem dec_val (u : Nat) : dgVal 0 (decDigits u) = u := by
  induction u using Nat.strongRecOn with
  | _ u ih =>
    rw [decDigits]
    split
    · rename_i h
      simp [dgVal_cons, dgVal_nil, UInt8.toNat_ofNat']
      omega
    · rename_i h
      rw [dgVal_snoc, ih (u / 10) (by omega)]
      simp [UInt8.toNat_ofNat']
      omega
theorem dec_ne (u : Nat) : decDigits u ≠ [] := by
  rw [decDigits]
  split <;> simp
theorem head_app {l : List UInt8} (h : l ≠ []) (m : List UInt8) : (l ++ m).head? = l.head? := by
  cases l with
  | nil => exact absurd rfl h
  | cons c r => rfl
theorem dec_head (u : Nat) : (decDigits u).head? = some 48 → (decDigits u).length = 1 := by
  induction u using Nat.strongRecOn with
  | _ u ih =>
    rw [decDigits]
    split
    · simp
    · rename_i h
      intro e
      rw [head_app (dec_ne _)] at e
      have h1 := ih (u / 10) (by omega) e
      have hv := dec_val (u / 10)
      cases hd : decDigits (u / 10) with
      | nil => exact absurd hd (dec_ne _)
      | cons c r =>
        rw [hd] at h1 e hv
        simp only [List.length_cons] at h1
        have hr : r = [] := List.eq_nil_of_length_eq_zero (by omega)
        subst hr
        simp only [List.head?_cons, Option.some.injEq] at e
        subst e
        simp [dgVal_cons, dgVal_nil] at hv
        omega
theorem dec_plain (u : Nat) : plainD (decDigits u) = true := by
  have h3 := dec_head u
  simp only [plainD, dec_all u, Bool.and_true, Bool.and_eq_true, Bool.not_eq_true', Bool.or_eq_true, bne_iff_ne, beq_iff_eq]
  refine ⟨by simpa using dec_ne u, ?_⟩
  by_cases e : (decDigits u).head? = some 48
  · exact .inr (h3 e)
  · exact .inl e
theorem plain_dec_aux : ∀ (n : Nat) (l : List UInt8), l.length = n → plainD l = true → decDigits (dgVal 0 l) = l := by
  intro n
  induction n with
  | zero =>
    intro l hl h
    exact absurd (List.eq_nil_of_length_eq_zero hl) (plainD_facts h).1
  | succ n ih =>
    intro l hl h
    obtain ⟨hne, hall, h0⟩ := plainD_facts h
    have hsplit := List.dropLast_concat_getLast hne
    generalize l.dropLast = m at hsplit
    generalize l.getLast hne = c at hsplit
    subst hsplit
    rw [List.all_append] at hall
    simp only [List.all_cons, List.all_nil, Bool.and_true, Bool.and_eq_true, dgOk, decide_eq_true_eq] at hall
    have hc := hall.2
    rw [dgVal_snoc]
    have e8 : UInt8.ofNat (48 + (c.toNat - 48)) = c := by
      rw [show 48 + (c.toNat - 48) = c.toNat by omega]
      simp
    by_cases hm : m = []
    · subst hm
      rw [decDigits, dif_pos (by simp [dgVal_nil]; omega)]
      simp [dgVal_nil, e8]
    · have hml : m.length = n := by simp at hl; omega
      have hh : m.head? ≠ some 48 := by
        intro e
        have := h0 (by rw [head_app hm]; exact e)
        simp at this
        exact hm this
      have hmp : plainD m = true := by
        simp only [plainD, Bool.and_eq_true, Bool.not_eq_true', Bool.or_eq_true, bne_iff_ne, beq_iff_eq]
        exact ⟨⟨by simpa using hm, hall.1⟩, .inl hh⟩
      have ihm := ih m hml hmp
      have hpos : 1 ≤ dgVal 0 m := by
        cases m with
        | nil => exact absurd rfl hm
        | cons x r =>
          have hx := hall.1
          simp only [List.all_cons, Bool.and_eq_true, dgOk, decide_eq_true_eq] at hx
          have hx1 : x.toNat ≠ 48 := by
            intro e
            apply hh
            simp only [List.head?_cons, Option.some.injEq]
            have : UInt8.ofNat x.toNat = UInt8.ofNat 48 := by rw [e]
            simpa using this
          have := dgVal_le r (0 * 10 + (x.toNat - 48))
          simp only [dgVal_cons]
          omega
      rw [decDigits, dif_neg (by omega)]
      rw [show (dgVal 0 m * 10 + (c.toNat - 48)) / 10 = dgVal 0 m by omega, show (dgVal 0 m * 10 + (c.toNat - 48)) % 10 = c.toNat - 48 by omega, ihm, e8]
/-- What isNumber asks of a text. -/
def isNumB (l : List UInt8) : Bool := !(trimPrefix l [45]).isEmpty && !((trimPrefix l [45]).head? == some 48 && l != [48]) && (trimPrefix l [45]).all dgOk
theorem trim45 (l : List UInt8) : trimPrefix l [45] = if l.head? = some 45 then l.tail else l := by
  cases l with
  | nil => rfl
  | cons c r =>
    unfold trimPrefix hasPrefix
    by_cases h : c = 45
    · subst h; simp
    · have h2 : ¬ (45 == c) = true := by simpa using fun e => h e.symm
      simp [List.isPrefixOf, h, h2]
theorem isNumB_eq (l : List UInt8) : isNumB l = (numT l).isSome := by
  unfold isNumB numT
  rw [trim45]
  split
  · rename_i h45
    cases l with
    | nil => simp at h45
    | cons c r =>
      simp only [List.head?_cons, Option.some.injEq] at h45
      subst h45
      simp only [List.tail_cons]
      have h48 : ((45 : UInt8) :: r != [48]) = true := by simp
      rw [h48]
      by_cases hh : r.head? = some 48
      · simp [hh]
      · have hh' : (r.head? == some 48) = false := by simpa using hh
        have hh2 : (r.head? != some 48) = true := by simpa using hh
        simp only [plainD, hh', hh2, Bool.and_true, Bool.true_or, Bool.not_false]
        cases (!r.isEmpty && r.all dgOk) <;> rfl
  · rename_i h45
    by_cases hh : l.head? = some 48
    · by_cases hl : l = [48]
      · subst hl; rfl
      · have h1 : (l != [48]) = true := by simpa using hl
        have h2 : (l.length == 1) = false := by
          cases l with
          | nil => rfl
          | cons c r =>
            simp only [List.head?_cons, Option.some.injEq] at hh
            subst hh
            simp only [List.length_cons]
            cases r with
            | nil => exact absurd rfl hl
            | cons d r => simp
        simp [plainD, hh, h1, h2]
    · have hh' : (l.head? == some 48) = false := by simpa using hh
      have hh2 : (l.head? != some 48) = true := by simpa using hh
      have e : (!(false && l != [48])) = true := rfl
      simp only [plainD, hh', hh2, Bool.true_or]
      rw [e, Bool.and_true, Bool.and_true]
      cases (!l.isEmpty && l.all dgOk) <;> rfl
theorem plain_dec {l : List UInt8} (h : plainD l = true) : decDigits (dgVal 0 l) = l := plain_dec_aux _ l rfl h
theorem plain_big {l : List UInt8} (h : plainD l = true) (hl : 12 < l.length) : 1000000000000 ≤ dgVal 0 l := by
  obtain ⟨hne, hall, h0⟩ := plainD_facts h
  cases l with
  | nil => exact absurd rfl hne
  | cons c r =>
    simp only [List.length_cons] at hl
    have hc : c.toNat ≠ 48 := by
      intro e
      have : c = 48 := by
        have : UInt8.ofNat c.toNat = UInt8.ofNat 48 := by rw [e]
        simpa using this
      subst this
      have := h0 rfl
      simp only [List.length_cons] at this
      omega
    have hx := hall
    simp only [List.all_cons, Bool.and_eq_true, dgOk, decide_eq_true_eq] at hx
    have h1 := dgVal_pow r (0 * 10 + (c.toNat - 48))
    have h2 : 10 ^ 12 ≤ 10 ^ r.length := Nat.pow_le_pow_right (by omega) (by omega)
    have h3 : 1 * 10 ^ r.length ≤ (0 * 10 + (c.toNat - 48)) * 10 ^ r.length := Nat.mul_le_mul_right _ (by omega)
    show 1000000000000 ≤ dgVal (0 * 10 + (c.toNat - 48)) r
    omega
/-- The model's reading: digits of at most twelve places, and the number told again is the text. -/
theorem numT_told {t d : List UInt8} {neg : Bool} (ht : t = if neg then 45 :: d else d) (hn : neg = false → t.head? ≠ some 45) (hall : d.all dgOk = true) (hne : d ≠ []) :
    (itoa (if neg then -(dgVal 0 d : Int) else (dgVal 0 d : Int)) = t ↔ numT t = some (if neg then -(dgVal 0 d : Int) else (dgVal 0 d : Int))) := by
  cases neg with
  | true =>
    simp only [if_true] at ht ⊢
    subst ht
    have hN : numT (45 :: d) = if plainD d && (d.head? != some 48) then some (-(dgVal 0 d : Int)) else none := rfl
    rw [hN]
    by_cases h0 : dgVal 0 d = 0
    · have hp : ¬ (plainD d && (d.head? != some 48)) = true := by
        intro h
        simp only [Bool.and_eq_true, bne_iff_ne] at h
        have := plain_dec h.1
        rw [h0] at this
        rw [← this] at h
        exact h.2 (by rw [decDigits_one (by omega)]; rfl)
      rw [if_neg hp, h0]
      constructor
      · intro e; exact absurd e (by simp [itoa, decDigits])
      · intro e; cases e
    · have hi : itoa (-(dgVal 0 d : Int)) = 45 :: decDigits (dgVal 0 d) := by
        unfold itoa
        rw [if_pos (by omega)]
        congr 2
        omega
      rw [hi]
      constructor
      · intro e
        have e2 : decDigits (dgVal 0 d) = d := by simpa using e
        have hp : plainD d = true := by rw [← e2]; exact dec_plain _
        have hh : d.head? ≠ some 48 := by
          intro h48
          have hl := (plainD_facts hp).2.2 h48
          cases d with
          | nil => exact hne rfl
          | cons c r =>
            simp only [List.length_cons] at hl
            have hr : r = [] := List.eq_nil_of_length_eq_zero (by omega)
            subst hr
            simp only [List.head?_cons, Option.some.injEq] at h48
            subst h48
            exact h0 rfl
        rw [if_pos (by simp [hp, hh])]
      · intro e
        by_cases hp : (plainD d && (d.head? != some 48)) = true
        · simp only [Bool.and_eq_true] at hp
          rw [plain_dec hp.1]
        · rw [if_neg hp] at e; cases e
  | false =>
    simp only [Bool.false_eq_true, if_false] at ht ⊢
    subst ht
    have hN : numT t = if plainD t then some (dgVal 0 t : Int) else none := by
      unfold numT
      rw [if_neg (hn rfl)]
    rw [hN]
    have hi : itoa (dgVal 0 t : Int) = decDigits (dgVal 0 t) := by
      unfold itoa
      rw [if_neg (by omega)]
      congr 1
    rw [hi]
    constructor
    · intro e
      rw [if_pos (by rw [← e]; exact dec_plain _)]
    · intro e
      by_cases hp : plainD t = true
      · exact plain_dec hp
      · rw [if_neg hp] at e; cases e
theorem num_none {t d : List UInt8} {neg : Bool} (ht : t = if neg then 45 :: d else d) (hn : neg = false → t.head? ≠ some 45) (h : d.all dgOk = false ∨ d = []) : numT t = none := by
  have hp : plainD d = false := by
    rw [← Bool.not_eq_true]
    intro hp
    obtain ⟨hne, hall, _⟩ := plainD_facts hp
    rcases h with h | h
    · rw [hall] at h; cases h
    · exact hne h
  cases neg with
  | true =>
    simp only [if_true] at ht
    subst ht
    have hN : numT (45 :: d) = if plainD d && (d.head? != some 48) then some (-(dgVal 0 d : Int)) else none := rfl
    rw [hN, hp]
    rfl
  | false =>
    simp only [Bool.false_eq_true, if_false] at ht
    subst ht
    unfold numT
    rw [if_neg (hn rfl), hp]
    rfl
theorem num_val {t d : List UInt8} {neg : Bool} {v : Int} (ht : t = if neg then 45 :: d else d) (hn : neg = false → t.head? ≠ some 45) (hv : numT t = some v) : v = if neg then -(dgVal 0 d : Int) else (dgVal 0 d : Int) := by
  cases neg with
  | true =>
    simp only [if_true] at ht ⊢
    subst ht
    have hN : numT (45 :: d) = if plainD d && (d.head? != some 48) then some (-(dgVal 0 d : Int)) else none := rfl
    rw [hN] at hv
    split at hv
    · exact (Option.some.inj hv).symm
    · cases hv
  | false =>
    simp only [Bool.false_eq_true, if_false] at ht ⊢
    subst ht
    unfold numT at hv
    rw [if_neg (hn rfl)] at hv
    split at hv
    · exact (Option.some.inj hv).symm
    · cases hv
theorem num_big {t d : List UInt8} {neg : Bool} {v : Int} (ht : t = if neg then 45 :: d else d) (hn : neg = false → t.head? ≠ some 45) (h : 12 < d.length) (hv : numT t = some v) : v ≤ -1000000000000 ∨ 1000000000000 ≤ v := by
  cases neg with
  | true =>
    simp only [if_true] at ht
    subst ht
    have hN : numT (45 :: d) = if plainD d && (d.head? != some 48) then some (-(dgVal 0 d : Int)) else none := rfl
    rw [hN] at hv
    split at hv
    · rename_i hp
      simp only [Bool.and_eq_true] at hp
      have := plain_big hp.1 h
      cases hv
      omega
    · cases hv
  | false =>
    simp only [Bool.false_eq_true, if_false] at ht
    subst ht
    unfold numT at hv
    rw [if_neg (hn rfl)] at hv
    split at hv
    · rename_i hp
      have := plain_big hp h
      cases hv
      omega
    · cases hv
end Go.Proofs.YtkaolpnbddjdpaaGreatDoor
namespace Go.Proofs.YtkaolpnbddjdpaaGreatDoor
open Go.Shelf Go.RowKit Go.Lib
def laysC174_ren : Go.Shelf.Ren := ⟨fun | 174 => 204 | 247 => 212 | 245 => 213 | 287 => 230 | 279 => 231 | 280 => 232 | 281 => 233 | 282 => 234 | 321 => 243 | 322 => 244 | 316 => 126 | 171 => 148 | 205 => 245 | 243 => 173 | 246 => 171 | 283 => 185 | 284 => 186 | 285 => 187 | 286 => 188 | 129 => 198 | 317 => 197 | 318 => 199 | 319 => 200 | 320 => 201 | 337 => 207 | 338 => 208 | n => n, fun | 9 => 9 | 3 => 3 | 2 => 2 | 75 => 108 | 85 => 244 | 4 => 4 | 167 => 264 | 5 => 5 | 53 => 77 | 175 => 265 | 46 => 86 | 168 => 267 | 37 => 22 | 0 => 0 | 210 => 278 | 21 => 21 | 127 => 148 | 145 => 284 | 143 => 282 | 171 => 226 | 173 => 229 | 212 => 237 | 51 => 238 | 20 => 20 | 213 => 239 | 232 => 254 | 233 => 255 | 80 => 111 | n => n, fun | 15 => 5 | 16 => 6 | 17 => 1 | 18 => 3 | 19 => 4 | n => n⟩
theorem laysC174 : Go.Proofs.LaysC.n174 Tryz.prog laysC174_ren := {
  mixed := by kernel_rfl
  f129 := Tryz.func198.trans (congrArg some (by kernel_rfl))
  f171 := Tryz.func148.trans (congrArg some (by kernel_rfl))
  f174 := Tryz.func204.trans (congrArg some (by kernel_rfl))
  f205 := Tryz.func245.trans (congrArg some (by kernel_rfl))
  f243 := Tryz.func173.trans (congrArg some (by kernel_rfl))
  f245 := Tryz.func213.trans (congrArg some (by kernel_rfl))
  f246 := Tryz.func171.trans (congrArg some (by kernel_rfl))
  f247 := Tryz.func212.trans (congrArg some (by kernel_rfl))
  f279 := Tryz.func231.trans (congrArg some (by kernel_rfl))
  f280 := Tryz.func232.trans (congrArg some (by kernel_rfl))
  f281 := Tryz.func233.trans (congrArg some (by kernel_rfl))
  f282 := Tryz.func234.trans (congrArg some (by kernel_rfl))
  f283 := Tryz.func185.trans (congrArg some (by kernel_rfl))
  f284 := Tryz.func186.trans (congrArg some (by kernel_rfl))
  f285 := Tryz.func187.trans (congrArg some (by kernel_rfl))
  f286 := Tryz.func188.trans (congrArg some (by kernel_rfl))
  f287 := Tryz.func230.trans (congrArg some (by kernel_rfl))
  f316 := Tryz.func126.trans (congrArg some (by kernel_rfl))
  f317 := Tryz.func197.trans (congrArg some (by kernel_rfl))
  f318 := Tryz.func199.trans (congrArg some (by kernel_rfl))
  f319 := Tryz.func200.trans (congrArg some (by kernel_rfl))
  f320 := Tryz.func201.trans (congrArg some (by kernel_rfl))
  f321 := Tryz.func243.trans (congrArg some (by kernel_rfl))
  f322 := Tryz.func244.trans (congrArg some (by kernel_rfl))
  f337 := Tryz.func207.trans (congrArg some (by kernel_rfl))
  f338 := Tryz.func208.trans (congrArg some (by kernel_rfl))
  t0 := Tryz.underlying0
  a0 := Tryz.isAgg0
  z0 := Tryz.sizeOf0
  v0 := Tryz.zeroValue0
  t2 := Tryz.underlying2
  a2 := Tryz.isAgg2
  z2 := Tryz.sizeOf2
  v2 := Tryz.zeroValue2
  t3 := Tryz.underlying3
  a3 := Tryz.isAgg3
  z3 := Tryz.sizeOf3
  v3 := Tryz.zeroValue3
  t4 := Tryz.underlying4
  a4 := Tryz.isAgg4
  z4 := Tryz.sizeOf4
  v4 := Tryz.zeroValue4
  t5 := Tryz.underlying5
  a5 := Tryz.isAgg5
  z5 := Tryz.sizeOf5
  v5 := Tryz.zeroValue5
  t9 := Tryz.underlying9
  a9 := Tryz.isAgg9
  z9 := Tryz.sizeOf9
  v9 := Tryz.zeroValue9
  t20 := Tryz.underlying20
  a20 := Tryz.isAgg20
  z20 := Tryz.sizeOf20
  v20 := Tryz.zeroValue20
  t21 := Tryz.underlying21
  a21 := Tryz.isAgg21
  z21 := Tryz.sizeOf21
  v21 := Tryz.zeroValue21
  t37 := Tryz.underlying22
  a37 := Tryz.isAgg22
  z37 := Tryz.sizeOf22
  v37 := Tryz.zeroValue22
  t46 := Tryz.underlying86
  a46 := Tryz.isAgg86
  z46 := Tryz.sizeOf86
  v46 := Tryz.zeroValue86
  t51 := Tryz.underlying238
  a51 := Tryz.isAgg238
  z51 := Tryz.sizeOf238
  v51 := Tryz.zeroValue238
  t53 := Tryz.underlying77
  a53 := Tryz.isAgg77
  z53 := Tryz.sizeOf77
  v53 := Tryz.zeroValue77
  t75 := Tryz.underlying108
  a75 := Tryz.isAgg108
  z75 := Tryz.sizeOf108
  v75 := Tryz.zeroValue108
  t85 := Tryz.underlying244
  a85 := Tryz.isAgg244
  z85 := Tryz.sizeOf244
  v85 := Tryz.zeroValue244
  t127 := Tryz.underlying148
  a127 := Tryz.isAgg148
  z127 := Tryz.sizeOf148
  v127 := Tryz.zeroValue148
  t143 := Tryz.underlying282
  a143 := Tryz.isAgg282
  z143 := Tryz.sizeOf282
  v143 := Tryz.zeroValue282
  t145 := Tryz.underlying284
  a145 := Tryz.isAgg284
  z145 := Tryz.sizeOf284
  v145 := Tryz.zeroValue284
  t167 := Tryz.underlying264
  a167 := Tryz.isAgg264
  z167 := Tryz.sizeOf264
  v167 := Tryz.zeroValue264
  t168 := Tryz.underlying267
  a168 := Tryz.isAgg267
  z168 := Tryz.sizeOf267
  v168 := Tryz.zeroValue267
  t171 := Tryz.underlying226
  a171 := Tryz.isAgg226
  z171 := Tryz.sizeOf226
  v171 := Tryz.zeroValue226
  t173 := Tryz.underlying229
  a173 := Tryz.isAgg229
  z173 := Tryz.sizeOf229
  v173 := Tryz.zeroValue229
  t175 := Tryz.underlying265
  a175 := Tryz.isAgg265
  z175 := Tryz.sizeOf265
  v175 := Tryz.zeroValue265
  t210 := Tryz.underlying278
  a210 := Tryz.isAgg278
  z210 := Tryz.sizeOf278
  v210 := Tryz.zeroValue278
  t212 := Tryz.underlying237
  a212 := Tryz.isAgg237
  z212 := Tryz.sizeOf237
  v212 := Tryz.zeroValue237
  t213 := Tryz.underlying239
  a213 := Tryz.isAgg239
  z213 := Tryz.sizeOf239
  t232 := Tryz.underlying254
  a232 := Tryz.isAgg254
  z232 := Tryz.sizeOf254
  v232 := Tryz.zeroValue254
  t233 := Tryz.underlying255
  a233 := Tryz.isAgg255
  z233 := Tryz.sizeOf255
  v233 := Tryz.zeroValue255
  g15 := by kernel_rfl
  g16 := by kernel_rfl
  g17 := by kernel_rfl
  g18 := by kernel_rfl
  g19 := by kernel_rfl
  t80 := Tryz.underlying111
  a80 := Tryz.isAgg111
  z80 := Tryz.sizeOf111
  v80 := Tryz.zeroValue111
  i0 := by kernel_rfl
  i2 := by kernel_rfl
  i3 := by kernel_rfl
  i4 := by kernel_rfl
  i5 := by kernel_rfl
  i9 := by kernel_rfl
  i20 := by kernel_rfl
  i21 := by kernel_rfl
  i37 := by kernel_rfl
  i46 := by kernel_rfl
  i51 := by kernel_rfl
  i53 := by kernel_rfl
  i75 := by kernel_rfl
  i80 := by kernel_rfl
  i85 := by kernel_rfl
  i127 := by kernel_rfl
  i143 := by kernel_rfl
  i145 := by kernel_rfl
  i167 := by kernel_rfl
  i168 := by kernel_rfl
  i171 := by kernel_rfl
  i173 := by kernel_rfl
  i175 := by kernel_rfl
  i210 := by kernel_rfl
  i212 := by kernel_rfl
  i232 := by kernel_rfl
  i233 := by kernel_rfl
  m15 := by kernel_rfl
  m16 := by kernel_rfl
  m17 := by kernel_rfl
  m18 := by kernel_rfl
  m19 := by kernel_rfl
  c0 := by kernel_rfl
  c2 := by kernel_rfl
  c3 := by kernel_rfl
  c4 := by kernel_rfl
  c5 := by kernel_rfl
  c9 := by kernel_rfl
  c20 := by kernel_rfl
  c21 := by kernel_rfl
  c37 := by kernel_rfl
  c46 := by kernel_rfl
  c51 := by kernel_rfl
  c53 := by kernel_rfl
  c75 := by kernel_rfl
  c80 := by kernel_rfl
  c85 := by kernel_rfl
  c127 := by kernel_rfl
  c143 := by kernel_rfl
  c145 := by kernel_rfl
  c167 := by kernel_rfl
  c168 := by kernel_rfl
  c171 := by kernel_rfl
  c173 := by kernel_rfl
  c175 := by kernel_rfl
  c210 := by kernel_rfl
  c212 := by kernel_rfl
  c213 := by kernel_rfl
  c232 := by kernel_rfl
  c233 := by kernel_rfl }
def lays101_ren : Go.Shelf.Ren := ⟨fun | 101 => 228 | 208 => 241 | 206 => 249 | n => n, fun | 9 => 9 | 4 => 4 | 3 => 3 | n => n, fun | n => n⟩
theorem lays101 : Go.Proofs.Lays.n101 Tryz.prog lays101_ren := {
  mixed := by kernel_rfl
  f101 := Tryz.func228.trans (congrArg some (by kernel_rfl))
  f206 := Tryz.func249.trans (congrArg some (by kernel_rfl))
  f208 := Tryz.func241.trans (congrArg some (by kernel_rfl))
  t3 := Tryz.underlying3
  a3 := Tryz.isAgg3
  z3 := Tryz.sizeOf3
  v3 := Tryz.zeroValue3
  t4 := Tryz.underlying4
  a4 := Tryz.isAgg4
  z4 := Tryz.sizeOf4
  v4 := Tryz.zeroValue4
  t9 := Tryz.underlying9
  a9 := Tryz.isAgg9
  z9 := Tryz.sizeOf9
  v9 := Tryz.zeroValue9 }
end Go.Proofs.YtkaolpnbddjdpaaGreatDoor
namespace Go.Proofs.YtkaolpnbddjdpaaGreatDoor
open Go.RowKit
/-- The byte of a text at a place, as a number; 0 beyond its end. -/
def byt (s : ByteArray) (i : Nat) : Int := ((s.data.toList[i]?.getD 0).toNat : Int)
theorem byt_bd (s : ByteArray) (i : Nat) : 0 ≤ byt s i ∧ byt s i ≤ 255 := by
  have := (s.data.toList[i]?.getD 0).toNat_lt
  unfold byt
  omega
theorem byt_raw (s : ByteArray) (i : Nat) (h : i < s.size) : ((s[i]'h).toNat : Int) = byt s i := by
  unfold byt
  have h' : i < s.data.toList.length := by simpa using h
  rw [List.getElem?_eq_getElem h']
  rfl
theorem byt_get (s : ByteArray) (i : Nat) (h : i < s.size) : wrap64 ((s[i]'h).toNat : Int) = byt s i := by
  have := (s[i]'h).toNat_lt
  rw [byt_raw]
  have := byt_bd s i
  unfold wrap64
  omega
/-- The first three bytes, as far as they go, are those of the word. -/
def preB (s : ByteArray) : Bool := (decide (s.size ≤ 0) || byt s 0 == 83) && ((decide (s.size ≤ 1) || byt s 1 == 89) && (decide (s.size ≤ 2) || byt s 2 == 78))
theorem u8eq (x : UInt8) (n : Nat) (h : n < 256) : (x == UInt8.ofNat n) = ((x.toNat : Int) == (n : Int)) := by
  rw [Bool.eq_iff_iff, beq_iff_eq, beq_iff_eq]
  constructor
  · intro e; subst e; simp; omega
  · intro e
    have : x.toNat = n := by omega
    rw [← this]; simp
theorem szl (l : List UInt8) : (⟨⟨l⟩⟩ : ByteArray).size = l.length := rfl
theorem pre2 (s : ByteArray) (h : s.size ≤ 3) : (!(s.toList == ((⟨#[83, 89, 78]⟩ : ByteArray).extract 0 s.size).toList)) = !preB s := by
  rw [Lib.toList_data, Lib.extract_toList]
  obtain ⟨⟨l⟩⟩ := s
  rw [szl] at h
  unfold preB
  rw [szl]
  rcases l with _ | ⟨x, _ | ⟨y, _ | ⟨z, t⟩⟩⟩
  · simp
  · have e1 := u8eq x 83 (by omega)
    simp [byt] at e1 ⊢
    simp [e1]
  · have e1 := u8eq x 83 (by omega)
    have e2 := u8eq y 89 (by omega)
    simp [byt] at e1 e2 ⊢
    simp [e1, e2]
  · have e1 := u8eq x 83 (by omega)
    have e2 := u8eq y 89 (by omega)
    have e3 := u8eq z 78 (by omega)
    have ht : t = [] := by
      rcases t with _ | ⟨u, t⟩
      · rfl
      · simp at h
    subst ht
    simp [byt] at e1 e2 e3 ⊢
    simp [e1, e2, e3]
end Go.Proofs.YtkaolpnbddjdpaaGreatDoor
namespace Go.Proofs.YtkaolpnbddjdpaaGreatDoor
open Go.ChangeShapes Go.WideShapes Go.ChangeAt Go.RowKit
/-- The library's two errors lie in their variables. -/
def ErrAt (w : World) (g : Nat) : Prop := ∃ ev, w.cell? ⟨g, 0, none⟩ = some ev ∧ (ev = .nilIface ∨ ∃ te pe, ev = .iface te pe)
def ErrsAt (w : World) : Prop := ErrAt w 5 ∧ ErrAt w 6
theorem ErrAt.below {w w' : World} {g : Nat} (h : ErrAt w g) (hb : Below w.heap.size w w') : ErrAt w' g := by
  obtain ⟨ev, h1, h2⟩ := h
  exact ⟨ev, (hb.cell (cell_lt h1)).trans h1, h2⟩
theorem ErrsAt.below {w w' : World} (h : ErrsAt w) (hb : Below w.heap.size w w') : ErrsAt w' := ⟨h.1.below hb, h.2.below hb⟩
theorem below_bytes (w : World) (t : ByteArray) (e : Nat) : Below w.heap.size w (Lib.bytesWorld w e t) := by
  exact Lib.bytesWorld_below _ _ _
theorem parse_any (s : ByteArray) (w : World) (hs : s.size ≤ 281474976710656) (hE : ErrsAt w) :
    Calls Tryz.prog 204 #[.string s, .int .i64 10, .int .i64 64] w fun e w' => Below w.heap.size w w' ∧
      ((∃ v, Lib.parseIntB 64 s.data.toList = .ok v ∧ e = .returned (.tuple #[.int .i64 v, .nilIface])) ∨ ∃ n T p, (∀ v, Lib.parseIntB 64 s.data.toList ≠ .ok v) ∧ e = .returned (.tuple #[.int .i64 n, .iface T (.pointer p)])) := by
  cases h : Lib.parseIntB 64 s.data.toList with
  | ok v =>
    refine (Any.strconv_ParseInt_10_at64_ok laysC174 s (by omega) v h w).mono ?_
    rintro e w' ⟨rfl, hw⟩
    refine ⟨?_, .inl ⟨v, rfl, rfl⟩⟩
    rcases hw with rfl | ⟨t, rfl⟩
    · exact Below.refl _ _
    · exact below_bytes _ _ _
  | «syntax» =>
    obtain ⟨ev, h1, h2⟩ := hE.1
    refine (Any.strconv_ParseInt_10_at64_syntax laysC174 s hs h ev w h1 h2).mono ?_
    rintro e w' ⟨N, rfl, _, _, hb⟩
    exact ⟨hb, .inr ⟨_, _, _, fun v => by simp, rfl⟩⟩
  | range =>
    obtain ⟨ev, h1, h2⟩ := hE.2
    refine (Any.strconv_ParseInt_10_at64_range laysC174 s hs h ev w h1 h2).mono ?_
    rintro e w' ⟨N, rfl, _, _, hb⟩
    exact ⟨hb, .inr ⟨_, _, _, fun v => by simp, rfl⟩⟩
theorem trimPrefix_any (s p : ByteArray) (w : World) : Calls Tryz.prog 228 #[.string s, .string p] w fun e w' => e = .returned (.string ⟨(Lib.trimPrefix s.data.toList p.data.toList).toArray⟩) ∧ w' = w := Any.strings_TrimPrefix lays101 s p w
theorem all_dg {s : ByteArray} (h : ∀ (j : Nat) (hj : j < s.size), 48 ≤ (s[j]'hj).toNat ∧ (s[j]'hj).toNat ≤ 57) : s.data.toList.all dgOk = true := by
  rw [List.all_eq_true]
  intro x hx
  obtain ⟨j, hj, rfl⟩ := List.mem_iff_getElem.1 hx
  have := h j (by simpa using hj)
  simp only [dgOk, decide_eq_true_eq]
  exact this
theorem all_dg_no {s : ByteArray} (k : Nat) (hk : k < s.size) (h : ((s[k]'hk).toNat : Int) < 48 ∨ 57 < ((s[k]'hk).toNat : Int)) : s.data.toList.all dgOk = false := by
  have hk' : k < s.data.toList.length := by simpa using hk
  rw [← Bool.not_eq_true, List.all_eq_true]
  intro hall
  have := hall (s.data.toList[k]) (List.getElem_mem hk')
  simp only [dgOk, decide_eq_true_eq] at this
  have e : s.data.toList[k] = s[k]'hk := rfl
  rw [e] at this
  omega
theorem head_of {d : ByteArray} (h : 0 < d.size) : d.data.toList.head? = some (d[0]'h) := by
  rw [List.head?_eq_getElem?, List.getElem?_eq_getElem (by simpa using h)]
  rfl
theorem isNumB_all {s d : ByteArray} (h : d.data.toList = Lib.trimPrefix s.data.toList [45]) (hn : d.data.toList.all dgOk = false) : isNumB s.data.toList = false := by
  unfold isNumB
  rw [← h, hn, Bool.and_false]
theorem isNumB_empty {s d : ByteArray} (h : d.data.toList = Lib.trimPrefix s.data.toList [45]) (hn : ¬ 0 < d.size) : isNumB s.data.toList = false := by
  unfold isNumB
  rw [← h]
  have : d.data.toList = [] := List.eq_nil_of_length_eq_zero (by have e : d.data.toList.length = d.size := rfl; omega)
  rw [this]
  rfl
theorem isNumB_nought {s d : ByteArray} (h : d.data.toList = Lib.trimPrefix s.data.toList [45]) (h0 : 0 < d.size) (hz : (((d[0]'h0).toNat : Int) == 48) = true) (hT : (s.toList == [48]) = false) : isNumB s.data.toList = false := by
  unfold isNumB
  rw [← h, head_of h0]
  have e : d[0]'h0 = 48 := by
    have : (d[0]'h0).toNat = 48 := by have := beq_iff_eq.1 hz; omega
    have e2 : UInt8.ofNat (d[0]'h0).toNat = UInt8.ofNat 48 := by rw [this]
    simpa using e2
  rw [Lib.toList_data] at hT
  have hT' : (s.data.toList != [48]) = true := by simp [bne, hT]
  rw [e, hT']
  simp
theorem isNumB_yes {s d : ByteArray} (h : d.data.toList = Lib.trimPrefix s.data.toList [45]) (h0 : 0 < d.size) (hC : (((d[0]'h0).toNat : Int) == 48) = false ∨ (s.toList == [48]) = true) (ha : d.data.toList.all dgOk = true) : isNumB s.data.toList = true := by
  unfold isNumB
  rw [← h, head_of h0, ha, Bool.and_true]
  have hne : d.data.toList.isEmpty = false := by
    cases hh : d.data.toList with
    | nil =>
      have : d.data.toList.length = 0 := by rw [hh]; rfl
      have e : d.data.toList.length = d.size := rfl
      omega
    | cons c r => rfl
  rw [hne]
  rcases hC with hz | hT
  · have e : ¬ d[0]'h0 = 48 := by
      intro e
      rw [e] at hz
      simp at hz
    have : (some (d[0]'h0) == some (48 : UInt8)) = false := by simpa using e
    rw [this]
    rfl
  · rw [Lib.toList_data] at hT
    have hT' : (s.data.toList != [48]) = false := by simp [bne, hT]
    rw [hT']
    simp
theorem trimPrefix_ex (s p : ByteArray) (w : World) : Calls Tryz.prog 228 #[.string s, .string p] w fun e w' => ∃ d, e = .returned (.string d) ∧ Hid (d.data.toList = Lib.trimPrefix s.data.toList p.data.toList) ∧ d.size ≤ s.size ∧ w' = w := by
  refine (trimPrefix_any s p w).mono ?_
  rintro e w' ⟨rfl, rfl⟩
  refine ⟨_, rfl, by show _ = _; simp, ?_, rfl⟩
  show (Lib.trimPrefix s.data.toList p.data.toList).length ≤ s.data.toList.length
  unfold Lib.trimPrefix
  split
  · simp
  · exact Nat.le_refl _
set_option maxHeartbeats 1000000 in
theorem isNumber_any (s : ByteArray) (w : World) (hs : s.size ≤ 281474976710656) : Calls Tryz.prog 242 #[.string s] w fun e w' => e = .returned (.bool (numT s.data.toList).isSome) ∧ w' = w := by
  rw [← isNumB_eq]
  go_enter Tryz.func242, Tryz.ntmps242
  go_wp2_with fail
  refine (trimPrefix_ex _ _ _).mono ?_
  rintro e w1 ⟨d, rfl, hd, hds, rfl⟩
  by_cases h0 : 0 < d.size
  · have h0' : (0 : Int) < (d.size : Int) := by omega
    have hne : d.toList.isEmpty = false := by
      rw [Lib.toList_data]
      cases hh : d.data.toList with
      | nil =>
        have : d.data.toList.length = 0 := by rw [hh]; rfl
        have e : d.data.toList.length = d.size := rfl
        omega
      | cons c r => rfl
    have hx0 : 0 ≤ ((d[0]'h0).toNat : Int) := by omega
    have hx1 : ((d[0]'h0).toNat : Int) ≤ 255 := by have := (d[0]'h0).toNat_lt; omega
    by_cases hz : (((d[0]'h0).toNat : Int) == 48) = true
    · by_cases hT : (s.toList == [48]) = true
      · have HC : Hid ((((d[0]'h0).toNat : Int) == 48) = false ∨ (s.toList == [48]) = true) := .inr hT
        go_wp2
        go_loopw [20] (fun i wr => ∃ k : Nat, i = .int .i64 (k : Int) ∧ k ≤ d.size ∧ (∀ (j : Nat) (hj : j < d.size), j < k → 48 ≤ (d[j]'hj).toNat ∧ (d[j]'hj).toNat ≤ 57) ∧ wr = w1) (fun i _ => d.size - (intOf i).toNat)
        case atStart => exact ⟨0, rfl, by omega, fun j hj h => by omega, rfl⟩
        case round =>
          obtain ⟨k, rfl, hk, hA, rfl⟩ := hrel
          have HA : Hid (∀ (j : Nat) (hj : j < d.size), j < k → 48 ≤ (d[j]'hj).toNat ∧ (d[j]'hj).toNat ≤ 57) := hA
          clear hA
          by_cases hlt : k < d.size
          · have hlt' : (k : Int) < (d.size : Int) := by omega
            have hy0 : 0 ≤ ((d[k]'hlt).toNat : Int) := by omega
            have hy1 : ((d[k]'hlt).toNat : Int) ≤ 255 := by have := (d[k]'hlt).toNat_lt; omega
            by_cases hlo : ((d[k]'hlt).toNat : Int) < 48
            · have d1 : decide (((d[k]'hlt).toNat : Int) < 48) = true := by simpa using hlo
              have HN := all_dg_no k hlt (.inl hlo)
              go_wp2
              go_ret
              exact ⟨ret_bool (isNumB_all hd.out HN).symm, rfl⟩
            · have d1 : decide (((d[k]'hlt).toNat : Int) < 48) = false := by simpa using hlo
              by_cases hhi : 57 < ((d[k]'hlt).toNat : Int)
              · have d2 : decide (57 < ((d[k]'hlt).toNat : Int)) = true := by simpa using hhi
                have HN := all_dg_no k hlt (.inr hhi)
                go_wp2
                go_ret
                exact ⟨ret_bool (isNumB_all hd.out HN).symm, rfl⟩
              · have d2 : decide (57 < ((d[k]'hlt).toNat : Int)) = false := by simpa using hhi
                go_wp2
                go_roundw
                case rel =>
                  refine ⟨k + 1, by go_num, by omega, fun j hj h => ?_, trivial⟩
                  rcases Nat.lt_or_ge j k with g | g
                  · exact HA.out j hj g
                  · obtain rfl : j = k := by omega
                    omega
                case measure => simp [intOf]; omega
          · obtain rfl : k = d.size := by omega
            go_wp2
            go_ret
            exact ⟨ret_bool (isNumB_yes hd.out h0 HC.out (all_dg fun j hj => HA.out j hj hj)).symm, rfl⟩
      · have hT' : (s.toList == [48]) = false := by simpa using hT
        clear hT
        have HN := isNumB_nought hd.out h0 hz hT'
        go_wp2
        go_ret
        exact ⟨ret_bool HN.symm, rfl⟩
    · have hz' : (((d[0]'h0).toNat : Int) == 48) = false := by simpa using hz
      have HC : Hid ((((d[0]'h0).toNat : Int) == 48) = false ∨ (s.toList == [48]) = true) := .inl hz'
      clear hz
      go_wp2
      go_loopw [20] (fun i wr => ∃ k : Nat, i = .int .i64 (k : Int) ∧ k ≤ d.size ∧ (∀ (j : Nat) (hj : j < d.size), j < k → 48 ≤ (d[j]'hj).toNat ∧ (d[j]'hj).toNat ≤ 57) ∧ wr = w1) (fun i _ => d.size - (intOf i).toNat)
      case atStart => exact ⟨0, rfl, by omega, fun j hj h => by omega, rfl⟩
      case round =>
        obtain ⟨k, rfl, hk, hA, rfl⟩ := hrel
        have HA : Hid (∀ (j : Nat) (hj : j < d.size), j < k → 48 ≤ (d[j]'hj).toNat ∧ (d[j]'hj).toNat ≤ 57) := hA
        clear hA
        by_cases hlt : k < d.size
        · have hlt' : (k : Int) < (d.size : Int) := by omega
          have hy0 : 0 ≤ ((d[k]'hlt).toNat : Int) := by omega
          have hy1 : ((d[k]'hlt).toNat : Int) ≤ 255 := by have := (d[k]'hlt).toNat_lt; omega
          by_cases hlo : ((d[k]'hlt).toNat : Int) < 48
          · have d1 : decide (((d[k]'hlt).toNat : Int) < 48) = true := by simpa using hlo
            have HN := all_dg_no k hlt (.inl hlo)
            go_wp2
            go_ret
            exact ⟨ret_bool (isNumB_all hd.out HN).symm, rfl⟩
          · have d1 : decide (((d[k]'hlt).toNat : Int) < 48) = false := by simpa using hlo
            by_cases hhi : 57 < ((d[k]'hlt).toNat : Int)
            · have d2 : decide (57 < ((d[k]'hlt).toNat : Int)) = true := by simpa using hhi
              have HN := all_dg_no k hlt (.inr hhi)
              go_wp2
              go_ret
              exact ⟨ret_bool (isNumB_all hd.out HN).symm, rfl⟩
            · have d2 : decide (57 < ((d[k]'hlt).toNat : Int)) = false := by simpa using hhi
              go_wp2
              go_roundw
              case rel =>
                refine ⟨k + 1, by go_num, by omega, fun j hj h => ?_, trivial⟩
                rcases Nat.lt_or_ge j k with g | g
                · exact HA.out j hj g
                · obtain rfl : j = k := by omega
                  omega
              case measure => simp [intOf]; omega
        · obtain rfl : k = d.size := by omega
          go_wp2
          go_ret
          exact ⟨ret_bool (isNumB_yes hd.out h0 HC.out (all_dg fun j hj => HA.out j hj hj)).symm, rfl⟩
  · have HN := isNumB_empty hd.out h0
    have hE : d.toList.isEmpty = true := by
      rw [Lib.toList_data]
      have : d.data.toList = [] := List.eq_nil_of_length_eq_zero (by have e : d.data.toList.length = d.size := rfl; omega)
      rw [this]
      rfl
    go_wp2
    go_ret
    exact ⟨ret_bool HN.symm, rfl⟩
/-- The number that a text tells, if it lies within. -/
def numIn (l : List UInt8) (lo hi : Int) : Option Int := match numT l with
  | some v => if lo ≤ v ∧ v ≤ hi then some v else none
  | none => none
def nwV (l : List UInt8) (lo hi : Int) : Value := match numIn l lo hi with
  | some v => .tuple #[.int .i64 v, .bool true]
  | none => .tuple #[.int .i64 0, .bool false]
theorem nwV_none {l : List UInt8} {lo hi : Int} (h : numIn l lo hi = none) : nwV l lo hi = .tuple #[.int .i64 0, .bool false] := by unfold nwV; rw [h]
theorem nwV_some {l : List UInt8} {lo hi v : Int} (h : numIn l lo hi = some v) : nwV l lo hi = .tuple #[.int .i64 v, .bool true] := by unfold nwV; rw [h]
theorem ret_val {a b : Value} (h : a = b) : Ending.returned a = .returned b := by rw [h]
set_option maxHeartbeats 1000000 in
theorem numberWithin_any (s : ByteArray) (lo hi : Int) (w : World) (hs : s.size ≤ 281474976710656) (hlo : -9223372036854775808 ≤ lo) (hhi : hi ≤ 9223372036854775807) (hE : ErrsAt w) :
    Calls Tryz.prog 229 #[.string s, .int .i64 lo, .int .i64 hi] w fun e w' => e = .returned (nwV s.data.toList lo hi) ∧ Below w.heap.size w w' := by
  go_enter Tryz.func229, Tryz.ntmps229
  go_wp2_with fail
  refine (parse_any s w hs hE).mono ?_
  rintro e w1 ⟨hb, hv⟩
  rcases hv with ⟨v, hv, rfl⟩ | ⟨n, T, p, hv, rfl⟩
  · have Hv : Hid (Lib.parseIntB 64 s.data.toList = .ok v) := hv
    clear hv
    by_cases hn : (numT s.data.toList).isSome = true
    · have ht : numT s.data.toList = some v := by
        obtain ⟨u, hu⟩ := Option.isSome_iff_exists.1 hn
        rcases numT_parse hu with ⟨_, _, h⟩ | ⟨_, h⟩
        · rw [Hv.out] at h; cases h; exact hu
        · rw [Hv.out] at h; cases h
      by_cases h1 : lo ≤ v
      · by_cases h2 : v ≤ hi
        · have hN := nwV_some (lo := lo) (hi := hi) (l := s.data.toList) (v := v) (by unfold numIn; rw [ht]; simp [h1, h2])
          go_wp2_with (go_at_call 242; refine (isNumber_any s _ hs).mono ?_; rintro e w2 ⟨rfl, rfl⟩; rw [hn]; try dsimp only)
          go_ret2
          exact ⟨ret_val hN.symm, hb⟩
        · have h2' : hi < v := by omega
          have hN := nwV_none (lo := lo) (hi := hi) (l := s.data.toList) (by unfold numIn; rw [ht]; simp [h1, h2])
          go_wp2_with (go_at_call 242; refine (isNumber_any s _ hs).mono ?_; rintro e w2 ⟨rfl, rfl⟩; rw [hn]; try dsimp only)
          go_ret2
          exact ⟨ret_val hN.symm, hb⟩
      · have h1' : v < lo := by omega
        have hN := nwV_none (lo := lo) (hi := hi) (l := s.data.toList) (by unfold numIn; rw [ht]; simp [h1])
        go_wp2_with (go_at_call 242; refine (isNumber_any s _ hs).mono ?_; rintro e w2 ⟨rfl, rfl⟩; rw [hn]; try dsimp only)
        go_ret2
        exact ⟨ret_val hN.symm, hb⟩
    · have hn' : (numT s.data.toList).isSome = false := by simpa using hn
      have hN := nwV_none (lo := lo) (hi := hi) (l := s.data.toList) (by unfold numIn; rw [Option.isSome_eq_false_iff, Option.isNone_iff_eq_none] at hn'; rw [hn'])
      go_wp2_with (go_at_call 242; refine (isNumber_any s _ hs).mono ?_; rintro e w2 ⟨rfl, rfl⟩; rw [hn']; try dsimp only)
      go_ret2
      exact ⟨ret_val hN.symm, hb⟩
  · have hN := nwV_none (lo := lo) (hi := hi) (l := s.data.toList) (by
      unfold numIn
      cases ht : numT s.data.toList with
      | none => rfl
      | some u =>
        rcases numT_parse ht with ⟨_, _, h⟩ | ⟨h, _⟩
        · exact absurd h (hv u)
        · simp only
          rw [if_neg (by omega)])
    clear hv
    go_wp2
    go_ret2
    exact ⟨ret_val hN.symm, hb⟩
end Go.Proofs.YtkaolpnbddjdpaaGreatDoor
