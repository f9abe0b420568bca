/- Texts of ours put together: GtP, AppTx, RpA, RpW. -/
import Derived.Test.YtamlhbjcokkmeaaGreatDoorG03
import Derived.Test.YtamlhbjcokkmeaaGreatDoorG14
import Derived.Test.YtamlhbjcokkmeaaGreatDoorG15
import Derived.Test.YtamlhbjcokkmeaaGreatDoorG00
import Derived.Laws.AppendOwn
import Derived.Maps.AppendAt
import Derived.OneCell
import Derived.Deep.AppendLies
import Derived.Deep.RegionLaw
import Derived.Deep.Cut
import Derived.Deep.CutRange
namespace Go.Proofs.YtamlhbjcokkmeaaGreatDoor
open Go.ChangeShapes Go.WideShapes Go.ChangeAt Go.RowKit
/-- One of rising Partners, at its place. -/
structure OkP (ps : List Ptn) (k : Nat) (p : Ptn) : Prop where
  ok : ptnB p = true
  rise : ∀ d, 0 < k → ps[k - 1]? = some d → Op.bytesLess d.name.toList p.name.toList = true
structure RightP (ps : List Ptn) : Prop where
  len : ps.length ≤ 20
  at_ : ∀ i p, ps[i]? = some p → OkP ps i p
open Classical in
noncomputable def ptsB (ps : List Ptn) : Bool := decide (RightP ps)
theorem ptsB_yes {ps : List Ptn} (h : RightP ps) : ptsB ps = true := by simp [ptsB, h]
theorem ptsB_no {ps : List Ptn} (h : ¬ RightP ps) : ptsB ps = false := by simp [ptsB, h]
theorem ptsB_iff {ps : List Ptn} : ptsB ps = true ↔ RightP ps := by simp [ptsB]
theorem ptnB_name {p : Ptn} (h : ptnB p = true) : nameB p.name = true := by
  simp only [ptnB, Bool.and_eq_true] at h
  exact h.1
def dfB (g : Gat) : Bool := decide (g.dffs.length ≤ 200)
noncomputable def gtB (g : Gat) : Bool := nameB g.name && (dayB g.day && (ptsB g.ptns && (rightB g.crss && (bkB g.book && (dfB g && ousB g.outs)))))
theorem bl_firstG {t : ByteArray} (h : nameB t = true) : Op.bytesLess (ByteArray.toList ⟨#[]⟩) t.toList = true := by
  have h1 := (nameB_sizes h).1
  cases hl : t.data.toList with
  | nil =>
    have : t.data.toList.length = 0 := by rw [hl]; rfl
    have e : t.size = t.data.toList.length := by simp
    omega
  | cons x r => rw [ByteArray.toList_eq, ByteArray.toList_eq, hl]; rfl
theorem bl_neG {a b : List UInt8} (h : Op.bytesLess a b = true) : (b == a) = false := by
  cases e : b == a with
  | false => rfl
  | true =>
    rw [beq_iff_eq] at e
    rw [e, bl_irrefl] at h
    cases h
theorem ptp_lt {rs : List Ptn} {k : Nat} {c : Ptn} {s : ByteArray} (h : OkP rs k c) (hk : k ≤ rs.length) (h0 : k = 0 → s = ⟨#[]⟩) (h1 : ∀ d, 0 < k → rs[k - 1]? = some d → d.name = s) : Op.bytesLess s.toList c.name.toList = true := by
  rcases Nat.eq_zero_or_pos k with g | g
  · rw [h0 g]
    exact bl_firstG (ptnB_name h.ok)
  · have e := List.getElem?_eq_getElem (l := rs) (i := k - 1) (by omega)
    have := h.rise _ g e
    rw [← h1 _ g e]
    exact this
theorem ptp_ok {rs : List Ptn} {k : Nat} {c : Ptn} {s : ByteArray} (ho : ptnB c = true) (hx : Op.bytesLess c.name.toList s.toList = false) (hy : (c.name.toList == s.toList) = false) (h1 : ∀ d, 0 < k → rs[k - 1]? = some d → d.name = s) : OkP rs k c := by
  refine ⟨ho, fun d h0 hd => ?_⟩
  rw [h1 d h0 hd]
  cases e : Op.bytesLess s.toList c.name.toList with
  | true => rfl
  | false =>
    have := bl_tri hx e
    rw [this] at hy
    simp at hy
end Go.Proofs.YtamlhbjcokkmeaaGreatDoor
namespace Go.Proofs.YtamlhbjcokkmeaaGreatDoor
open Go.ChangeShapes Go.WideShapes Go.ChangeAt Go.RowKit
theorem infoTx : (Tryz.prog.info? 9).map (fun i => (i.zero, i.size, i.bytes)) = some (some (.string ⟨#[]⟩), 1, 16) := by kernel_rfl
theorem own0Tx (w : World) {B : Nat} (hB : B ≤ w.heap.size) : (w.alloc (.cells #[] 9)).ownsRow B 9 1 (.slice (some ⟨w.heap.size, 0, none⟩) 0 0) 0 [] :=
  ⟨rfl, .inr ⟨w.heap.size, 0, #[], rfl, hB, World.alloc_heap_new _ _, Nat.le_refl _, Nat.zero_le _, rfl, rfl⟩⟩
/-- An append of one text, at the list of a plain region's operations. -/
theorem wpList_appTx {ops : Array Oper} {rest : List Oper} {o : Oper} {a : Act} {Q : Exit → Act → World → Prop} {W : World} {base c C : Nat} {lv : Value} {ss : List ByteArray} {t : ByteArray} (hgd : o.guard = none) (s x : Operand)
    (ho : o.op = .call { callee := .builtin .append, args := #[s, x], argTypes := #[63, 63] })
    (hs' : a.eval s = lv) (hx : a.eval x = .slice (some ⟨c, 0, none⟩) 1 C) (h : W.ownsRow base 9 1 lv ss.length (ss.map Value.string)) (hg : W.cell? ⟨c, 0, none⟩ = some (.string t)) (hl : ss.length + 1 ≤ 2000000) (hbase : base ≤ W.heap.size)
    (k : ∀ v' w', w'.ownsRow base 9 1 v' (ss.length + 1) ((ss ++ [t]).map Value.string) → W.grownBy w' lv.ownBlock → (∃ A C, v' = .slice A (ss.length + 1) C) → wpList Tryz.prog ops Q rest (a.put o.dst v') w') : wpList Tryz.prog ops Q (o :: rest) a W := by
  obtain ⟨i0, hi, hz0, hz1, hz2⟩ := info_parts infoTx
  refine wpList_append_own W hgd s x 63 ho base 9 i0 (.string ⟨#[]⟩) 1 16 Tryz.underlying63 hi hz0 hz1 hz2 rfl (by decide) lv ss.length (ss.map Value.string) hs' h ⟨c, 0, none⟩ 1 C [.string t] hx rfl (fun j u hu => ?_) (fun u hu => ?_) (by unfold maxLen; omega) (by omega) hbase ?_
  · have hj := (List.getElem?_eq_some_iff.1 hu).1
    have hj1 : j < 1 := hj
    obtain rfl : j = 0 := by omega
    simp only [List.getElem?_cons_zero, Option.some.injEq] at hu
    subst hu
    rw [fl_addr]
    exact hg
  · rw [List.mem_singleton.1 hu]
    rfl
  · intro v' w' hown hgrow hnil
    have hown' : w'.ownsRow base 9 1 v' (ss.length + 1) ((ss ++ [t]).map Value.string) := by
      rw [List.map_append]
      exact hown
    refine k v' w' hown' hgrow ?_
    rcases hown'.2 with ⟨rfl, h0⟩ | ⟨b, cap, cur, rfl, _⟩
    · omega
    · exact ⟨_, _, rfl⟩
theorem appTx_below {w W w' : World} {base : Nat} {lv : Value} {n : Nat} {xs : List Value} (hb : Below base w W) (h : W.ownsRow base 9 1 lv n xs) (hg : W.grownBy w' lv.ownBlock) (hB : base ≤ W.heap.size) : Below base w w' :=
  hb.trans ⟨hg.os, hg.tape, hg.output, hg.size, fun q hq => hg.block q (by omega) (fun e => by have := (h.lt q e.symm).1; omega)⟩
theorem ownTx_down {W : World} {base base' : Nat} {e : TypeId} {size : Nat} {v : Value} {k : Nat} {xs : List Value} (h : W.ownsRow base e size v k xs) (hb : base' ≤ base) : W.ownsRow base' e size v k xs := by
  obtain ⟨h1, h2⟩ := h
  refine ⟨h1, ?_⟩
  rcases h2 with h2 | ⟨g, cap, cur, e1, h3, h4⟩
  · exact .inl h2
  · exact .inr ⟨g, cap, cur, e1, by omega, h4⟩
theorem ownTx_below {W W' : World} {base : Nat} {v : Value} {k : Nat} {xs : List Value} (h : W.ownsRow base 9 1 v k xs) (hb : Below W.heap.size W W') : W'.ownsRow base 9 1 v k xs := by
  refine h.kept (row := none) ⟨hb.os, hb.tape, hb.output, hb.size, fun j hj _ => hb.block j hj⟩ ?_
  rcases h.2 with ⟨e, _⟩ | ⟨g, cap, cur, e, _⟩
  · exact .inl (by rw [e]; rfl)
  · exact .inr (by rw [e]; simp [Value.ownBlock])
end Go.Proofs.YtamlhbjcokkmeaaGreatDoor
namespace Go.Proofs.YtamlhbjcokkmeaaGreatDoor
open Go.ChangeShapes Go.WideShapes Go.ChangeAt Go.RowKit
theorem infoIt : (Tryz.prog.info? 3).map (fun i => (i.zero, i.size, i.bytes)) = some (some (.int .i64 0), 1, 8) := by kernel_rfl
/-- Where the rows end. -/
def endsOf : Nat → List (List ByteArray) → List Nat
  | _, [] => []
  | n, r :: rs => (n + r.length) :: endsOf (n + r.length) rs
theorem endsOf_len : ∀ (n : Nat) (rs : List (List ByteArray)), (endsOf n rs).length = rs.length
  | _, [] => rfl
  | n, r :: rs => by simp [endsOf, endsOf_len (n + r.length) rs]
theorem endsOf_app : ∀ (n : Nat) (rs : List (List ByteArray)) (c : List ByteArray), endsOf n (rs ++ [c]) = endsOf n rs ++ [n + rs.flatten.length + c.length]
  | n, [], c => by simp [endsOf]
  | n, r :: rs, c => by
    simp only [List.cons_append, endsOf, endsOf_app (n + r.length) rs c, List.flatten_cons, List.length_append]
    rw [show n + r.length + rs.flatten.length = n + (r.length + rs.flatten.length) by omega]
theorem endsOf_at : ∀ (n : Nat) (rs : List (List ByteArray)) (k : Nat), k < rs.length → (endsOf n rs)[k]? = some (n + (rs.take (k + 1)).flatten.length)
  | n, [], k, h => by simp at h
  | n, r :: rs, 0, _ => by simp [endsOf]
  | n, r :: rs, k + 1, h => by
    simp only [endsOf, List.getElem?_cons_succ, List.take_succ_cons, List.flatten_cons, List.length_append]
    rw [endsOf_at (n + r.length) rs k (by simpa using h)]
    simp only [Option.some.injEq]
    omega
def endV (rs : List (List ByteArray)) : List Value := (endsOf 0 rs).map fun (n : Nat) => Value.int .i64 (n : Int)
theorem endV_len (rs : List (List ByteArray)) : (endV rs).length = rs.length := by simp [endV, endsOf_len]
theorem endV_app (rs : List (List ByteArray)) (c : List ByteArray) : endV (rs ++ [c]) = endV rs ++ [.int .i64 ((rs.flatten.length + c.length : Nat) : Int)] := by
  unfold endV
  rw [endsOf_app]
  simp
theorem endV_at {rs : List (List ByteArray)} {k : Nat} (h : k < rs.length) : (endV rs)[k]? = some (.int .i64 (((rs.take (k + 1)).flatten.length : Nat) : Int)) := by
  unfold endV
  rw [List.getElem?_map, endsOf_at 0 rs k h]
  simp
def wordV (rs : List (List ByteArray)) : List Value := rs.flatten.map Value.string
/-- Block R holds the report of these rows. -/
structure Rep (n0 R : Nat) (W : World) (wv ev : Value) (rs : List (List ByteArray)) : Prop where
  box : W.heap[R]? = some (.cells #[wv, ev] 66)
  words : W.ownsRow n0 9 1 wv rs.flatten.length (wordV rs)
  ends : W.ownsRow n0 3 1 ev rs.length (endV rs)
  hR : n0 ≤ R
theorem own1_below {W W' : World} {base e : Nat} {v : Value} {k : Nat} {xs : List Value} (h : W.ownsRow base e 1 v k xs) (hb : Below W.heap.size W W') : W'.ownsRow base e 1 v k xs := by
  refine h.kept (row := none) ⟨hb.os, hb.tape, hb.output, hb.size, fun j hj _ => hb.block j hj⟩ ?_
  rcases h.2 with ⟨e, _⟩ | ⟨g, cap, cur, e, _⟩
  · exact .inl (by rw [e]; rfl)
  · exact .inr (by rw [e]; simp [Value.ownBlock])
theorem Rep.lt {n0 R : Nat} {W : World} {wv ev : Value} {rs : List (List ByteArray)} (h : Rep n0 R W wv ev rs) : R < W.heap.size := (Array.getElem?_eq_some_iff.1 h.box).1
theorem Rep.below {n0 R : Nat} {W W' : World} {wv ev : Value} {rs : List (List ByteArray)} (h : Rep n0 R W wv ev rs) (hb : Below W.heap.size W W') : Rep n0 R W' wv ev rs :=
  ⟨(hb.block _ h.lt).trans h.box, own1_below h.words hb, own1_below h.ends hb, h.hR⟩
theorem Rep.new (W : World) : Rep W.heap.size W.heap.size (W.alloc (.cells #[.slice none 0 0, .slice none 0 0] 66)) (.slice none 0 0) (.slice none 0 0) [] :=
  ⟨World.alloc_heap_new _ _, World.ownsRow_nil _ _ _ _, World.ownsRow_nil _ _ _ _, Nat.le_refl _⟩
theorem rp_apart {B e K n b t : Nat} {W : World} {v : Value} {xs : List Value} {cs : Array Value} (h : W.ownsRow B e K v n xs) (hb : W.heap[b]? = some (.cells cs t)) (hne : e ≠ t) : v.ownBlock ≠ some b := fun hv => by
  rcases h.2 with ⟨rfl, _⟩ | ⟨g, cap, cur, rfl, _, h2, _⟩
  · cases hv
  · simp only [Value.ownBlock, Option.some.injEq] at hv
    subst hv
    have := h2.symm.trans hb
    simp only [Option.some.injEq, Obj.cells.injEq] at this
    exact hne this.2.1
/-- Blocks of other types lie as they lay. -/
def KT (w w' : World) : Prop := ∀ (j : Nat) (cs : Array Value) (t : Nat), w.heap[j]? = some (.cells cs t) → 9 ≠ t → 3 ≠ t → 66 ≠ t → w'.heap[j]? = some (.cells cs t)
theorem KT.trans {a b c : World} (h : KT a b) (h' : KT b c) : KT a c := fun j cs t hj h1 h2 h3 => h' j cs t (h j cs t hj h1 h2 h3) h1 h2 h3
theorem KT.of_below {a b : World} (h : Below a.heap.size a b) : KT a b := fun j _ _ hj _ _ _ => (h.block j (Array.getElem?_eq_some_iff.1 hj).1).trans hj
theorem KT.step {W w4 : World} {n0 e n R k : Nat} {v x : Value} {xs : List Value} {cs0 : Array Value} (hg : W.grownBy w4 v.ownBlock) (ho : W.ownsRow n0 e 1 v n xs) (he : e = 9 ∨ e = 3) (hb : w4.heap[R]? = some (.cells cs0 66)) : KT W (w4.setCell ⟨R, k, none⟩ x) := fun j cs t hj h1 h2 h3 => by
  have h4 : w4.heap[j]? = some (.cells cs t) := (hg.block j (Array.getElem?_eq_some_iff.1 hj).1 (fun e' => rp_apart ho hj (by rcases he with rfl | rfl <;> assumption) e'.symm)).trans hj
  have hne : j ≠ R := fun e' => by
    subst e'
    rw [h4] at hb
    simp only [Option.some.injEq, Obj.cells.injEq] at hb
    exact h3 hb.2.1.symm
  rw [Below.heap_setCell _ _ _ _ hne]
  exact h4
/-- An append of a list of texts, at the list of a plain region's operations. -/
theorem wpList_appsTx {ops : Array Oper} {rest : List Oper} {o : Oper} {a : Act} {Q : Exit → Act → World → Prop} {W : World} {base c C : Nat} {lv : Value} {ss cs : List ByteArray} (hgd : o.guard = none) (s x : Operand)
    (ho : o.op = .call { callee := .builtin .append, args := #[s, x], argTypes := #[63, 63] })
    (hs' : a.eval s = lv) (hx : a.eval x = .slice (some ⟨c, 0, none⟩) cs.length C) (h : W.ownsRow base 9 1 lv ss.length (ss.map Value.string)) (hg : ∀ j t, cs[j]? = some t → W.cell? ⟨c, j, none⟩ = some (.string t)) (hc : 0 < cs.length) (hl : ss.length + cs.length ≤ 2000000) (hbase : base ≤ W.heap.size)
    (k : ∀ v' w', w'.ownsRow base 9 1 v' (ss ++ cs).length ((ss ++ cs).map Value.string) → W.grownBy w' lv.ownBlock → (∃ A C, v' = .slice A (ss ++ cs).length C) → wpList Tryz.prog ops Q rest (a.put o.dst v') w') : wpList Tryz.prog ops Q (o :: rest) a W := by
  obtain ⟨i0, hi, hz0, hz1, hz2⟩ := info_parts infoTx
  refine wpList_append_own W hgd s x 63 ho base 9 i0 (.string ⟨#[]⟩) 1 16 Tryz.underlying63 hi hz0 hz1 hz2 rfl (by decide) lv ss.length (ss.map Value.string) hs' h ⟨c, 0, none⟩ cs.length C (cs.map Value.string) hx (by simp) (fun j u hu => ?_) (fun u hu => ?_) (by unfold maxLen; omega) (by omega) hbase ?_
  · rw [List.getElem?_map] at hu
    obtain ⟨g, hg', rfl⟩ := Option.map_eq_some_iff.1 hu
    rw [fl_addr]
    have := hg j g hg'
    simpa using this
  · obtain ⟨z, _, rfl⟩ := List.mem_map.1 hu
    rfl
  · intro v' w' hown hgrow hnil
    have hown' : w'.ownsRow base 9 1 v' (ss ++ cs).length ((ss ++ cs).map Value.string) := by
      rw [List.map_append, List.length_append]
      exact hown
    refine k v' w' hown' hgrow ?_
    rcases hown'.2 with ⟨rfl, h0⟩ | ⟨b, cap, cur, rfl, _⟩
    · rw [List.length_append] at h0
      omega
    · exact ⟨_, _, rfl⟩
end Go.Proofs.YtamlhbjcokkmeaaGreatDoor
namespace Go.Proofs.YtamlhbjcokkmeaaGreatDoor
open Go.ChangeShapes Go.WideShapes Go.ChangeAt Go.RowKit
theorem rep_words {n0 R : Nat} {W w4 : World} {wv ev v4 : Value} {rs : List (List ByteArray)} {cs : List ByteArray} (h : Rep n0 R W wv ev rs) (hg : W.grownBy w4 wv.ownBlock) (hs : n0 ≤ W.heap.size) (ho : w4.ownsRow n0 9 1 v4 (rs.flatten ++ cs).length ((rs.flatten ++ cs).map Value.string)) :
    (w4.setCell ⟨R, 0, none⟩ v4).heap[R]? = some (.cells #[v4, ev] 66) ∧ (w4.setCell ⟨R, 0, none⟩ v4).ownsRow n0 9 1 v4 (rs.flatten ++ cs).length ((rs.flatten ++ cs).map Value.string) ∧ (w4.setCell ⟨R, 0, none⟩ v4).ownsRow n0 3 1 ev rs.length (endV rs) ∧ Below n0 W (w4.setCell ⟨R, 0, none⟩ v4) ∧ w4.heap[R]? = some (.cells #[wv, ev] 66) ∧ KT W (w4.setCell ⟨R, 0, none⟩ v4) := by
  have hb : w4.heap[R]? = some (.cells #[wv, ev] 66) := (hg.block R h.lt (fun e => rp_apart h.words h.box (by decide) e.symm)).trans h.box
  have he : w4.ownsRow n0 3 1 ev rs.length (endV rs) := by
    rcases h.ends.2 with ⟨e1, e2⟩ | ⟨g, cap, cur, e1, h1, h2, h3⟩
    · exact ⟨h.ends.1, .inl ⟨e1, e2⟩⟩
    · refine ⟨h.ends.1, .inr ⟨g, cap, cur, e1, h1, ?_, h3⟩⟩
      exact (hg.block g (Array.getElem?_eq_some_iff.1 h2).1 (fun e => rp_apart h.words h2 (by decide) e.symm)).trans h2
  have hbl : Below n0 W w4 := ⟨hg.os, hg.tape, hg.output, hg.size, fun j hj => hg.block j (by omega) (fun e => by have := (h.words.lt j e.symm).1; omega)⟩
  refine ⟨?_, ownsRow_setCell_other (a := ⟨R, 0, none⟩) ho (rp_apart ho hb (by decide)) _, ownsRow_setCell_other (a := ⟨R, 0, none⟩) he (rp_apart he hb (by decide)) _, hbl.setCell h.hR _, hb, KT.step hg h.words (.inl rfl) hb⟩
  simp [World.setCell, Array.getElem?_modify, hb]
theorem rep_ends {n0 R : Nat} {W w4 : World} {v4 ev u : Value} {o : Obj} {rs : List (List ByteArray)} {cs : List ByteArray} (hR : n0 ≤ R) (hx : W.heap[R]? = some (.cells #[v4, ev] 66)) (hw : W.ownsRow n0 9 1 v4 (rs.flatten ++ cs).length ((rs.flatten ++ cs).map Value.string)) (he : W.ownsRow n0 3 1 ev rs.length (endV rs)) (hg : (W.alloc o).drew.grownBy w4 ev.ownBlock) (hs : n0 ≤ W.heap.size) (ho : w4.ownsRow n0 3 1 u (rs.length + 1) (endV rs ++ [.int .i64 ((rs.flatten.length + cs.length : Nat) : Int)])) :
    Rep n0 R (w4.setCell ⟨R, 1, none⟩ u) v4 u (rs ++ [cs]) ∧ Below n0 W (w4.setCell ⟨R, 1, none⟩ u) ∧ w4.heap[R]? = some (.cells #[v4, ev] 66) ∧ KT W (w4.setCell ⟨R, 1, none⟩ u) := by
  have hRl := (Array.getElem?_eq_some_iff.1 hx).1
  have ha : Below W.heap.size W (W.alloc o).drew := ((Below.refl _ _).alloc (Nat.le_refl _) o).drew
  have hx' : (W.alloc o).drew.heap[R]? = some (.cells #[v4, ev] 66) := (ha.block _ hRl).trans hx
  have he' := own1_below he ha
  have hw' := own1_below hw ha
  have hsz := ha.size
  have hb : w4.heap[R]? = some (.cells #[v4, ev] 66) := (hg.block R (by omega) (fun e => rp_apart he' hx' (by decide) e.symm)).trans hx'
  have hww : w4.ownsRow n0 9 1 v4 (rs.flatten ++ cs).length ((rs.flatten ++ cs).map Value.string) := by
    rcases hw'.2 with ⟨e1, e2⟩ | ⟨g, cap, cur, e1, h1, h2, h3⟩
    · exact ⟨hw'.1, .inl ⟨e1, e2⟩⟩
    · refine ⟨hw'.1, .inr ⟨g, cap, cur, e1, h1, ?_, h3⟩⟩
      exact (hg.block g (Array.getElem?_eq_some_iff.1 h2).1 (fun e => rp_apart he' h2 (by decide) e.symm)).trans h2
  have hbl : Below n0 W w4 := (ha.mono hs).trans ⟨hg.os, hg.tape, hg.output, hg.size, fun j hj => hg.block j (by omega) (fun e => by have := (he'.lt j e.symm).1; omega)⟩
  refine ⟨⟨?_, ?_, ?_, hR⟩, hbl.setCell hR _, hb, (KT.of_below ha).trans (KT.step hg he' (.inr rfl) hb)⟩
  · simp [World.setCell, Array.getElem?_modify, hb]
  · have := ownsRow_setCell_other (a := ⟨R, 1, none⟩) hww (rp_apart hww hb (by decide)) u
    unfold wordV
    rw [List.flatten_append, List.flatten_singleton]
    exact this
  · have := ownsRow_setCell_other (a := ⟨R, 1, none⟩) ho (rp_apart ho hb (by decide)) u
    rw [endV_app, List.length_append]
    exact this
theorem rp_box {W : World} {b t : Nat} {x0 x1 : Value} (h : W.heap[b]? = some (.cells #[x0, x1] t)) : W.cell? ⟨b, 0, none⟩ = some x0 ∧ W.cell? ⟨b, 1, none⟩ = some x1 ∧ W.frozen? ⟨b, 0, none⟩ = false ∧ W.frozen? ⟨b, 1, none⟩ = false := by
  simp [World.cell?, World.frozen?, h]
theorem own_form {W : World} {base e n : Nat} {v : Value} {xs : List Value} (h : W.ownsRow base e 1 v n xs) : ∃ A C, v = .slice A n C := by
  rcases h.2 with ⟨rfl, rfl⟩ | ⟨g, cap, cur, rfl, _⟩
  · exact ⟨_, _, rfl⟩
  · exact ⟨_, _, rfl⟩
set_option maxHeartbeats 8000000 in
theorem write_any (n0 R c C : Nat) (wv ev : Value) (rs : List (List ByteArray)) (cs : List ByteArray) (w : World) (h : Rep n0 R w wv ev rs) (hg : ∀ j t, cs[j]? = some t → w.cell? ⟨c, j, none⟩ = some (.string t)) (hc : 0 < cs.length) (hl : rs.flatten.length + cs.length ≤ 1000000) (hr : rs.length ≤ 1000000) (hs : n0 ≤ w.heap.size) :
    Calls Tryz.prog 26 #[.pointer (some ⟨R, 0, none⟩), .slice (some ⟨c, 0, none⟩) cs.length C] w fun e w' => e = .returned (.tuple #[]) ∧ (∃ wv' ev', Rep n0 R w' wv' ev' (rs ++ [cs])) ∧ Below n0 w w' ∧ KT w w' := by
  obtain ⟨A0, C0, rfl⟩ := own_form h.words
  obtain ⟨A1, C1, rfl⟩ := own_form h.ends
  have HH : Hid (Rep n0 R w (.slice A0 rs.flatten.length C0) (.slice A1 rs.length C1) rs) := h
  obtain ⟨k0, k1, f0, f1⟩ := rp_box h.box
  have hrow := h.words
  unfold wordV at hrow
  obtain ⟨ss, hss⟩ : ∃ ss, ss = rs.flatten := ⟨_, rfl⟩
  rw [← hss] at hrow k0 hl
  have HS : Hid (ss = rs.flatten) := hss
  have hl2 : ss.length + cs.length ≤ 2000000 := by omega
  have hRn := h.hR
  try rw [← hss]
  clear h hss
  go_enter Tryz.func26, Tryz.ntmps26
  go_wp2_with (first | (at_builtin; refine wpList_appsTx (base := n0) (c := c) (C := C) (lv := .slice A0 ss.length C0) (ss := ss) (cs := cs) rfl (.tmp 8) (.tmp 9) rfl rfl rfl hrow hg hc hl2 hs ?_; rintro v4 w4 hown4 hgrow4 ⟨A4, C4, rfl⟩; have k4 := rep_words HH.out (by rw [← HS.out]; exact hgrow4) hs (by rw [← HS.out]; exact hown4); obtain ⟨m0, m1, n0', n1'⟩ := rp_box k4.2.2.2.2.1; try rw [← HS.out] at m0))
  have e4 : (ss ++ cs).length = ss.length + cs.length := List.length_append
  rw [e4] at k4
  obtain ⟨N, hN⟩ : ∃ N, N = ss.length + cs.length := ⟨_, rfl⟩
  rw [← hN] at k4 ⊢
  have hN1 : N ≤ 1000000 := by omega
  have HN : Hid (N = rs.flatten.length + cs.length) := by show _ = _; rw [hN, HS.out]
  obtain ⟨W5, hW5⟩ : ∃ W5, w4.setCell ⟨R, 0, none⟩ (.slice A4 N C4) = W5 := ⟨_, rfl⟩
  rw [hW5] at k4 ⊢
  clear hW5 e4 hN m0 m1 n0' n1' k0 k1 f0 f1 hown4 hgrow4 hrow hg hl hl2
  obtain ⟨x5, y5, hE, b5, _, kt5⟩ := k4
  obtain ⟨p0, p1, q0, q1⟩ := rp_box x5
  have hs5 : n0 ≤ W5.heap.size := Nat.le_trans hs b5.size
  have H5 : Hid (W5.heap[R]? = some (.cells #[.slice A4 N C4, .slice A1 rs.length C1] 66) ∧ W5.ownsRow n0 9 1 (.slice A4 N C4) (rs.flatten ++ cs).length ((rs.flatten ++ cs).map Value.string) ∧ W5.ownsRow n0 3 1 (.slice A1 rs.length C1) rs.length (endV rs) ∧ Below n0 w W5 ∧ KT w W5) := ⟨x5, y5, hE, b5, kt5⟩
  have x5a : (W5.alloc (.cells #[.int .i64 (N : Int)] 3)).heap[R]? = some (.cells #[.slice A4 N C4, .slice A1 rs.length C1] 66) := (((Below.refl _ W5).alloc (Nat.le_refl _) _).block _ (Array.getElem?_eq_some_iff.1 x5).1).trans x5
  obtain ⟨pa0, pa1, qa0, qa1⟩ := rp_box x5a
  clear x5 y5 b5 HH HS x5a kt5
  obtain ⟨i0, hi, hz0, hz1, hz2⟩ := info_parts infoIt
  have hmx : rs.length + 1 ≤ maxLen := by unfold maxLen; omega
  go_region_law (refine step_append_lies _ (by rfl) _ _ _ (by rfl) n0 3 i0 _ 1 8 Tryz.underlying64 hi hz0 hz1 hz2 rfl (by omega) (.slice A1 rs.length C1) rs.length (endV rs) (by rfl) ((hE.alloc _).drew) ⟨W5.heap.size, 0, none⟩ 1 1 [.int .i64 (N : Int)] (by rfl) (by rfl) (World.news_of_block (cs := #[.int .i64 (N : Int)]) (t := 3) (fr := (0, 0)) (World.alloc_heap_new W5 (.cells #[.int .i64 (N : Int)] 3))) (by simp [Value.oneCell']) (by omega) hmx (by omega) (by simp; omega) (W5.heap.size + 1) (by simp) ?_; intro gg cap w6 hown6 hgrow6 hat6 hlt6; have k6 := rep_ends hRn H5.out.1 H5.out.2.1 H5.out.2.2.1 hgrow6 hs5 (by rw [← HN.out]; exact hown6); obtain ⟨g0, g1, j0, j1⟩ := rp_box k6.2.2.1)
  all_goals
    have HF : Hid (Rep n0 R (w6.setCell ⟨R, 1, none⟩ (.slice (some ⟨gg, 0, none⟩) (rs.length + 1) cap)) (.slice A4 N C4) (.slice (some ⟨gg, 0, none⟩) (rs.length + 1) cap) (rs ++ [cs]) ∧ Below n0 w (w6.setCell ⟨R, 1, none⟩ (.slice (some ⟨gg, 0, none⟩) (rs.length + 1) cap)) ∧ KT w (w6.setCell ⟨R, 1, none⟩ (.slice (some ⟨gg, 0, none⟩) (rs.length + 1) cap))) := ⟨k6.1, H5.out.2.2.2.1.trans k6.2.1, H5.out.2.2.2.2.trans k6.2.2.2⟩
    clear k6 hown6 hgrow6 hat6 hlt6
    go_wp2
    go_end0
    exact ⟨rfl, ⟨_, _, HF.out.1⟩, HF.out.2.1, HF.out.2.2⟩
end Go.Proofs.YtamlhbjcokkmeaaGreatDoor
