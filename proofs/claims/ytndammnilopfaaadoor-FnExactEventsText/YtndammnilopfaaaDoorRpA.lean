/- What a report holds; appends to it. -/
import Derived.Test.YtndammnilopfaaaDoorAppTx
import Derived.OneCell
namespace Go.Proofs.YtndammnilopfaaaDoor
open Go.ChangeShapes Go.WideShapes Go.ChangeAt Go.RowKit
theorem infoIt : (Tryd.prog.info? 3).map (fun i => (i.zero, i.size, i.bytes)) = some (some (.int .i64 0), 1, 8) := by kernel_rfl
/-- Where the rows end. -/
def endsOf : Nat → List (List ByteArray) → List Nat
  | _, [] => []
  | n, r :: rs => (n + r.length) :: endsOf (n + r.length) rs
theorem endsOf_len : ∀ (n : Nat) (rs : List (List ByteArray)), (endsOf n rs).length = rs.length
  | _, [] => rfl
  | n, r :: rs => by simp [endsOf, endsOf_len (n + r.length) rs]
theorem endsOf_app : ∀ (n : Nat) (rs : List (List ByteArray)) (c : List ByteArray), endsOf n (rs ++ [c]) = endsOf n rs ++ [n + rs.flatten.length + c.length]
  | n, [], c => by simp [endsOf]
  | n, r :: rs, c => by
    simp only [List.cons_append, endsOf, endsOf_app (n + r.length) rs c, List.flatten_cons, List.length_append]
    rw [show n + r.length + rs.flatten.length = n + (r.length + rs.flatten.length) by omega]
theorem endsOf_at : ∀ (n : Nat) (rs : List (List ByteArray)) (k : Nat), k < rs.length → (endsOf n rs)[k]? = some (n + (rs.take (k + 1)).flatten.length)
  | n, [], k, h => by simp at h
  | n, r :: rs, 0, _ => by simp [endsOf]
  | n, r :: rs, k + 1, h => by
    simp only [endsOf, List.getElem?_cons_succ, List.take_succ_cons, List.flatten_cons, List.length_append]
    rw [endsOf_at (n + r.length) rs k (by simpa using h)]
    simp only [Option.some.injEq]
    omega
def endV (rs : List (List ByteArray)) : List Value := (endsOf 0 rs).map fun (n : Nat) => Value.int .i64 (n : Int)
theorem endV_len (rs : List (List ByteArray)) : (endV rs).length = rs.length := by simp [endV, endsOf_len]
theorem endV_app (rs : List (List ByteArray)) (c : List ByteArray) : endV (rs ++ [c]) = endV rs ++ [.int .i64 ((rs.flatten.length + c.length : Nat) : Int)] := by
  unfold endV
  rw [endsOf_app]
  simp
theorem endV_at {rs : List (List ByteArray)} {k : Nat} (h : k < rs.length) : (endV rs)[k]? = some (.int .i64 (((rs.take (k + 1)).flatten.length : Nat) : Int)) := by
  unfold endV
  rw [List.getElem?_map, endsOf_at 0 rs k h]
  simp
def wordV (rs : List (List ByteArray)) : List Value := rs.flatten.map Value.string
/-- Block R holds the report of these rows. -/
structure Rep (n0 R : Nat) (W : World) (wv ev : Value) (rs : List (List ByteArray)) : Prop where
  box : W.heap[R]? = some (.cells #[wv, ev] 46)
  words : W.ownsRow n0 9 1 wv rs.flatten.length (wordV rs)
  ends : W.ownsRow n0 3 1 ev rs.length (endV rs)
  hR : n0 ≤ R
theorem own1_below {W W' : World} {base e : Nat} {v : Value} {k : Nat} {xs : List Value} (h : W.ownsRow base e 1 v k xs) (hb : Below W.heap.size W W') : W'.ownsRow base e 1 v k xs := by
  refine h.kept (row := none) ⟨hb.os, hb.tape, hb.output, hb.size, fun j hj _ => hb.block j hj⟩ ?_
  rcases h.2 with ⟨e, _⟩ | ⟨g, cap, cur, e, _⟩
  · exact .inl (by rw [e]; rfl)
  · exact .inr (by rw [e]; simp [Value.ownBlock])
theorem Rep.lt {n0 R : Nat} {W : World} {wv ev : Value} {rs : List (List ByteArray)} (h : Rep n0 R W wv ev rs) : R < W.heap.size := (Array.getElem?_eq_some_iff.1 h.box).1
theorem Rep.below {n0 R : Nat} {W W' : World} {wv ev : Value} {rs : List (List ByteArray)} (h : Rep n0 R W wv ev rs) (hb : Below W.heap.size W W') : Rep n0 R W' wv ev rs :=
  ⟨(hb.block _ h.lt).trans h.box, own1_below h.words hb, own1_below h.ends hb, h.hR⟩
theorem Rep.new (W : World) : Rep W.heap.size W.heap.size (W.alloc (.cells #[.slice none 0 0, .slice none 0 0] 46)) (.slice none 0 0) (.slice none 0 0) [] :=
  ⟨World.alloc_heap_new _ _, World.ownsRow_nil _ _ _ _, World.ownsRow_nil _ _ _ _, Nat.le_refl _⟩
theorem rp_apart {B e K n b t : Nat} {W : World} {v : Value} {xs : List Value} {cs : Array Value} (h : W.ownsRow B e K v n xs) (hb : W.heap[b]? = some (.cells cs t)) (hne : e ≠ t) : v.ownBlock ≠ some b := fun hv => by
  rcases h.2 with ⟨rfl, _⟩ | ⟨g, cap, cur, rfl, _, h2, _⟩
  · cases hv
  · simp only [Value.ownBlock, Option.some.injEq] at hv
    subst hv
    have := h2.symm.trans hb
    simp only [Option.some.injEq, Obj.cells.injEq] at this
    exact hne this.2.1
/-- Blocks of other types lie as they lay. -/
def KT (w w' : World) : Prop := ∀ (j : Nat) (cs : Array Value) (t : Nat), w.heap[j]? = some (.cells cs t) → 9 ≠ t → 3 ≠ t → 46 ≠ t → w'.heap[j]? = some (.cells cs t)
theorem KT.trans {a b c : World} (h : KT a b) (h' : KT b c) : KT a c := fun j cs t hj h1 h2 h3 => h' j cs t (h j cs t hj h1 h2 h3) h1 h2 h3
theorem KT.of_below {a b : World} (h : Below a.heap.size a b) : KT a b := fun j _ _ hj _ _ _ => (h.block j (Array.getElem?_eq_some_iff.1 hj).1).trans hj
theorem KT.step {W w4 : World} {n0 e n R k : Nat} {v x : Value} {xs : List Value} {cs0 : Array Value} (hg : W.grownBy w4 v.ownBlock) (ho : W.ownsRow n0 e 1 v n xs) (he : e = 9 ∨ e = 3) (hb : w4.heap[R]? = some (.cells cs0 46)) : KT W (w4.setCell ⟨R, k, none⟩ x) := fun j cs t hj h1 h2 h3 => by
  have h4 : w4.heap[j]? = some (.cells cs t) := (hg.block j (Array.getElem?_eq_some_iff.1 hj).1 (fun e' => rp_apart ho hj (by rcases he with rfl | rfl <;> assumption) e'.symm)).trans hj
  have hne : j ≠ R := fun e' => by
    subst e'
    rw [h4] at hb
    simp only [Option.some.injEq, Obj.cells.injEq] at hb
    exact h3 hb.2.1.symm
  rw [Below.heap_setCell _ _ _ _ hne]
  exact h4
/-- An append of a list of texts, at the list of a plain region's operations. -/
theorem wpList_appsTx {ops : Array Oper} {rest : List Oper} {o : Oper} {a : Act} {Q : Exit → Act → World → Prop} {W : World} {base c C : Nat} {lv : Value} {ss cs : List ByteArray} (hgd : o.guard = none) (s x : Operand)
    (ho : o.op = .call { callee := .builtin .append, args := #[s, x], argTypes := #[43, 43] })
    (hs' : a.eval s = lv) (hx : a.eval x = .slice (some ⟨c, 0, none⟩) cs.length C) (h : W.ownsRow base 9 1 lv ss.length (ss.map Value.string)) (hg : ∀ j t, cs[j]? = some t → W.cell? ⟨c, j, none⟩ = some (.string t)) (hc : 0 < cs.length) (hl : ss.length + cs.length ≤ 2000000) (hbase : base ≤ W.heap.size)
    (k : ∀ v' w', w'.ownsRow base 9 1 v' (ss ++ cs).length ((ss ++ cs).map Value.string) → W.grownBy w' lv.ownBlock → (∃ A C, v' = .slice A (ss ++ cs).length C) → wpList Tryd.prog ops Q rest (a.put o.dst v') w') : wpList Tryd.prog ops Q (o :: rest) a W := by
  obtain ⟨i0, hi, hz0, hz1, hz2⟩ := info_parts infoTx
  refine wpList_append_own W hgd s x 43 ho base 9 i0 (.string ⟨#[]⟩) 1 16 Tryd.underlying43 hi hz0 hz1 hz2 rfl (by decide) lv ss.length (ss.map Value.string) hs' h ⟨c, 0, none⟩ cs.length C (cs.map Value.string) hx (by simp) (fun j u hu => ?_) (fun u hu => ?_) (by unfold maxLen; omega) (by omega) hbase ?_
  · rw [List.getElem?_map] at hu
    obtain ⟨g, hg', rfl⟩ := Option.map_eq_some_iff.1 hu
    rw [fl_addr]
    have := hg j g hg'
    simpa using this
  · obtain ⟨z, _, rfl⟩ := List.mem_map.1 hu
    rfl
  · intro v' w' hown hgrow hnil
    have hown' : w'.ownsRow base 9 1 v' (ss ++ cs).length ((ss ++ cs).map Value.string) := by
      rw [List.map_append, List.length_append]
      exact hown
    refine k v' w' hown' hgrow ?_
    rcases hown'.2 with ⟨rfl, h0⟩ | ⟨b, cap, cur, rfl, _⟩
    · rw [List.length_append] at h0
      omega
    · exact ⟨_, _, rfl⟩
end Go.Proofs.YtndammnilopfaaaDoor
