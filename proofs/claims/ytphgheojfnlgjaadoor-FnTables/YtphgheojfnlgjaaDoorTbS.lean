/- What stands while a body is drawn by its table: the list, the parts at hand; one thing more, one thing less, one thing another. -/
import Derived.Test.YtphgheojfnlgjaaDoorOwnWL
import Derived.Test.YtphgheojfnlgjaaDoorIxE
import Derived.Test.YtphgheojfnlgjaaDoorTabOwn
import Derived.Laws.OwnMore
namespace Go.Proofs.YtphgheojfnlgjaaDoor
open Go.ChangeShapes Go.WideShapes Go.ChangeAt Go.RowKit Go.Shelf
theorem cellsZ_cut {gs : List Seg} {ps : List (Value × List Value)} (h : ps.length = gs.length) (k : Nat) : cellsL gs ps = cellsL (gs.take k) (ps.take k) ++ cellsL (gs.drop k) (ps.drop k) := by
  rw [← cellsL_app (by rw [List.length_take, List.length_take, h]), List.take_append_drop, List.take_append_drop]
theorem cellsZ_dropAt {gs : List Seg} {ps : List (Value × List Value)} (h : ps.length = gs.length) {k : Nat} (hk : k ≤ gs.length) {j : Nat} {u : Value} (hu : (cellsL (gs.drop k) (ps.drop k))[j]? = some u) : (cellsL gs ps)[k * 2 + j]? = some u := by
  have hl : (cellsL (gs.take k) (ps.take k)).length = k * 2 := by
    rw [cellsL_len (by rw [List.length_take, List.length_take, h]), List.length_take]
    omega
  rw [cellsZ_cut h k, List.getElem?_append_right (by omega), hl]
  have e : k * 2 + j - k * 2 = j := by omega
  rw [e]
  exact hu
theorem cellsZ_one {ps : List (Value × List Value)} {gs : List Seg} (h : ∀ p ∈ ps, ∃ A N C, p.1 = .slice A N C) : ∀ u ∈ cellsL gs ps, u.oneCell' = true := by
  intro u hu
  unfold cellsL at hu
  obtain ⟨x, hx, hu⟩ := List.mem_flatMap.1 hu
  simp only [List.mem_cons, List.not_mem_nil, or_false] at hu
  rcases hu with rfl | rfl
  · rfl
  · obtain ⟨A, N, C, e⟩ := h x.2 (List.of_mem_zip hx).2
    rw [e]
    rfl
theorem cellsZ_set : ∀ {gs : List Seg} {ps : List (Value × List Value)} (k : Nat) (g : Seg) (p : Value × List Value), ps.length = gs.length → cellsL (gs.set k g) (ps.set k p) = ((cellsL gs ps).set (k * 2) (.string g.1)).set (k * 2 + 1) p.1
  | [], [], _, _, _, _ => rfl
  | [], _ :: _, _, _, _, h => by simp at h
  | _ :: _, [], _, _, _, h => by simp at h
  | x :: gs, y :: ps, 0, g, p, _ => by simp [cellsL]
  | x :: gs, y :: ps, k + 1, g, p, h => by
    have ih := cellsZ_set (gs := gs) (ps := ps) k g p (by simpa using h)
    have e1 : (k + 1) * 2 = k * 2 + 1 + 1 := by omega
    unfold cellsL at ih ⊢
    simp only [List.set_cons_succ, List.zip_cons_cons, List.flatMap_cons, e1, List.cons_append, List.nil_append]
    rw [ih]
theorem emptyZ {W : World} {N E t s : Nat} (h : W.heap[E]? = some (.cells #[] t)) (hN : N ≤ E) : W.ownsRow N t s (.slice (some ⟨E, 0, none⟩) 0 0) 0 [] := by
  refine ⟨by simp, .inr ⟨E, 0, #[], rfl, hN, h, Nat.le_refl _, Nat.zero_le _, by simp, by simp⟩⟩
theorem sliceZ {n₀ t z k : Nat} {W : World} {v : Value} {xs : List Value} (h : W.ownsRow n₀ t z v k xs) : ∃ A C, v = .slice A k C := by
  rcases h.2 with ⟨rfl, h0⟩ | ⟨g, cap, cur, rfl, _⟩
  · exact ⟨none, 0, by rw [h0]⟩
  · exact ⟨_, _, rfl⟩
theorem own_rowS100 {W : World} {n₀ : Nat} {v : Value} {ss : List ByteArray} (h : W.ownsRow n₀ 9 1 v ss.length (ss.map Value.string)) (hl : ss.length ≤ 1048576) (hz : ∀ t ∈ ss, t.size ≤ 100) : RowS W v ss := by
  refine ⟨?_, by omega, fun i t hi => Nat.le_trans (hz t (List.mem_of_getElem? hi)) (by omega)⟩
  rcases h.2 with ⟨rfl, h0⟩ | ⟨g, cap, cur, rfl, _⟩
  · exact ⟨none, 0, by rw [h0], fun hn => absurd (List.length_eq_zero_iff.1 h0) hn⟩
  · refine ⟨_, _, rfl, fun _ => ⟨g, 0, rfl, fun i t hi => ?_⟩⟩
    have h1 := h.cells (g := g) rfl i (.string t) (by simp [hi])
    have e1 : (⟨g, 0, none⟩ : Addr).add i = ⟨g, 0 + i, none⟩ := by unfold Addr.add; split <;> simp_all
    rwa [e1] at h1
theorem OwnV.weak {n : Nat} {W : World} {v : Value} {vals : List Value} {es : List (List ByteArray)} (h : OwnV n W v vals es) : OwnW n W v vals es := ⟨h.len, h.row, fun i u e hu he => (h.parts i u e hu he).1⟩
/-- The list at hand beside the table's rows. -/
structure LSt (B : Nat) (w W : World) (rv : Value) (n : Int) (v : Value) (ps : List (Value × List Value)) (gs : List Seg) : Prop where
  kp : Keep B w W
  src : IsSrc B W
  rows : OwnT w.heap.size W rv (rowsI n)
  own : OwnWL w.heap.size W v ps gs
  bd : BdGs gs
  bo : B < w.heap.size
theorem LSt.keep {B : Nat} {w W W' : World} {rv : Value} {n : Int} {v : Value} {ps : List (Value × List Value)} {gs : List Seg} (h : LSt B w W rv n v ps gs) (hk : Keep B W W') (hs : IsSrc B W') : LSt B w W' rv n v ps gs := by
  have h1 := h.bo
  exact ⟨h.kp.trans hk, hs, row_sameW h.rows fun g hg hlt _ => hk.block g hlt (by omega), h.own.keep hk h1, h.bd, h1⟩
theorem LSt.below {B : Nat} {w W W' : World} {rv : Value} {n : Int} {v : Value} {ps : List (Value × List Value)} {gs : List Seg} (h : LSt B w W rv n v ps gs) (hb : Below W.heap.size W W') : LSt B w W' rv n v ps gs :=
  h.keep (Keep.of_below hb) (h.src.below (hb.mono (by have := h.kp.size; have := h.bo; omega)))
theorem LSt.grown {B : Nat} {w W w4 : World} {rv : Value} {n : Int} {v : Value} {ps : List (Value × List Value)} {gs : List Seg} (h : LSt B w W rv n v ps gs) (hg : W.grownBy w4 v.ownBlock) : Keep B w w4 ∧ IsSrc B w4 ∧ OwnT w.heap.size w4 rv (rowsI n) := by
  have h1 := h.bo
  have hz := h.kp.size
  have hold : ∀ k, k < w.heap.size → w4.heap[k]? = W.heap[k]? := fun k hk => hg.block k (by omega) (fun e => by have := (h.own.row.lt k e.symm).1; omega)
  have hbb : Below w.heap.size W w4 := ⟨hg.os, hg.tape, hg.output, hg.size, fun k hk => hold k hk⟩
  exact ⟨⟨hbb.os.trans h.kp.os, hbb.tape.trans h.kp.tape, hbb.output.trans h.kp.output, Nat.le_trans h.kp.size hg.size, fun k hk hB => (hold k hk).trans (h.kp.block k hk hB)⟩, h.src.below (hbb.mono h1), h.rows.kept hg (obj_apart' h.rows h.own.row (by decide))⟩
theorem LSt.push {B : Nat} {w W w4 : World} {rv : Value} {n : Int} {v v' u : Value} {vals : List Value} {ps : List (Value × List Value)} {gs : List Seg} {g : Seg} {x : Obj} (h : LSt B w W rv n v ps gs) (hu : OwnW w.heap.size W u vals g.2) (hb : g.1.size ≤ 100 ∧ g.2.length ≤ 12 ∧ BdW g.2)
    (hg : (W.alloc x).grownBy w4 v.ownBlock) (hown : w4.ownsRow w.heap.size 36 2 v' (gs.length + 1) (cellsL gs ps ++ [.string g.1, u])) : LSt B w w4 rv n v' (ps ++ [(u, vals)]) (gs ++ [g]) := by
  have hbA : Below W.heap.size W (W.alloc x) := (Below.refl _ _).alloc (Nat.le_refl _) _
  obtain ⟨h1, h2, h3⟩ := (h.below hbA).grown hg
  refine ⟨h1, h2, h3, (h.own.below hbA).push (hu.below hbA) hown hg, fun e he => ?_, h.bo⟩
  rcases List.mem_append.1 he with q | q
  · exact h.bd e q
  · rw [List.mem_singleton.1 q]
    exact hb
/-- One less, in its place. -/
theorem LSt.less {B k : Nat} {w W w4 : World} {rv : Value} {n : Int} {v v' : Value} {ps : List (Value × List Value)} {gs : List Seg} (h : LSt B w W rv n v ps gs) (hk : k < gs.length) (hg : W.grownBy w4 v.ownBlock)
    (hown : w4.ownsRow w.heap.size 36 2 v' (k + (gs.length - (k + 1))) (cellsL (gs.take k) (ps.take k) ++ cellsL (gs.drop (k + 1)) (ps.drop (k + 1)))) : LSt B w w4 rv n v' (ps.take k ++ ps.drop (k + 1)) (gs.take k ++ gs.drop (k + 1)) := by
  obtain ⟨h1, h2, h3⟩ := h.grown hg
  have hl := h.own.len
  have lt : (gs.take k).length = k := by rw [List.length_take]; omega
  have lp : (ps.take k).length = k := by rw [List.length_take]; omega
  have ll : (gs.take k ++ gs.drop (k + 1)).length = k + (gs.length - (k + 1)) := by rw [List.length_append, lt, List.length_drop]
  refine ⟨h1, h2, h3, ⟨by simp [hl], by rw [ll, cellsL_app (by rw [lt, lp])]; exact hown, fun i p g hp hgi => ?_⟩, fun g hg => ?_, h.bo⟩
  · rcases Nat.lt_or_ge i k with hi | hi
    · rw [List.getElem?_append_left (by omega), List.getElem?_take_of_lt hi] at hp hgi
      exact (h.own.segs i p g hp hgi).grow hg h.own.row
    · rw [List.getElem?_append_right (by omega), lp, List.getElem?_drop] at hp
      rw [List.getElem?_append_right (by omega), lt, List.getElem?_drop] at hgi
      exact (h.own.segs _ p g hp hgi).grow hg h.own.row
  · rcases List.mem_append.1 hg with q | q
    · exact h.bd g (List.mem_of_mem_take q)
    · exact h.bd g (List.mem_of_mem_drop q)
/-- Another one at a place. -/
theorem LSt.turn {B k g C : Nat} {w W : World} {rv : Value} {n : Int} {ps : List (Value × List Value)} {gs : List Seg} {u : Value} {vals : List Value} {x : Seg} (h : LSt B w W rv n (.slice (some ⟨g, 0, none⟩) gs.length C) ps gs) (hk : k < gs.length) (hu : OwnW w.heap.size W u vals x.2) (hb : x.1.size ≤ 100 ∧ x.2.length ≤ 12 ∧ BdW x.2) :
    LSt B w ((W.setCell ⟨g, k * 2, none⟩ (.string x.1)).setCell ⟨g, k * 2 + 1, none⟩ u) rv n (.slice (some ⟨g, 0, none⟩) gs.length C) (ps.set k (u, vals)) (gs.set k x) := by
  obtain ⟨r1, s1⟩ := World.ownsRow.stored h.own.row (k * 2) (.string x.1)
  obtain ⟨r2, s2⟩ := World.ownsRow.stored r1 (k * 2 + 1) u
  have hg : W.grownBy ((W.setCell ⟨g, k * 2, none⟩ (.string x.1)).setCell ⟨g, k * 2 + 1, none⟩ u) (Value.slice (some ⟨g, 0, none⟩) gs.length C).ownBlock :=
    ⟨s2.os.trans s1.os, s2.tape.trans s1.tape, s2.output.trans s1.output, Nat.le_trans s1.size s2.size, fun j hj hn => (s2.block j (Nat.lt_of_lt_of_le hj s1.size) hn).trans (s1.block j hj hn)⟩
  obtain ⟨h1, h2, h3⟩ := h.grown hg
  have hl := h.own.len
  refine ⟨h1, h2, h3, ⟨by simp [hl], by rw [List.length_set, cellsZ_set k x (u, vals) hl]; exact r2, fun i p y hp hy => ?_⟩, fun y hy => ?_, h.bo⟩
  · by_cases hi : i = k
    · subst hi
      rw [List.getElem?_set_self (by omega)] at hp hy
      cases hp
      cases hy
      exact hu.grow hg h.own.row
    · rw [List.getElem?_set_ne (by omega)] at hp hy
      exact (h.own.segs i p y hp hy).grow hg h.own.row
  · rcases List.mem_or_eq_of_mem_set hy with q | q
    · exact h.bd y q
    · rw [q]; exact hb
/-- Parts at hand, in a row of texts from wo's end on. -/
structure PSt (B : Nat) (wo W : World) (pv : Value) (ss : List ByteArray) : Prop where
  kp : Keep B wo W
  src : IsSrc B W
  row : W.ownsRow wo.heap.size 9 1 pv ss.length (ss.map Value.string)
  bd : ∀ t ∈ ss, t.size ≤ 100
  bo : B < wo.heap.size
theorem PSt.keep {B : Nat} {wo W W' : World} {pv : Value} {ss : List ByteArray} (h : PSt B wo W pv ss) (hk : Keep B W W') (hs : IsSrc B W') : PSt B wo W' pv ss := by
  have h1 := h.bo
  exact ⟨h.kp.trans hk, hs, row_sameW h.row fun g hg hlt _ => hk.block g hlt (by omega), h.bd, h1⟩
theorem PSt.grown {B : Nat} {wo W w4 : World} {pv : Value} {ss : List ByteArray} (h : PSt B wo W pv ss) (hg : W.grownBy w4 pv.ownBlock) : Keep B wo w4 ∧ IsSrc B w4 := by
  have h1 := h.bo
  have hz := h.kp.size
  have hold : ∀ k, k < wo.heap.size → w4.heap[k]? = W.heap[k]? := fun k hk => hg.block k (by omega) (fun e => by have := (h.row.lt k e.symm).1; omega)
  have hbb : Below wo.heap.size W w4 := ⟨hg.os, hg.tape, hg.output, hg.size, fun k hk => hold k hk⟩
  exact ⟨⟨hbb.os.trans h.kp.os, hbb.tape.trans h.kp.tape, hbb.output.trans h.kp.output, Nat.le_trans h.kp.size hg.size, fun k hk hB => (hold k hk).trans (h.kp.block k hk hB)⟩, h.src.below (hbb.mono h1)⟩
theorem PSt.push {B : Nat} {wo W w4 : World} {pv pv' : Value} {ss : List ByteArray} {s : ByteArray} {x : Obj} (h : PSt B wo W pv ss) (hs : s.size ≤ 100) (hg : (W.alloc x).grownBy w4 pv.ownBlock)
    (hown : w4.ownsRow wo.heap.size 9 1 pv' (ss.length + 1) (ss.map Value.string ++ [.string s])) : PSt B wo w4 pv' (ss ++ [s]) := by
  have hbA : Below W.heap.size W (W.alloc x) := (Below.refl _ _).alloc (Nat.le_refl _) _
  have hA := h.keep (Keep.of_below hbA) (h.src.below (hbA.mono (by have := h.kp.size; have := h.bo; omega)))
  obtain ⟨h1, h2⟩ := hA.grown hg
  refine ⟨h1, h2, by simpa using hown, fun t ht => ?_, h.bo⟩
  rcases List.mem_append.1 ht with q | q
  · exact h.bd t q
  · rw [List.mem_singleton.1 q]; exact hs
theorem PSt.set {B g C i : Nat} {wo W : World} {ss : List ByteArray} {s : ByteArray} (h : PSt B wo W (.slice (some ⟨g, 0, none⟩) ss.length C) ss) (hs : s.size ≤ 100) : PSt B wo (W.setCell ⟨g, i, none⟩ (.string s)) (.slice (some ⟨g, 0, none⟩) ss.length C) (ss.set i s) := by
  obtain ⟨r1, s1⟩ := World.ownsRow.stored h.row i (.string s)
  obtain ⟨h1, h2⟩ := h.grown (pv := .slice (some ⟨g, 0, none⟩) ss.length C) s1
  refine ⟨h1, h2, by simpa [List.map_set] using r1, fun t ht => ?_, h.bo⟩
  rcases List.mem_or_eq_of_mem_set ht with q | q
  · exact h.bd t q
  · rw [q]; exact hs
/-- A row of the table: bounds. -/
def rowOk (r : TRow) : Bool := decide (0 ≤ r.least) && (decide (r.least ≤ 20) && (decide (0 ≤ r.most) && (decide (r.most ≤ 20) && decide (r.form.length ≤ 8)) && decide (r.tag.length ≤ 100)))
theorem rowsI_ok (n : Int) : ∀ r ∈ rowsI n, 0 ≤ r.least ∧ r.least ≤ 20 ∧ 0 ≤ r.most ∧ r.most ≤ 20 ∧ r.form.length ≤ 8 ∧ r.tag.length ≤ 100 := by
  have key : ∀ n : Int, (rowsI n).all rowOk = true := fun n => by
    unfold rowsI
    split
    · obtain rfl | rfl | rfl | rfl | rfl | rfl | rfl : n = 1 ∨ n = 2 ∨ n = 3 ∨ n = 4 ∨ n = 5 ∨ n = 6 ∨ n = 7 := by omega
      all_goals decide
    · rfl
  intro r hr
  have h := List.all_eq_true.1 (key n) r hr
  unfold rowOk at h
  simp only [Bool.and_eq_true, decide_eq_true_eq] at h
  exact ⟨h.1, h.2.1, h.2.2.1.1, h.2.2.1.2.1, h.2.2.1.2.2, h.2.2.2⟩
end Go.Proofs.YtphgheojfnlgjaaDoor
