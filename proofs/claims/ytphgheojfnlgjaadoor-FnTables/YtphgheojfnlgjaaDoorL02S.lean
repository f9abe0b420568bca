/- Contract of the model's l02Segment: some segment is drawn, in memory of the call's own. -/
import Derived.Test.YtphgheojfnlgjaaDoorBdW
import Derived.Test.YtphgheojfnlgjaaDoorSrcPl
import Derived.Test.YtphgheojfnlgjaaDoorInfoStr
import Derived.Test.YtphgheojfnlgjaaDoorRightGp
import Derived.Deep.CutBlock
import Derived.Deep.RegionHeld3
import Derived.Deep.RegionLaw
import Derived.Deep.AppendLies
namespace Go.Proofs.YtphgheojfnlgjaaDoor
open Go.ChangeShapes Go.WideShapes Go.ChangeAt Go.RowKit Go.Shelf
/-- What stands while a segment is drawn: the source in block B, the answer's block R, the syntax in X, the segment in G. -/
structure GS (B R X G : Nat) (w W : World) (tag : ByteArray) (v : Value) (vals : List Value) (es : List (List ByteArray)) : Prop where
  src : IsSrc B W
  kp : Keep B w W
  r : W.heap[R]? = some (.cells #[.string ⟨#[]⟩, .slice none 0 0] 36)
  x : W.heap[X]? = some (.cells #[.int .i64 39, .int .i64 43, .int .i64 58, .int .i64 63] 71)
  g : W.heap[G]? = some (.cells #[.string tag, v] 36)
  own : OwnW (G + 1) W v vals es
  bd : BdW es
  br : B < R
  rx : R < X
  xg : X < G
  wr : w.heap.size ≤ R
  tz : tag.size ≤ 100
theorem GS.keep {B R X G : Nat} {w W W' : World} {tag : ByteArray} {v : Value} {vals : List Value} {es : List (List ByteArray)} (h : GS B R X G w W tag v vals es) (hk : Keep B W W') (hs : IsSrc B W') : GS B R X G w W' tag v vals es := by
  have h1 := h.br
  have h2 := h.rx
  have h3 := h.xg
  exact ⟨hs, h.kp.trans hk, (hk.block _ (Array.getElem?_eq_some_iff.1 h.r).1 (by omega)).trans h.r, (hk.block _ (Array.getElem?_eq_some_iff.1 h.x).1 (by omega)).trans h.x, (hk.block _ (Array.getElem?_eq_some_iff.1 h.g).1 (by omega)).trans h.g, h.own.keep hk (by omega), h.bd, h.br, h.rx, h.xg, h.wr, h.tz⟩
theorem GS.lt {B R X G : Nat} {w W : World} {tag : ByteArray} {v : Value} {vals : List Value} {es : List (List ByteArray)} (h : GS B R X G w W tag v vals es) : G < W.heap.size := (Array.getElem?_eq_some_iff.1 h.g).1
theorem GS.below {B R X G : Nat} {w W W' : World} {tag : ByteArray} {v : Value} {vals : List Value} {es : List (List ByteArray)} (h : GS B R X G w W tag v vals es) (hb : Below W.heap.size W W') : GS B R X G w W' tag v vals es := by
  have := h.lt
  have h1 := h.br
  have h2 := h.rx
  have h3 := h.xg
  exact h.keep (Keep.of_below hb) (h.src.below (hb.mono (by omega)))
/-- And an element at hand, in the block behind what lay in wo. -/
structure ES (B R X G : Nat) (w wo W : World) (tag : ByteArray) (v : Value) (vals : List Value) (es : List (List ByteArray)) (u : Value) (ss : List ByteArray) : Prop where
  gs0 : GS B R X G w wo tag v vals es
  kp : Keep B wo W
  src : IsSrc B W
  e : W.heap[wo.heap.size]? = some (.cells #[u] 55)
  row : W.ownsRow (wo.heap.size + 1) 9 1 u ss.length (ss.map Value.string)
  bd : ∀ t ∈ ss, t.size ≤ 100
theorem ES.gs {B R X G : Nat} {w wo W : World} {tag : ByteArray} {v : Value} {vals : List Value} {es : List (List ByteArray)} {u : Value} {ss : List ByteArray} (h : ES B R X G w wo W tag v vals es u ss) : GS B R X G w W tag v vals es := h.gs0.keep h.kp h.src
theorem ES.ge {B R X G : Nat} {w wo W : World} {tag : ByteArray} {v : Value} {vals : List Value} {es : List (List ByteArray)} {u : Value} {ss : List ByteArray} (h : ES B R X G w wo W tag v vals es u ss) : G < wo.heap.size := h.gs0.lt
theorem ES.keep {B R X G : Nat} {w wo W W' : World} {tag : ByteArray} {v : Value} {vals : List Value} {es : List (List ByteArray)} {u : Value} {ss : List ByteArray} (h : ES B R X G w wo W tag v vals es u ss) (hk : Keep B W W') (hs : IsSrc B W') : ES B R X G w wo W' tag v vals es u ss := by
  have h1 := h.gs0.br
  have h2 := h.gs0.rx
  have h3 := h.gs0.xg
  have h4 := h.ge
  exact ⟨h.gs0, h.kp.trans hk, hs, (hk.block _ (Array.getElem?_eq_some_iff.1 h.e).1 (by omega)).trans h.e, row_sameW h.row fun g hg hlt _ => hk.block g hlt (by omega), h.bd⟩
theorem ES.push {B R X G : Nat} {w wo W W' : World} {tag : ByteArray} {v : Value} {vals : List Value} {es : List (List ByteArray)} {u u' : Value} {ss : List ByteArray} {s : ByteArray} {x : Obj} (h : ES B R X G w wo W tag v vals es u ss) (hg : (W.alloc x).grownBy W' u.ownBlock)
    (hown : W'.ownsRow (wo.heap.size + 1) 9 1 u' (ss.length + 1) (ss.map Value.string ++ [.string s])) (hs : s.size ≤ 100) :
    (∃ z, W'.cell? ⟨wo.heap.size, 0, none⟩ = some z) ∧ (∀ o, W'.frozen? ⟨wo.heap.size, o, none⟩ = false) ∧ ES B R X G w wo (W'.setCell ⟨wo.heap.size, 0, none⟩ u') tag v vals es u' (ss ++ [s]) := by
  have h1 := h.gs0.br
  have h2 := h.gs0.rx
  have h3 := h.gs0.xg
  have h4 := h.ge
  have h5 := (Array.getElem?_eq_some_iff.1 h.e).1
  have hold : ∀ k, k < wo.heap.size + 1 → W'.heap[k]? = W.heap[k]? := fun k hk => by
    have hkW : k < W.heap.size := Nat.lt_of_lt_of_le hk h5
    rw [hg.block k (by simp; omega) (row_lt h.row hk), Below.heap_alloc _ _ _ hkW]
  have he := (hold wo.heap.size (by omega)).trans h.e
  have hsz : W.heap.size ≤ W'.heap.size := Nat.le_trans (by simp) hg.size
  have hb : Below (wo.heap.size + 1) W W' := ⟨hg.os, hg.tape, hg.output, hsz, fun k hk => hold k hk⟩
  have hb2 : Below wo.heap.size W (W'.setCell ⟨wo.heap.size, 0, none⟩ u') := (hb.mono (show wo.heap.size ≤ wo.heap.size + 1 by omega)).setCell (Nat.le_refl _) _
  refine ⟨⟨u, by simp [World.cell?, he]⟩, fun o => by simp [World.frozen?, he], h.gs0, ?_, h.src.below (hb2.mono (by omega)), heap_setCell_same _ _ _ _ _ _ he, ?_, fun t ht => ?_⟩
  · exact ⟨hb2.os.trans h.kp.os, hb2.tape.trans h.kp.tape, hb2.output.trans h.kp.output, Nat.le_trans h.kp.size hb2.size, fun k hk hB => (hb2.block k hk).trans (h.kp.block k hk hB)⟩
  · have hr : W'.ownsRow (wo.heap.size + 1) 9 1 u' (ss ++ [s]).length ((ss ++ [s]).map Value.string) := by simpa using hown
    exact row_sameW hr fun g hg1 _ _ => Below.heap_setCell W' ⟨wo.heap.size, 0, none⟩ _ g (show g ≠ wo.heap.size by omega)
  · rcases List.mem_append.1 ht with h6 | h6
    · exact h.bd t h6
    · simp only [List.mem_cons, List.not_mem_nil, or_false] at h6
      rw [h6]
      exact hs
theorem five_cells (w : World) (a b c d e : ByteArray) (g : Nat) (hg : g = w.heap.size) : ∀ (i : Nat) (t : ByteArray), [a, b, c, d, e][i]? = some t → (w.alloc (.cells #[.string a, .string b, .string c, .string d, .string e] 9)).cell? ⟨g, i, none⟩ = some (.string t) := by
  subst hg
  intro i t ht
  have h1 := World.alloc_heap_new w (.cells #[.string a, .string b, .string c, .string d, .string e] 9)
  have hi := (List.getElem?_eq_some_iff.1 ht).1
  simp at hi
  have hc : i = 0 ∨ i = 1 ∨ i = 2 ∨ i = 3 ∨ i = 4 := by omega
  rcases hc with rfl | rfl | rfl | rfl | rfl <;> simp at ht <;> subst ht <;> simp [go_sem]
theorem wrap_in {x : Int} (h0 : 0 ≤ x) (h1 : x ≤ 60) : 0 ≤ IntKind.i64.wrap x ∧ IntKind.i64.wrap x ≤ 60 := by
  rw [IntKind.wrap_i64]
  omega
theorem words_i (B : Nat) (a b c d : Int) (x : Int) (w : World) (hx : 0 ≤ x ∧ x ≤ 60) (hS : IsSrc B w) :
    Calls Tryd.prog 31 #[.pointer (some ⟨B, 0, none⟩), .agg #[.int .i64 a, .int .i64 b, .int .i64 c, .int .i64 d], .int .i64 x] w fun e w' => ∃ s, e = .returned (.string s) ∧ s.size ≤ 60 ∧ IsSrc B w' ∧ Keep B w w' := by
  obtain ⟨n, rfl⟩ : ∃ n : Nat, x = (n : Int) := ⟨x.toNat, by omega⟩
  refine (words_any B a b c d n w (by omega) hS).mono ?_
  rintro e w' ⟨s, rfl, h1, h2, h3⟩
  exact ⟨s, rfl, by omega, h2, h3⟩
theorem row_first {n₀ gu k c : Nat} {W : World} {ss : List ByteArray} (h : W.ownsRow n₀ 9 1 (.slice (some ⟨gu, 0, none⟩) k c) ss.length (ss.map Value.string)) (hk : 0 < ss.length) : ∃ t, W.cell? ⟨gu, 0, none⟩ = some (.string t) ∧ W.frozen? ⟨gu, 0, none⟩ = false := by
  rcases h.2 with ⟨h1, _⟩ | ⟨g, cap, cur, h1, h2, h3, h4, h5, h6, h7⟩
  · cases h1
  · simp only [Value.slice.injEq, Option.some.injEq, Addr.mk.injEq, and_true] at h1
    obtain ⟨rfl, _, _⟩ := h1
    cases ss with
    | nil => simp at hk
    | cons t r =>
      refine ⟨t, ?_, by simp [World.frozen?, h3]⟩
      have : cur[0]? = some (.string t) := by
        rw [← Array.getElem?_toList]
        have e := congrArg (·[0]?) h7
        simpa [List.getElem?_take] using e
      simp [World.cell?, h3, this]
theorem row_ge {n₀ gu k c : Nat} {W : World} {ss : List ByteArray} (h : W.ownsRow n₀ 9 1 (.slice (some ⟨gu, 0, none⟩) k c) ss.length (ss.map Value.string)) (_ : 0 < ss.length) : n₀ ≤ gu := by
  rcases h.2 with ⟨h1, _⟩ | ⟨g, cap, cur, h1, h2, _⟩
  · cases h1
  · simp only [Value.slice.injEq, Option.some.injEq, Addr.mk.injEq, and_true] at h1
    obtain ⟨rfl, _, _⟩ := h1
    exact h2
theorem ES.store {B R X G : Nat} {w wo W : World} {tag : ByteArray} {v : Value} {vals : List Value} {es : List (List ByteArray)} {gu Cu : Nat} {ss : List ByteArray} {s : ByteArray} (h : ES B R X G w wo W tag v vals es (.slice (some ⟨gu, 0, none⟩) ss.length Cu) ss) (hk : 0 < ss.length) (hs : s.size ≤ 100) :
    ES B R X G w wo (W.setCell ⟨gu, 0, none⟩ (.string s)) tag v vals es (.slice (some ⟨gu, 0, none⟩) ss.length Cu) (ss.set 0 s) := by
  have hge := row_ge h.row hk
  have h1 := h.gs0.br
  have h2 := h.gs0.rx
  have h3 := h.gs0.xg
  have h4 := h.ge
  have hb : Below gu W (W.setCell ⟨gu, 0, none⟩ (.string s)) := (Below.refl gu W).setCell (show gu ≤ (⟨gu, 0, none⟩ : Addr).block from Nat.le_refl _) _
  refine ⟨h.gs0, ?_, h.src.below (hb.mono (by omega)), (hb.block _ (by omega)).trans h.e, ?_, fun t ht => ?_⟩
  · exact ⟨hb.os.trans h.kp.os, hb.tape.trans h.kp.tape, hb.output.trans h.kp.output, Nat.le_trans h.kp.size hb.size, fun k hk hB => (hb.block k (by omega)).trans (h.kp.block k hk hB)⟩
  · rcases h.row.2 with ⟨e1, _⟩ | ⟨g, cap, cur, e1, e2, e3, e4, e5, e6, e7⟩
    · cases e1
    · simp only [Value.slice.injEq, Option.some.injEq, Addr.mk.injEq, and_true, true_and] at e1
      obtain ⟨rfl, rfl⟩ := e1
      refine ⟨by simp, .inr ⟨gu, Cu, cur.set! 0 (.string s), by simp, e2, heap_setCell_same _ _ _ _ _ _ e3, by simpa using e4, e5, by simpa using e6, ?_⟩⟩
      simp only [List.length_set, Nat.mul_one, Array.set!_eq_setIfInBounds, Array.toList_setIfInBounds, List.map_set]
      rw [List.take_set, ← e7]
      simp
  · rcases List.mem_or_eq_of_mem_set ht with h6 | h6
    · exact h.bd t h6
    · rw [h6]; exact hs
theorem GS.push {B R X G : Nat} {w W w4 : World} {tag : ByteArray} {v u u' : Value} {vals : List Value} {es : List (List ByteArray)} {ss : List ByteArray} {x : Obj} (h : GS B R X G w W tag v vals es) (hu : W.ownsRow (G + 1) 9 1 u ss.length (ss.map Value.string))
    (hl : ss.length ≤ 10) (hs : ∀ t ∈ ss, t.size ≤ 100) (hg : (W.alloc x).grownBy w4 v.ownBlock) (hown : w4.ownsRow (G + 1) 55 1 u' (es.length + 1) (vals ++ [u])) :
    (∃ z, w4.cell? ⟨G, 1, none⟩ = some z) ∧ (∀ o, w4.frozen? ⟨G, o, none⟩ = false) ∧ GS B R X G w (w4.setCell ⟨G, 1, none⟩ u') tag u' (vals ++ [u]) (es ++ [ss]) := by
  have h1 := h.br
  have h2 := h.rx
  have h3 := h.xg
  have h4 := h.lt
  have h5 := h.wr
  have hold : ∀ k, k < G + 1 → w4.heap[k]? = W.heap[k]? := fun k hk => by
    have hkW : k < W.heap.size := Nat.lt_of_lt_of_le hk h4
    rw [hg.block k (by simp; omega) (row_lt h.own.row hk), Below.heap_alloc _ _ _ hkW]
  have he := (hold G (by omega)).trans h.g
  have hsz : W.heap.size ≤ w4.heap.size := Nat.le_trans (by simp) hg.size
  have hb : Below (G + 1) W w4 := ⟨hg.os, hg.tape, hg.output, hsz, fun k hk => hold k hk⟩
  have hb2 : Below G W (w4.setCell ⟨G, 1, none⟩ u') := (hb.mono (show G ≤ G + 1 by omega)).setCell (show G ≤ (⟨G, 1, none⟩ : Addr).block from Nat.le_refl _) _
  have hbA : Below W.heap.size W (W.alloc x) := (Below.refl _ _).alloc (Nat.le_refl _) _
  have hO := ((h.own.below hbA).push (hu.alloc x) hown hg).set (B := G) (by omega) 1 u'
  have hgg : (w4.setCell ⟨G, 1, none⟩ u').heap[G]? = some (.cells #[.string tag, u'] 36) := by
    have := heap_setCell_same w4 G 1 _ _ u' he
    simpa using this
  refine ⟨⟨v, by simp [World.cell?, he]⟩, fun o => by simp [World.frozen?, he], ?_⟩
  refine ⟨h.src.below (hb2.mono (by omega)), ?_, (hb2.block R (by omega)).trans h.r, (hb2.block X (by omega)).trans h.x, hgg, hO, fun e he => ?_, h1, h2, h3, h5, h.tz⟩
  · exact ⟨hb2.os.trans h.kp.os, hb2.tape.trans h.kp.tape, hb2.output.trans h.kp.output, Nat.le_trans h.kp.size hb2.size, fun k hk hB => (hb2.block k (by omega)).trans (h.kp.block k hk hB)⟩
  · rcases List.mem_append.1 he with q | q
    · exact h.bd e q
    · simp only [List.mem_cons, List.not_mem_nil, or_false] at q
      rw [q]
      exact ⟨hl, hs⟩
theorem GS.less {B R X G n g cap : Nat} {w W : World} {tag : ByteArray} {vals : List Value} {es : List (List ByteArray)} (h : GS B R X G w W tag (.slice (some ⟨g, 0, none⟩) (n + 1) cap) vals es) (hn : es.length = n + 1) :
    GS B R X G w (W.setCell ⟨G, 1, none⟩ (.slice (some ⟨g, 0, none⟩) n cap)) tag (.slice (some ⟨g, 0, none⟩) n cap) (vals.take n) (es.take n) := by
  have h1 := h.br
  have h2 := h.rx
  have h3 := h.xg
  have h4 := h.lt
  have h5 := h.wr
  have hb2 : Below G W (W.setCell ⟨G, 1, none⟩ (.slice (some ⟨g, 0, none⟩) n cap)) := (Below.refl G W).setCell (show G ≤ (⟨G, 1, none⟩ : Addr).block from Nat.le_refl _) _
  have hgg : (W.setCell ⟨G, 1, none⟩ (.slice (some ⟨g, 0, none⟩) n cap)).heap[G]? = some (.cells #[.string tag, .slice (some ⟨g, 0, none⟩) n cap] 36) := by
    have := heap_setCell_same W G 1 _ _ (.slice (some ⟨g, 0, none⟩) n cap) h.g
    simpa using this
  refine ⟨h.src.below (hb2.mono (by omega)), ?_, (hb2.block R (by omega)).trans h.r, (hb2.block X (by omega)).trans h.x, hgg, (h.own.less hn).set (by omega) 1 _, fun e he => h.bd e (List.mem_of_mem_take he), h1, h2, h3, h5, h.tz⟩
  exact ⟨hb2.os.trans h.kp.os, hb2.tape.trans h.kp.tape, hb2.output.trans h.kp.output, Nat.le_trans h.kp.size hb2.size, fun k hk hB => (hb2.block k (by omega)).trans (h.kp.block k hk hB)⟩
theorem GS.tagSet {B R X G : Nat} {w W : World} {tag t : ByteArray} {v : Value} {vals : List Value} {es : List (List ByteArray)} (h : GS B R X G w W tag v vals es) (ht : t.size ≤ 100) :
    GS B R X G w (W.setCell ⟨G, 0, none⟩ (.string t)) t v vals es := by
  have h1 := h.br
  have h2 := h.rx
  have h3 := h.xg
  have h4 := h.lt
  have h5 := h.wr
  have hb2 : Below G W (W.setCell ⟨G, 0, none⟩ (.string t)) := (Below.refl G W).setCell (show G ≤ (⟨G, 0, none⟩ : Addr).block from Nat.le_refl _) _
  have hgg : (W.setCell ⟨G, 0, none⟩ (.string t)).heap[G]? = some (.cells #[.string t, v] 36) := by
    have := heap_setCell_same W G 0 _ _ (.string t) h.g
    simpa using this
  refine ⟨h.src.below (hb2.mono (by omega)), ?_, (hb2.block R (by omega)).trans h.r, (hb2.block X (by omega)).trans h.x, hgg, h.own.set (by omega) 0 _, h.bd, h1, h2, h3, h5, ht⟩
  exact ⟨hb2.os.trans h.kp.os, hb2.tape.trans h.kp.tape, hb2.output.trans h.kp.output, Nat.le_trans h.kp.size hb2.size, fun k hk hB => (hb2.block k (by omega)).trans (h.kp.block k hk hB)⟩
theorem GS.done {B R X G : Nat} {w W : World} {tag : ByteArray} {v : Value} {vals : List Value} {es : List (List ByteArray)} (h : GS B R X G w W tag v vals es) :
    OwnW w.heap.size ((W.setCell ⟨R, 0, none⟩ (.string tag)).setCell ⟨R, 1, none⟩ v) v vals es ∧ BdW es ∧ IsSrc B ((W.setCell ⟨R, 0, none⟩ (.string tag)).setCell ⟨R, 1, none⟩ v) ∧ Keep B w ((W.setCell ⟨R, 0, none⟩ (.string tag)).setCell ⟨R, 1, none⟩ v) := by
  have h1 := h.br
  have h2 := h.rx
  have h3 := h.xg
  have h4 := h.lt
  have h5 := h.wr
  have hb2 : Below R W ((W.setCell ⟨R, 0, none⟩ (.string tag)).setCell ⟨R, 1, none⟩ v) := ((Below.refl R W).setCell (show R ≤ (⟨R, 0, none⟩ : Addr).block from Nat.le_refl _) _).setCell (show R ≤ (⟨R, 1, none⟩ : Addr).block from Nat.le_refl _) _
  refine ⟨((h.own.set (B := R) (by omega) 0 _).set (B := R) (by omega) 1 _).mono (by omega), h.bd, h.src.below (hb2.mono (by omega)), ?_⟩
  exact ⟨hb2.os.trans h.kp.os, hb2.tape.trans h.kp.tape, hb2.output.trans h.kp.output, Nat.le_trans h.kp.size hb2.size, fun k hk hB => (hb2.block k (by omega)).trans (h.kp.block k hk hB)⟩
theorem three_cells (w : World) (a b c : ByteArray) : ∀ (i : Nat) (t : ByteArray), [a, b, c][i]? = some t → (w.alloc (.cells #[.string a, .string b, .string c] 9)).cell? ⟨w.heap.size, i, none⟩ = some (.string t) := by
  intro i t ht
  have hi := (List.getElem?_eq_some_iff.1 ht).1
  simp at hi
  have hc : i = 0 ∨ i = 1 ∨ i = 2 := by omega
  rcases hc with rfl | rfl | rfl <;> simp at ht <;> subst ht <;> simp [go_sem]
theorem two_cells (w : World) (a b : ByteArray) : ∀ (i : Nat) (t : ByteArray), [a, b][i]? = some t → (w.alloc (.cells #[.string a, .string b] 9)).cell? ⟨w.heap.size, i, none⟩ = some (.string t) := by
  intro i t ht
  have hi := (List.getElem?_eq_some_iff.1 ht).1
  simp at hi
  have hc : i = 0 ∨ i = 1 := by omega
  rcases hc with rfl | rfl <;> simp at ht <;> subst ht <;> simp [go_sem]
theorem two_small {a b : ByteArray} (ha : a ∈ [(⟨#[10]⟩ : ByteArray), ⟨#[255]⟩, ⟨#[97]⟩]) (hb : b ∈ [(⟨#[]⟩ : ByteArray), ⟨#[98]⟩]) : ∀ t ∈ ([a, b] : List ByteArray), t.size ≤ 100 := by
  intro t ht
  simp only [List.mem_cons, List.not_mem_nil, or_false] at ht ha hb
  rcases ht with rfl | rfl
  · rcases ha with rfl | rfl | rfl <;> decide
  · rcases hb with rfl | rfl <;> decide
theorem own_two (w : World) (a b : ByteArray) (n₀ : Nat) (h : n₀ ≤ w.heap.size) : (w.alloc (.cells #[.string a, .string b] 9)).ownsRow n₀ 9 1 (.slice (some ⟨w.heap.size, 0, none⟩) 2 2) ([a, b] : List ByteArray).length (([a, b] : List ByteArray).map Value.string) :=
  ⟨rfl, .inr ⟨w.heap.size, 2, #[.string a, .string b], rfl, h, World.alloc_heap_new w _, Nat.le_refl _, by unfold maxLen; omega, rfl, rfl⟩⟩
def lenAt (W : World) (G : Nat) : Nat := match W.cell? ⟨G, 1, none⟩ with
  | some (.slice _ n _) => n
  | _ => 0
theorem row_cap {n₀ t g k N C : Nat} {W : World} {xs : List Value} (h : W.ownsRow n₀ t 1 (.slice (some ⟨g, 0, none⟩) N C) k xs) : N ≤ C := by
  rcases h.2 with ⟨e, h0⟩ | ⟨g1, cap, cur, e, _, _, h4, _⟩
  · cases e
  · simp only [Value.slice.injEq] at e
    omega
theorem row_n {n₀ t k N C : Nat} {W : World} {A : Option Addr} {xs : List Value} (h : W.ownsRow n₀ t 1 (.slice A N C) k xs) : N = k := by
  rcases h.2 with ⟨e, h0⟩ | ⟨g, cap, cur, e, _⟩
  · simp only [Value.slice.injEq] at e
    omega
  · simp only [Value.slice.injEq] at e
    exact e.2.1
set_option maxRecDepth 20000 in
set_option maxHeartbeats 100000000 in
theorem l02Segment_any (B : Nat) (w : World) (hS : IsSrc B w) :
    Calls Tryd.prog 25 #[.pointer (some ⟨B, 0, none⟩)] w fun e w' => ∃ (tag : ByteArray) (v : Value) (vals : List Value) (es : List (List ByteArray)), e = .returned (.agg #[.string tag, v]) ∧ tag.size ≤ 100 ∧ es.length ≤ 12 ∧ OwnW w.heap.size w' v vals es ∧ BdW es ∧ IsSrc B w' ∧ Keep B w w' := by
  have hlt := hS.lt
  have HS : Hid (IsSrc B w) := hS
  clear hS
  go_enter Tryd.func25, Tryd.ntmps25
  go_wp2_with fail
  refine (plain_any _).mono ?_
  rintro e w1 ⟨rfl, hb1⟩
  have hz1 := hb1.size
  rw [World.size_alloc] at hz1
  have r1 := (hb1.block w.heap.size (by simp)).trans (World.alloc_heap_new w (.cells #[.string ⟨#[]⟩, .slice none 0 0] 36))
  have hs1 : IsSrc B w1 := (HS.out.below ((Below.refl _ _).alloc (by omega) _)).below (hb1.mono (by simp; omega))
  have hk1 : Keep B w w1 := ((Keep.refl _ _).alloc _).trans (Keep.of_below hb1)
  have H1 : Hid (w1.heap[w.heap.size]? = some (.cells #[.string ⟨#[]⟩, .slice none 0 0] 36) ∧ IsSrc B w1 ∧ Keep B w w1) := ⟨r1, hs1, hk1⟩
  clear r1 hs1 hk1 hb1
  go_wp2_with fail
  refine (pick_any B (w1.heap.size + 1) 5 5 [⟨#[68, 79, 67]⟩, ⟨#[76, 73, 78]⟩, ⟨#[78, 79, 84]⟩, ⟨#[65, 66, 67]⟩, ⟨#[73, 88, 72]⟩] _ (by omega) (by omega) rfl (by omega) (five_cells _ _ _ _ _ _ _ (by simp)) (H1.out.2.1.below (((Below.refl _ _).alloc (by omega) _).alloc (by simp; omega) _))).mono ?_
  rintro e w2 ⟨tag0, rfl, ht0, hs2, hk2⟩
  have hz0 : tag0.size ≤ 100 := by
    simp only [List.mem_cons, List.not_mem_nil, or_false] at ht0
    rcases ht0 with rfl | rfl | rfl | rfl | rfl <;> decide
  clear ht0
  have hz2 := hk2.size
  simp only [World.size_alloc] at hz2
  have hk02 : Keep B w w2 := ((H1.out.2.2.alloc _).alloc _).trans hk2
  have r2 : w2.heap[w.heap.size]? = some (.cells #[.string ⟨#[]⟩, .slice none 0 0] 36) := (hk2.block w.heap.size (by simp; omega) (by omega)).trans ((Below.heap_alloc _ _ _ (by simp; omega)).trans ((Below.heap_alloc _ _ _ (by omega)).trans H1.out.1))
  have x2 : w2.heap[w1.heap.size]? = some (.cells #[.int .i64 39, .int .i64 43, .int .i64 58, .int .i64 63] 71) := (hk2.block w1.heap.size (by simp; omega) (by omega)).trans ((Below.heap_alloc _ _ _ (by simp)).trans (World.alloc_heap_new w1 _))
  have hG2 : GS B w.heap.size w1.heap.size w2.heap.size w (w2.alloc (.cells #[.string tag0, .slice none 0 0] 36)) tag0 (.slice none 0 0) [] [] := ⟨hs2.below ((Below.refl _ _).alloc (by omega) _), hk02.alloc _, (Below.heap_alloc _ _ _ (by omega)).trans r2, (Below.heap_alloc _ _ _ (by omega)).trans x2, World.alloc_heap_new w2 _, OwnW.nil _ _, fun e he => by simp at he, by omega, by omega, by omega, Nat.le_refl _, hz0⟩
  have HG : Hid (GS B w.heap.size w1.heap.size w2.heap.size w (w2.alloc (.cells #[.string tag0, .slice none 0 0] 36)) tag0 (.slice none 0 0) [] []) := hG2
  clear hs2 hk2 hk02 r2 x2 hG2 H1
  go_wp2_with fail
  refine (n_any B 5 _ (by omega) (by omega) HG.out.src).mono ?_
  rintro e w3 ⟨q, rfl, hq0, hq1, hs3, hk3⟩
  have hG3 := HG.out.keep hk3 hs3
  have HG3 : Hid (GS B w.heap.size w1.heap.size w2.heap.size w w3 tag0 (.slice none 0 0) [] []) := hG3
  clear hs3 hk3 hG3 HG
  obtain ⟨n0, rfl⟩ : ∃ n0 : Nat, q = (n0 : Int) := ⟨q.toNat, by omega⟩
  go_wp2_with fail
  refine (one_any B 40 _ (by omega) (by omega) HG3.out.src).mono ?_
  rintro e w4 ⟨b1, rfl, hs4, hk4⟩
  have HG4 : Hid (GS B w.heap.size w1.heap.size w2.heap.size w w4 tag0 (.slice none 0 0) [] []) := HG3.out.keep hk4 hs4
  clear hs4 hk4 HG3
  go_upto_if 16 with fail
  go_cut [5] from 8 to 19 (fun c wx => ∃ n : Nat, c = .int .i64 (n : Int) ∧ n ≤ 11 ∧ GS B w.heap.size w1.heap.size w2.heap.size w wx tag0 (.slice none 0 0) [] [])
  case first =>
    cases b1
    · go_wp2_with fail
      go_meet
      case rel => exact ⟨n0, rfl, by omega, HG4.out⟩
    · go_wp2_with fail
      refine (n_any B 3 _ (by omega) (by omega) HG4.out.src).mono ?_
      rintro e w5 ⟨q5, rfl, hq50, hq51, hs5, hk5⟩
      obtain ⟨n5, rfl⟩ : ∃ n5 : Nat, q5 = (n5 : Int) := ⟨q5.toNat, by omega⟩
      have HG5 : Hid (GS B w.heap.size w1.heap.size w2.heap.size w w5 tag0 (.slice none 0 0) [] []) := HG4.out.keep hk5 hs5
      clear hs5 hk5
      go_wp2_with fail
      go_meet
      case rel => exact ⟨9 + n5, by go_num, by omega, HG5.out⟩
  case rest =>
    obtain ⟨n, rfl, hn, hG⟩ := hcut
    have HG : Hid (GS B w.heap.size w1.heap.size w2.heap.size w wc tag0 (.slice none 0 0) [] []) := hG
    clear hG HG4
    go_upto_block 0 with fail
    go_cut [5, 6, 7] from 20 to 61 (fun _ _ _ wx => ∃ (v : Value) (vals : List Value) (es : List (List ByteArray)), GS B w.heap.size w1.heap.size w2.heap.size w wx tag0 v vals es ∧ es.length ≤ 11)
    case first =>
      go_wp2_with fail
      go_loopw [5, 6, 7] (fun c _ _ wr => ∃ (m : Nat) (v : Value) (vals : List Value) (es : List (List ByteArray)), c = .int .i64 (m : Int) ∧ es.length + m ≤ 11 ∧ GS B w.heap.size w1.heap.size w2.heap.size w wr tag0 v vals es) (fun c _ _ _ => (intOf c).toNat)
      case atStart => exact ⟨n, _, _, _, rfl, by simp; omega, HG.out⟩
      case round =>
        obtain ⟨m, v, vals, es, rfl, hm, hG⟩ := hrel
        clear HG
        rcases Nat.eq_zero_or_pos m with rfl | hm0
        · have HG : Hid (GS B w.heap.size w1.heap.size w2.heap.size w wr tag0 v vals es) := hG
          clear hG
          go_wp2_with fail
          go_meet
          case rel => exact ⟨v, vals, es, HG.out, by omega⟩
        · have hm1 : 0 < (m : Int) := by omega
          have hlt2 := hG.lt
          have hE0 : ES B w.heap.size w1.heap.size w2.heap.size w wr (wr.alloc (.cells #[.slice none 0 0] 55)) tag0 v vals es (.slice none 0 0) [] := ⟨hG, (Keep.refl _ _).alloc _, (hG.below ((Below.refl _ _).alloc (Nat.le_refl _) _)).src, World.alloc_heap_new wr _, World.ownsRow_nil _ _ _ _, fun t ht => by simp at ht⟩
          have HE : Hid (ES B w.heap.size w1.heap.size w2.heap.size w wr (wr.alloc (.cells #[.slice none 0 0] 55)) tag0 v vals es (.slice none 0 0) []) := hE0
          clear hE0 hG
          go_wp2_with fail
          refine (n_any B 2 _ (by omega) (by omega) HE.out.gs.src).mono ?_
          rintro e w6 ⟨qa, rfl, hqa0, hqa1, hs6, hk6⟩
          have HE6 : Hid (ES B w.heap.size w1.heap.size w2.heap.size w wr w6 tag0 v vals es (.slice none 0 0) []) := HE.out.keep hk6 hs6
          clear hs6 hk6 HE
          go_wp2_with fail
          refine (n_any B 4 _ (by omega) (by omega) HE6.out.gs.src).mono ?_
          rintro e w7 ⟨qb, rfl, hqb0, hqb1, hs7, hk7⟩
          have HE7 : Hid (ES B w.heap.size w1.heap.size w2.heap.size w wr w7 tag0 v vals es (.slice none 0 0) []) := HE6.out.keep hk7 hs7
          obtain ⟨kk, hkk, hkk3⟩ : ∃ kk : Nat, qa * qb = (kk : Int) ∧ kk ≤ 3 := by
            have : qa = 0 ∨ qa = 1 := by omega
            rcases this with rfl | rfl
            · exact ⟨0, by simp, by omega⟩
            · exact ⟨qb.toNat, by simp; omega, by omega⟩
          clear hs7 hk7 HE6
          obtain ⟨wo, hwo⟩ : ∃ wo, wo = wr := ⟨_, rfl⟩
          subst hwo
          go_wp2_with fail
          go_loopw [7] (fun c wr => ∃ (j : Nat) (u : Value) (ss : List ByteArray), c = .int .i64 (j : Int) ∧ ss.length + j ≤ 4 ∧ 1 ≤ ss.length + j ∧ ES B w.heap.size w1.heap.size w2.heap.size w wo wr tag0 v vals es u ss) (fun c _ => (intOf c).toNat)
          case atStart => exact ⟨1 + kk, _, _, by go_num, by simp; omega, by simp, HE7.out⟩
          case round =>
            obtain ⟨j, u, ss, rfl, hj, hj1, hE⟩ := hrel
            clear HE7
            have hxx := hE.gs.x
            have hee := hE.e
            have x0 : wr.cell? ⟨w1.heap.size, 0, none⟩ = some (.int .i64 39) := by simp [World.cell?, hxx]
            have x1 : wr.cell? ⟨w1.heap.size, 1, none⟩ = some (.int .i64 43) := by simp [World.cell?, hxx]
            have x2 : wr.cell? ⟨w1.heap.size, 2, none⟩ = some (.int .i64 58) := by simp [World.cell?, hxx]
            have x3 : wr.cell? ⟨w1.heap.size, 3, none⟩ = some (.int .i64 63) := by simp [World.cell?, hxx]
            obtain ⟨Au, Nu, Cu, hu⟩ := row_slice hE.row
            subst hu
            have c0 : wr.cell? ⟨wo.heap.size, 0, none⟩ = some (.slice Au Nu Cu) := by simp [World.cell?, hee]
            have hbr := hE.gs.br
            have hrx := hE.gs.rx
            have hxg := hE.gs.xg
            have hge := hE.ge
            have HE : Hid (ES B w.heap.size w1.heap.size w2.heap.size w wo wr tag0 v vals es (.slice Au Nu Cu) ss) := hE
            clear hE hxx hee
            rcases Nat.eq_zero_or_pos j with rfl | hj0
            · go_wp2_with fail
              refine (one_any B 60 _ (by omega) (by omega) HE.out.src).mono ?_
              rintro e w8 ⟨b8, rfl, hs8, hk8⟩
              have HE8 : Hid (ES B w.heap.size w1.heap.size w2.heap.size w wo w8 tag0 v vals es (.slice Au Nu Cu) ss) := HE.out.keep hk8 hs8
              clear hs8 hk8 HE x0 x1 x2 x3 c0
              go_upto_if 46 with fail
              go_cut [6] from 20 to 61 (fun pe wx => pe = .pointer (some ⟨wo.heap.size, 0, none⟩) ∧ ∃ ss' : List ByteArray, ss'.length = ss.length ∧ ES B w.heap.size w1.heap.size w2.heap.size w wo wx tag0 v vals es (.slice Au Nu Cu) ss')
              case first =>
                cases b8
                · go_wp2_with fail
                  go_meet
                  case rel => exact ⟨rfl, ss, rfl, HE8.out⟩
                · have hxx := HE8.out.gs.x
                  have hee := HE8.out.e
                  have x0 : w8.cell? ⟨w1.heap.size, 0, none⟩ = some (.int .i64 39) := by simp [World.cell?, hxx]
                  have x1 : w8.cell? ⟨w1.heap.size, 1, none⟩ = some (.int .i64 43) := by simp [World.cell?, hxx]
                  have x2 : w8.cell? ⟨w1.heap.size, 2, none⟩ = some (.int .i64 58) := by simp [World.cell?, hxx]
                  have x3 : w8.cell? ⟨w1.heap.size, 3, none⟩ = some (.int .i64 63) := by simp [World.cell?, hxx]
                  have x4 : w8.cell? ⟨wo.heap.size, 0, none⟩ = some (.slice Au Nu Cu) := by simp [World.cell?, hee]
                  obtain ⟨gu, hAu, hgu⟩ : ∃ gu, Au = some ⟨gu, 0, none⟩ ∧ Nu = ss.length := by
                    rcases HE8.out.row.2 with ⟨h1, h2⟩ | ⟨g1, cap1, cur1, h1, _⟩
                    · omega
                    · simp at h1
                      exact ⟨g1, h1.1, h1.2.1⟩
                  subst hAu hgu
                  obtain ⟨t0, r0, rf⟩ := row_first HE8.out.row (by omega)
                  have hs0 : (0 : Int) < (ss.length : Int) := by omega
                  have hs1 : 0 < ss.length := by omega
                  have hs2 : ¬ ss = [] := fun e => by rw [e] at hs1; simp at hs1
                  have hs3 : ¬ ss.length = 0 := by omega
                  have hgB : gu ≠ B := by have := row_ge HE8.out.row (by omega); omega
                  have hgu1 : wo.heap.size + 1 ≤ gu := row_ge HE8.out.row (by omega)
                  go_wp2_with fail
                  go_region_law (first | (go_simp; go_at_call 12; refine (n_any B 3 _ (by omega) (by omega) (HE8.out.gs.src.below (Below.refl _ _).drew)).mono ?_; rintro e w9 ⟨q9, rfl, hq90, hq91, hs9, hk9⟩; have y0 := hk9.cell (show w8.drew.cell? ⟨w1.heap.size, 0, none⟩ = _ from x0) (by omega); have y1 := hk9.cell (show w8.drew.cell? ⟨w1.heap.size, 1, none⟩ = _ from x1) (by omega); have y2 := hk9.cell (show w8.drew.cell? ⟨w1.heap.size, 2, none⟩ = _ from x2) (by omega); have y3 := hk9.cell (show w8.drew.cell? ⟨w1.heap.size, 3, none⟩ = _ from x3) (by omega); have y4 := hk9.cell (show w8.drew.cell? ⟨wo.heap.size, 0, none⟩ = _ from x4) (by omega); have y5 := hk9.cell (show w8.drew.cell? ⟨gu, 0, none⟩ = _ from r0) (by omega); try dsimp only) | (go_simp; go_at_call 31; refine (words_i B 39 43 58 63 _ _ (wrap_in (by omega) (by omega)) hs9).mono ?_; rintro e w10 ⟨s10, rfl, hz10, hs10, hk10⟩; have z0 := hk10.cell y0 (by omega); have z4 := hk10.cell y4 (by omega); have HE10 : Hid (ES B w.heap.size w1.heap.size w2.heap.size w wo w10 tag0 v vals es (.slice (some ⟨gu, 0, none⟩) ss.length Cu) ss) := ((HE8.out.keep ((Keep.refl _ _).drew.trans hk9) hs9).keep hk10 hs10); obtain ⟨t10, z5, z6⟩ := row_first HE10.out.row (by omega); try dsimp only))
                  all_goals
                    have HE11 : Hid (ES B w.heap.size w1.heap.size w2.heap.size w wo (w10.setCell ⟨gu, 0, none⟩ (.string s10)) tag0 v vals es (.slice (some ⟨gu, 0, none⟩) ss.length Cu) (ss.set 0 s10)) := HE10.out.store hs1 (by omega)
                    go_wp2_with fail
                    go_meet
                  all_goals exact ⟨rfl, ss.set 0 s10, by simp, HE11.out⟩
              case rest =>
                obtain ⟨hpe, ss', hl', hE⟩ := hcut
                subst hpe
                have hgg := hE.gs.g
                have hee := hE.e
                obtain ⟨Av, Nv, Cv, hv⟩ := row_slice hE.gs.own.row
                subst hv
                have c1 : wc.cell? ⟨w2.heap.size, 1, none⟩ = some (.slice Av Nv Cv) := by simp [World.cell?, hgg]
                have c2 : wc.cell? ⟨wo.heap.size, 0, none⟩ = some (.slice Au Nu Cu) := by simp [World.cell?, hee]
                have c3 : (wc.alloc (.cells #[.slice Au Nu Cu] 55)).cell? ⟨w2.heap.size, 1, none⟩ = some (.slice Av Nv Cv) := (((Below.refl _ _).alloc (Nat.le_refl _) _).cell (p := ⟨w2.heap.size, 1, none⟩) (cell_lt c1)).trans c1
                obtain ⟨j0, hj0i, hi0, hi1, hi2⟩ := info_parts infoElm
                have hmx : es.length + 1 ≤ maxLen := by unfold maxLen; omega
                have hge := hE.ge
                have HE : Hid (ES B w.heap.size w1.heap.size w2.heap.size w wo wc tag0 (.slice Av Nv Cv) vals es (.slice Au Nu Cu) ss') := hE
                have tok1 : True := trivial
                have hz0 := (Array.getElem?_eq_some_iff.1 hee).1
                clear hE hgg hee HE8
                go_wp2_with (at_builtin; have _t := tok1; refine wpList_append_own _ rfl _ _ 34 rfl (w2.heap.size + 1) 55 j0 (.agg #[.slice none 0 0]) 1 24 Tryd.underlying34 hj0i hi0 hi1 hi2 rfl (by decide) _ _ _ rfl (HE.out.gs.own.row.alloc _) ⟨_, 0, none⟩ 1 1 [.slice Au Nu Cu] rfl rfl (cell_one_at _ _ _ _ (by simp)) (by simp [Value.oneCell']) hmx (by omega) (by simp; omega) ?_; intro u' w4 hown' hgrow _; obtain ⟨A4, N4, C4, hu'⟩ := row_slice hown'; subst hu'; obtain ⟨⟨z4, hz4⟩, hf4, hG4⟩ := HE.out.gs.push (row_mono HE.out.row (by omega)) (by omega) HE.out.bd hgrow hown'; have HG4 : Hid (GS B w.heap.size w1.heap.size w2.heap.size w (w4.setCell ⟨w2.heap.size, 1, none⟩ (.slice A4 N4 C4)) tag0 (.slice A4 N4 C4) (vals ++ [.slice Au Nu Cu]) (es ++ [ss'])) := hG4; have hw4 := cell_lt hz4; clear tok1 hown' hgrow hG4)
                all_goals go_roundw
                all_goals first | exact ⟨m - 1, _, _, _, by go_num, by simp; omega, HG4.out⟩ | (simp [intOf]; omega)
            · have hj0' : 0 < (j : Int) := by omega
              go_wp2_with fail
              obtain ⟨j0, hj0i, hi0, hi1, hi2⟩ := info_parts info9
              have hmx : ss.length + 1 ≤ maxLen := by unfold maxLen; omega
              go_region_law (first | (refine step_append_lies _ (by rfl) _ _ _ (by rfl) (wo.heap.size + 1) 9 j0 _ 1 16 Tryd.underlying53 hj0i hi0 hi1 hi2 rfl (by omega) (.slice Au Nu Cu) ss.length (ss.map Value.string) (by rfl) ((HE9.out.row).alloc _) ⟨w9.heap.size, 0, none⟩ 1 1 [.string s9] (by rfl) (by rfl) (cell_one_at _ _ _ _ rfl) (by simp [Value.oneCell']) (by omega) hmx (by omega) (by simp; omega) (w9.heap.size + 1) (by simp) ?_; intro gg cap w10 hown10 hgrow10 hat10 hlt10; obtain ⟨⟨z10, hz10⟩, hf10, hE10⟩ := HE9.out.push hgrow10 hown10 (by omega); have HE10 : Hid (ES B w.heap.size w1.heap.size w2.heap.size w wo (w10.setCell ⟨wo.heap.size, 0, none⟩ (.slice (some ⟨gg, 0, none⟩) (ss.length + 1) cap)) tag0 v vals es (.slice (some ⟨gg, 0, none⟩) (ss.length + 1) cap) (ss ++ [s9])) := hE10; have hbe : wo.heap.size < w10.heap.size := cell_lt hz10; clear hE10 hown10 hgrow10 hat10 hlt10) | (go_simp; go_at_call 12; refine (n_any B 6 _ (by omega) (by omega) (HE.out.gs.src.below (Below.refl _ _).drew)).mono ?_; rintro e w8 ⟨q8, rfl, hq80, hq81, hs8, hk8⟩; have y0 := hk8.cell (show wr.drew.cell? ⟨w1.heap.size, 0, none⟩ = _ from x0) (by omega); have y1 := hk8.cell (show wr.drew.cell? ⟨w1.heap.size, 1, none⟩ = _ from x1) (by omega); have y2 := hk8.cell (show wr.drew.cell? ⟨w1.heap.size, 2, none⟩ = _ from x2) (by omega); have y3 := hk8.cell (show wr.drew.cell? ⟨w1.heap.size, 3, none⟩ = _ from x3) (by omega); have y4 := hk8.cell (show wr.drew.cell? ⟨wo.heap.size, 0, none⟩ = _ from c0) (by omega); obtain ⟨n8, hn8⟩ : ∃ n8 : Nat, q8 = (n8 : Int) := ⟨q8.toNat, by omega⟩; subst hn8; try dsimp only) | (go_simp; go_at_call 31; refine (words_any B 39 43 58 63 n8 _ (by omega) hs8).mono ?_; rintro e w9 ⟨s9, rfl, hz9, hs9, hk9⟩; have z0 := hk9.cell y0 (by omega); have z1 := hk9.cell y1 (by omega); have z2 := hk9.cell y2 (by omega); have z3 := hk9.cell y3 (by omega); have z4 := hk9.cell y4 (by omega); have z5 : (w9.alloc (.cells #[.string s9] 9)).cell? ⟨wo.heap.size, 0, none⟩ = some (.slice Au Nu Cu) := (((Below.refl _ _).alloc (Nat.le_refl _) _).cell (p := ⟨wo.heap.size, 0, none⟩) (cell_lt z4)).trans z4; have HE9 : Hid (ES B w.heap.size w1.heap.size w2.heap.size w wo w9 tag0 v vals es (.slice Au Nu Cu) ss) := ((HE.out.keep ((Keep.refl _ _).drew.trans hk8) hs8).keep hk9 hs9); have hsz9 : wo.heap.size + 1 ≤ w9.heap.size := (Array.getElem?_eq_some_iff.1 HE9.out.e).1; try dsimp only))
              all_goals (go_wp2_with fail; go_roundw)
              all_goals first | exact ⟨j - 1, _, ss ++ [s9], by go_num, by simp; omega, by simp; omega, HE10.out⟩ | (simp [intOf]; omega)
    case rest =>
      obtain ⟨v, vals, es, hG, hel⟩ := hcut
      have HG2 : Hid (GS B w.heap.size w1.heap.size w2.heap.size w wc tag0 v vals es) := hG
      clear hG
      go_upto_block 4 with fail
      go_cut [5] from 62 to 89 (fun _ wx => ∃ (v : Value) (vals : List Value) (es : List (List ByteArray)), GS B w.heap.size w1.heap.size w2.heap.size w wx tag0 v vals es ∧ es.length ≤ 11)
      case first =>
        go_wp2_with fail
        go_loopw [62] (fun _ wr => ∃ (v : Value) (vals : List Value) (es : List (List ByteArray)), GS B w.heap.size w1.heap.size w2.heap.size w wr tag0 v vals es ∧ es.length ≤ 11) (fun _ wr => lenAt wr w2.heap.size)
        case atStart => exact ⟨v, vals, es, HG2.out, hel⟩
        case round =>
          obtain ⟨v, vals, es, hG, hel⟩ := hrel
          clear HG2
          obtain ⟨Av, Nv, Cv, hv⟩ := row_slice hG.own.row
          subst hv
          have hgg := hG.g
          have c1 : wr.cell? ⟨w2.heap.size, 1, none⟩ = some (.slice Av Nv Cv) := by simp [World.cell?, hgg]
          have hNv : Nv = es.length := row_n hG.own.row
          subst hNv
          rcases List.eq_nil_or_concat es with he | ⟨es0, ss, he⟩
          · subst he
            have HG : Hid (GS B w.heap.size w1.heap.size w2.heap.size w wr tag0 (.slice Av ([] : List (List ByteArray)).length Cv) vals []) := hG
            clear hG hgg
            simp only [List.length_nil] at c1 HG
            go_wp2_with fail
            go_meet
            case rel => exact ⟨_, _, _, HG.out, by simp⟩
          · have hes : es = es0 ++ [ss] := by rw [he]; simp
            subst hes
            clear he
            have hlen : (es0 ++ [ss]).length = es0.length + 1 := by simp
            have hCx : ∃ gv, Av = some ⟨gv, 0, none⟩ := by
              rcases hG.own.row.2 with ⟨e1, h0⟩ | ⟨g1, cap1, cur1, e1, _⟩
              · simp at h0
              · simp only [Value.slice.injEq] at e1
                exact ⟨g1, e1.1⟩
            obtain ⟨gv, rfl⟩ := hCx
            obtain ⟨u, hu⟩ : ∃ u, vals[es0.length]? = some u := ⟨_, List.getElem?_eq_getElem (by have := hG.own.len; simp at this; omega)⟩
            have hcu : wr.cell? ⟨gv, es0.length, none⟩ = some u := by
              have h := hG.own.row.cells (g := gv) rfl es0.length u hu
              have e : (⟨gv, 0, none⟩ : Addr).add es0.length = ⟨gv, es0.length, none⟩ := by unfold Addr.add; split <;> simp_all
              rwa [e] at h
            have hru : RowS wr u ss := by
              have h := hG.own.rowE hG.bd (by omega)
              obtain ⟨b, o, cp, e9, u9, h1, h2, h3, h4⟩ := h.at (k := es0.length) (by simp)
              simp only [Value.slice.injEq, Option.some.injEq, Addr.mk.injEq, and_true, true_and] at h1
              obtain ⟨⟨rfl, rfl⟩, _⟩ := h1
              rw [Nat.zero_add] at h3
              obtain rfl : u = u9 := Option.some.inj (hcu.symm.trans h3)
              have : e9 = ss := by simpa using h2.symm
              rw [this] at h4
              exact h4
            have hsl := (hG.bd ss (by simp)).1
            obtain ⟨n, hn⟩ : ∃ n, n = es0.length := ⟨_, rfl⟩
            rw [hlen] at c1 hG
            rw [← hn] at c1 hcu hG
            obtain ⟨au, cu, rfl⟩ := hru.val
            have hn10 : n ≤ 10 := by simp at hel; omega
            have HG : Hid (GS B w.heap.size w1.heap.size w2.heap.size w wr tag0 (.slice (some ⟨gv, 0, none⟩) (n + 1) Cv) vals (es0 ++ [ss]) ∧ RowS wr (.slice au ss.length cu) ss ∧ n = es0.length) := ⟨hG, hru, hn⟩
            have hp0 : (0 : Int) < ((n + 1 : Nat) : Int) := by omega
            have hp1 : (n : Int) < ((n + 1 : Nat) : Int) := by omega
            have hp2 : (0 : Int) < (n : Int) + 1 := by omega
            have hp3 : (n : Int) < (n : Int) + 1 := by omega
            have hcp : n + 1 ≤ Cv := row_cap hG.own.row
            have hcp1 : (n : Int) ≤ (Cv : Int) := by omega
            have hgl := hG.lt
            clear hG hru hgg hu hlen hn
            go_wp2_with fail
            refine (l02Empty_any _ ss _ HG.out.2.1 (by omega)).mono ?_
            rintro e w5 ⟨rfl, hb5⟩
            have hG5 := HG.out.1.below hb5
            have c5 := (hb5.cell (cell_lt c1)).trans c1
            have HG5 : Hid (GS B w.heap.size w1.heap.size w2.heap.size w w5 tag0 (.slice (some ⟨gv, 0, none⟩) (n + 1) Cv) vals (es0 ++ [ss])) := hG5
            clear hb5 hG5
            cases blank1 ss with
            | false =>
              go_wp2_with fail
              go_meet
              case rel => exact ⟨_, _, _, HG5.out, hel⟩
            | true =>
              go_wp2_with fail
              refine (one_any B 20 _ (by omega) (by omega) HG5.out.src).mono ?_
              rintro e w6 ⟨b6, rfl, hs6, hk6⟩
              have hG6 := HG5.out.keep hk6 hs6
              have hgg6 := hG6.g
              have c6 : w6.cell? ⟨w2.heap.size, 1, none⟩ = some (.slice (some ⟨gv, 0, none⟩) (n + 1) Cv) := by simp [World.cell?, hgg6]
              have f6 : ∀ o, w6.frozen? ⟨w2.heap.size, o, none⟩ = false := fun o => by simp [World.frozen?, hgg6]
              have HG6 : Hid (GS B w.heap.size w1.heap.size w2.heap.size w w6 tag0 (.slice (some ⟨gv, 0, none⟩) (n + 1) Cv) vals (es0 ++ [ss])) := hG6
              clear hs6 hk6 hG6 hgg6
              cases b6 with
              | true =>
                go_wp2_with fail
                go_meet
                case rel => exact ⟨_, _, _, HG6.out, hel⟩
              | false =>
                go_wp2_with fail
                have HG7 : Hid (GS B w.heap.size w1.heap.size w2.heap.size w (w6.setCell ⟨w2.heap.size, 1, none⟩ (.slice (some ⟨gv, 0, none⟩) n Cv)) tag0 (.slice (some ⟨gv, 0, none⟩) n Cv) (vals.take n) ((es0 ++ [ss]).take n)) := HG6.out.less (by rw [HG.out.2.2]; simp)
                all_goals go_roundw
                all_goals first | exact ⟨_, _, _, HG7.out, by simp at hel ⊢; omega⟩ | (simp [lenAt, c1, go_sem, c6]; done)
      case rest =>
        obtain ⟨v, vals, es, hG, hel⟩ := hcut
        have HG3 : Hid (GS B w.heap.size w1.heap.size w2.heap.size w wc tag0 v vals es) := hG
        clear hG HG2
        go_wp2_with fail
        refine (one_any B 20 _ (by omega) (by omega) HG3.out.src).mono ?_
        rintro e w7 ⟨b7, rfl, hs7, hk7⟩
        have HG7 : Hid (GS B w.heap.size w1.heap.size w2.heap.size w w7 tag0 v vals es) := HG3.out.keep hk7 hs7
        clear hs7 hk7 HG3
        go_upto_if 91 with fail
        go_cut [93] from 92 to 120 (fun _ wx => ∃ (tag : ByteArray) (v : Value) (vals : List Value) (es : List (List ByteArray)), GS B w.heap.size w1.heap.size w2.heap.size w wx tag v vals es ∧ es.length ≤ 12)
        case first =>
          cases b7
          · go_wp2_with fail
            go_meet
            case rel => exact ⟨_, _, _, _, HG7.out, by omega⟩
          · go_wp2_with fail
            refine (n_any B 3 _ (by omega) (by omega) HG7.out.src).mono ?_
            rintro e w8 ⟨q8, rfl, hq80, hq81, hs8, hk8⟩
            have hG8 := HG7.out.keep hk8 hs8
            have hgl := hG8.lt
            have hbr := hG8.br
            have hrx := hG8.rx
            have hxg := hG8.xg
            have hgg := hG8.g
            obtain ⟨Av, Nv, Cv, hv⟩ := row_slice hG8.own.row
            subst hv
            have c0 : w8.cell? ⟨w2.heap.size, 0, none⟩ = some (.string tag0) := by simp [World.cell?, hgg]
            have c1 : w8.cell? ⟨w2.heap.size, 1, none⟩ = some (.slice Av Nv Cv) := by simp [World.cell?, hgg]
            have HG8 : Hid (GS B w.heap.size w1.heap.size w2.heap.size w w8 tag0 (.slice Av Nv Cv) vals es) := hG8
            clear hs8 hk8 HG7 hG8 hgg
            obtain rfl | rfl | rfl : q8 = 0 ∨ q8 = 1 ∨ q8 = 2 := by omega
            · go_wp2_with fail
              refine (pick_any B w8.heap.size 5 5 [⟨#[]⟩, ⟨#[65, 66]⟩, ⟨#[65, 66, 67, 68]⟩, ⟨#[65, 66, 49]⟩, ⟨#[97, 98, 99]⟩] _ (by omega) (by omega) rfl (by omega) (five_cells _ _ _ _ _ _ _ rfl) (HG8.out.src.below ((Below.refl _ _).alloc (by omega) _))).mono ?_
              rintro e w9 ⟨tag9, rfl, ht9, hs9, hk9⟩
              have hz9 : tag9.size ≤ 100 := by
                simp only [List.mem_cons, List.not_mem_nil, or_false] at ht9
                rcases ht9 with rfl | rfl | rfl | rfl | rfl <;> decide
              clear ht9
              have hG9 := (HG8.out.below ((Below.refl _ w8).alloc (Nat.le_refl _) (.cells #[.string ⟨#[]⟩, .string ⟨#[65, 66]⟩, .string ⟨#[65, 66, 67, 68]⟩, .string ⟨#[65, 66, 49]⟩, .string ⟨#[97, 98, 99]⟩] 9))).keep hk9 hs9
              have hgg9 := hG9.g
              have d0 : w9.cell? ⟨w2.heap.size, 0, none⟩ = some (.string tag0) := by simp [World.cell?, hgg9]
              have df : ∀ o, w9.frozen? ⟨w2.heap.size, o, none⟩ = false := fun o => by simp [World.frozen?, hgg9]
              have HG9 : Hid (GS B w.heap.size w1.heap.size w2.heap.size w w9 tag0 (.slice Av Nv Cv) vals es) := hG9
              clear hs9 hk9 hG9 hgg9
              go_wp2_with fail
              go_meet
              case rel => exact ⟨_, _, _, _, HG9.out.tagSet hz9, by omega⟩
            · have hz0 := hgl
              have c3 : (w8.alloc (.cells #[.slice none 0 0] 55)).cell? ⟨w2.heap.size, 1, none⟩ = some (.slice Av Nv Cv) := (((Below.refl _ _).alloc (Nat.le_refl _) _).cell (p := ⟨w2.heap.size, 1, none⟩) (cell_lt c1)).trans c1
              obtain ⟨j0, hj0i, hi0, hi1, hi2⟩ := info_parts infoElm
              have hmx : es.length + 1 ≤ maxLen := by unfold maxLen; omega
              have tok1 : True := trivial
              go_wp2_with (at_builtin; have _t := tok1; refine wpList_append_own _ rfl _ _ 34 rfl (w2.heap.size + 1) 55 j0 (.agg #[.slice none 0 0]) 1 24 Tryd.underlying34 hj0i hi0 hi1 hi2 rfl (by decide) _ _ _ rfl (HG8.out.own.row.alloc _) ⟨_, 0, none⟩ 1 1 [.slice none 0 0] rfl rfl (cell_one_at _ _ _ _ (by simp)) (by simp [Value.oneCell']) hmx (by omega) (by simp; omega) ?_; intro u' w4 hown' hgrow _; obtain ⟨A4, N4, C4, hu'⟩ := row_slice hown'; subst hu'; obtain ⟨⟨z4, hz4⟩, hf4, hG4⟩ := HG8.out.push (ss := []) (World.ownsRow_nil _ _ _ _) (by simp) (fun t ht => by simp at ht) hgrow hown'; have HG4 : Hid (GS B w.heap.size w1.heap.size w2.heap.size w (w4.setCell ⟨w2.heap.size, 1, none⟩ (.slice A4 N4 C4)) tag0 (.slice A4 N4 C4) (vals ++ [.slice none 0 0]) (es ++ [[]])) := hG4; have hw4 := cell_lt hz4; clear tok1 hown' hgrow hG4)
              all_goals go_meet
              all_goals exact ⟨_, _, _, _, HG4.out, by simp; omega⟩
            · have tok1 : True := trivial
              go_wp2_with fail
              have p3 := three_cells w8 ⟨#[10]⟩ ⟨#[255]⟩ ⟨#[97]⟩
              have bA : Below w8.heap.size w8 (w8.alloc (.cells #[.string ⟨#[10]⟩, .string ⟨#[255]⟩, .string ⟨#[97]⟩] 9)) := (Below.refl _ _).alloc (Nat.le_refl _) _
              have hG8a : GS B w.heap.size w1.heap.size w2.heap.size w (w8.alloc (.cells #[.string ⟨#[10]⟩, .string ⟨#[255]⟩, .string ⟨#[97]⟩] 9)).drew tag0 (.slice Av Nv Cv) vals es := HG8.out.below bA.drew
              have HG8a : Hid (GS B w.heap.size w1.heap.size w2.heap.size w (w8.alloc (.cells #[.string ⟨#[10]⟩, .string ⟨#[255]⟩, .string ⟨#[97]⟩] 9)).drew tag0 (.slice Av Nv Cv) vals es) := hG8a
              have P3 : Hid (∀ (i : Nat) (t : ByteArray), [(⟨#[10]⟩ : ByteArray), ⟨#[255]⟩, ⟨#[97]⟩][i]? = some t → (w8.alloc (.cells #[.string ⟨#[10]⟩, .string ⟨#[255]⟩, .string ⟨#[97]⟩] 9)).drew.cell? ⟨w8.heap.size, i, none⟩ = some (.string t)) := p3
              have c1a : (w8.alloc (.cells #[.string ⟨#[10]⟩, .string ⟨#[255]⟩, .string ⟨#[97]⟩] 9)).cell? ⟨w2.heap.size, 1, none⟩ = some (.slice Av Nv Cv) := (bA.cell (p := ⟨w2.heap.size, 1, none⟩) (cell_lt c1)).trans c1
              obtain ⟨j0, hj0i, hi0, hi1, hi2⟩ := info_parts infoElm
              have hmx : es.length + 1 ≤ maxLen := by unfold maxLen; omega
              have bb : Below w8.heap.size w8 ((w8.alloc (.cells #[.string ⟨#[10]⟩, .string ⟨#[255]⟩, .string ⟨#[97]⟩] 9)).alloc (.cells #[.string ⟨#[]⟩, .string ⟨#[98]⟩] 9)) := ((Below.refl _ _).alloc (Nat.le_refl _) _).alloc (by simp) _
              have HG8b : Hid (GS B w.heap.size w1.heap.size w2.heap.size w ((w8.alloc (.cells #[.string ⟨#[10]⟩, .string ⟨#[255]⟩, .string ⟨#[97]⟩] 9)).alloc (.cells #[.string ⟨#[]⟩, .string ⟨#[98]⟩] 9)).drew tag0 (.slice Av Nv Cv) vals es) := HG8.out.below bb.drew
              have P3b : Hid (∀ (i : Nat) (t : ByteArray), [(⟨#[10]⟩ : ByteArray), ⟨#[255]⟩, ⟨#[97]⟩][i]? = some t → ((w8.alloc (.cells #[.string ⟨#[10]⟩, .string ⟨#[255]⟩, .string ⟨#[97]⟩] 9)).alloc (.cells #[.string ⟨#[]⟩, .string ⟨#[98]⟩] 9)).drew.cell? ⟨w8.heap.size, i, none⟩ = some (.string t)) := fun i t ht => (((Below.refl _ _).alloc (Nat.le_refl _) _).cell (cell_lt (three_cells w8 _ _ _ i t ht))).trans (three_cells w8 _ _ _ i t ht)
              have P2b : Hid (∀ (i : Nat) (t : ByteArray), [(⟨#[]⟩ : ByteArray), ⟨#[98]⟩][i]? = some t → ((w8.alloc (.cells #[.string ⟨#[10]⟩, .string ⟨#[255]⟩, .string ⟨#[97]⟩] 9)).alloc (.cells #[.string ⟨#[]⟩, .string ⟨#[98]⟩] 9)).drew.cell? ⟨w8.heap.size + 1, i, none⟩ = some (.string t)) := fun i t ht => by have h := two_cells (w8.alloc (.cells #[.string ⟨#[10]⟩, .string ⟨#[255]⟩, .string ⟨#[97]⟩] 9)) ⟨#[]⟩ ⟨#[98]⟩ i t ht; simpa using h
              have e1b : ((w8.alloc (.cells #[.string ⟨#[10]⟩, .string ⟨#[255]⟩, .string ⟨#[97]⟩] 9)).alloc (.cells #[.string ⟨#[]⟩, .string ⟨#[98]⟩] 9)).cell? ⟨w2.heap.size, 1, none⟩ = some (.slice Av Nv Cv) := (bb.cell (p := ⟨w2.heap.size, 1, none⟩) (cell_lt c1)).trans c1
              clear bb
              have bc : Below w8.heap.size w8 ((w8.alloc (.cells #[.string ⟨#[]⟩, .string ⟨#[98]⟩] 9)).alloc (.cells #[.string ⟨#[10]⟩, .string ⟨#[255]⟩, .string ⟨#[97]⟩] 9)) := ((Below.refl _ _).alloc (Nat.le_refl _) _).alloc (by simp) _
              have HG8c : Hid (GS B w.heap.size w1.heap.size w2.heap.size w ((w8.alloc (.cells #[.string ⟨#[]⟩, .string ⟨#[98]⟩] 9)).alloc (.cells #[.string ⟨#[10]⟩, .string ⟨#[255]⟩, .string ⟨#[97]⟩] 9)).drew tag0 (.slice Av Nv Cv) vals es) := HG8.out.below bc.drew
              have P3c : Hid (∀ (i : Nat) (t : ByteArray), [(⟨#[10]⟩ : ByteArray), ⟨#[255]⟩, ⟨#[97]⟩][i]? = some t → ((w8.alloc (.cells #[.string ⟨#[]⟩, .string ⟨#[98]⟩] 9)).alloc (.cells #[.string ⟨#[10]⟩, .string ⟨#[255]⟩, .string ⟨#[97]⟩] 9)).drew.cell? ⟨w8.heap.size + 1, i, none⟩ = some (.string t)) := fun i t ht => by have h := three_cells (w8.alloc (.cells #[.string ⟨#[]⟩, .string ⟨#[98]⟩] 9)) ⟨#[10]⟩ ⟨#[255]⟩ ⟨#[97]⟩ i t ht; simpa using h
              have P2c : Hid (∀ (i : Nat) (t : ByteArray), [(⟨#[]⟩ : ByteArray), ⟨#[98]⟩][i]? = some t → ((w8.alloc (.cells #[.string ⟨#[]⟩, .string ⟨#[98]⟩] 9)).alloc (.cells #[.string ⟨#[10]⟩, .string ⟨#[255]⟩, .string ⟨#[97]⟩] 9)).drew.cell? ⟨w8.heap.size, i, none⟩ = some (.string t)) := fun i t ht => (((Below.refl _ _).alloc (Nat.le_refl _) _).cell (cell_lt (two_cells w8 _ _ i t ht))).trans (two_cells w8 _ _ i t ht)
              have e1c : ((w8.alloc (.cells #[.string ⟨#[]⟩, .string ⟨#[98]⟩] 9)).alloc (.cells #[.string ⟨#[10]⟩, .string ⟨#[255]⟩, .string ⟨#[97]⟩] 9)).cell? ⟨w2.heap.size, 1, none⟩ = some (.slice Av Nv Cv) := (bc.cell (p := ⟨w2.heap.size, 1, none⟩) (cell_lt c1)).trans c1
              clear bc
              have e1d : (w8.alloc (.cells #[.string ⟨#[]⟩, .string ⟨#[98]⟩] 9)).cell? ⟨w2.heap.size, 1, none⟩ = some (.slice Av Nv Cv) := (((Below.refl _ _).alloc (Nat.le_refl _) _).cell (p := ⟨w2.heap.size, 1, none⟩) (cell_lt c1)).trans c1
              clear p3 bA hG8a
              have hA2 : 1 < 2 := by omega
              have hB2 : 2 ≤ 1000 := by omega
              have hT2 : [(⟨#[]⟩ : ByteArray), ⟨#[98]⟩].length = 2 := rfl
              have hA3 : 1 < 3 := by omega
              have hB3 : 3 ≤ 1000 := by omega
              have hT3 : [(⟨#[10]⟩ : ByteArray), ⟨#[255]⟩, ⟨#[97]⟩].length = 3 := rfl
              go_region_law (first | (refine step_append_lies _ (by rfl) _ _ _ (by rfl) (w2.heap.size + 1) 55 j0 _ 1 24 Tryd.underlying34 hj0i hi0 hi1 hi2 rfl (by omega) (.slice Av Nv Cv) es.length vals (by rfl) ((HG10.out.own.row.alloc _).alloc _) ⟨w10.heap.size + 1, 0, none⟩ 1 1 [.slice (some ⟨w10.heap.size, 0, none⟩) 2 2] (by rfl) (by rfl) (cell_one_at _ _ _ _ (by simp)) (by simp [Value.oneCell']) (by omega) hmx (by omega) (by simp; omega) (w10.heap.size + 1 + 1) (by simp) ?_; intro gg cap w11 hown11 hgrow11 hat11 hlt11; obtain ⟨⟨z11, hz11⟩, hf11, hG11⟩ := HG11.out.push (ss := [t9, t10]) (own_two _ _ _ _ (by omega)) (by simp) HT.out hgrow11 hown11; have HG12 : Hid (GS B w.heap.size w1.heap.size w2.heap.size w (w11.setCell ⟨w2.heap.size, 1, none⟩ (.slice (some ⟨gg, 0, none⟩) (es.length + 1) cap)) tag0 (.slice (some ⟨gg, 0, none⟩) (es.length + 1) cap) (vals ++ [.slice (some ⟨w10.heap.size, 0, none⟩) 2 2]) (es ++ [[t9, t10]])) := hG11; have hw11 := cell_lt hz11; clear hG11 hown11 hgrow11 hat11 hlt11) | (go_simp; go_at_call 23; have _g := Q2b; (with_reducible_and_instances refine (pick_any B (w8.heap.size + 1) 2 2 [⟨#[]⟩, ⟨#[98]⟩] _ hA2 hB2 hT2 (by omega) Q2b.out hs9).mono ?_); rintro e w10 ⟨t10, rfl, hz10, hs10, hk10⟩; have hG10 : GS B w.heap.size w1.heap.size w2.heap.size w w10 tag0 (.slice Av Nv Cv) vals es := HG9.out.keep hk10 hs10; have hgg10 := hG10.g; have hl10 := hG10.lt; have d10 : w10.cell? ⟨w2.heap.size, 1, none⟩ = some (.slice Av Nv Cv) := (by simp [World.cell?, hgg10]); have d10a : (w10.alloc (.cells #[.string t9, .string t10] 9)).cell? ⟨w2.heap.size, 1, none⟩ = some (.slice Av Nv Cv) := (((Below.refl _ _).alloc (Nat.le_refl _) _).cell (p := ⟨w2.heap.size, 1, none⟩) (cell_lt d10)).trans d10; have d10b : ((w10.alloc (.cells #[.string t9, .string t10] 9)).alloc (.cells #[.slice (some ⟨w10.heap.size, 0, none⟩) 2 2] 55)).cell? ⟨w2.heap.size, 1, none⟩ = some (.slice Av Nv Cv) := (((Below.refl _ _).alloc (Nat.le_refl _) _).cell (p := ⟨w2.heap.size, 1, none⟩) (cell_lt d10a)).trans d10a; have HG10 : Hid (GS B w.heap.size w1.heap.size w2.heap.size w w10 tag0 (.slice Av Nv Cv) vals es) := hG10; have HG11 : Hid (GS B w.heap.size w1.heap.size w2.heap.size w (w10.alloc (.cells #[.string t9, .string t10] 9)) tag0 (.slice Av Nv Cv) vals es) := (hG10.below ((Below.refl _ w10).alloc (Nat.le_refl _) _)); have HT : Hid (∀ t ∈ ([t9, t10] : List ByteArray), t.size ≤ 100) := (two_small HZ9.out hz10); clear hG10 hgg10 hs10 hk10; try dsimp only) | (go_simp; go_at_call 23; have _g := Q2c; (with_reducible_and_instances refine (pick_any B w8.heap.size 2 2 [⟨#[]⟩, ⟨#[98]⟩] _ hA2 hB2 hT2 (by omega) Q2c.out hs9).mono ?_); rintro e w10 ⟨t10, rfl, hz10, hs10, hk10⟩; have hG10 : GS B w.heap.size w1.heap.size w2.heap.size w w10 tag0 (.slice Av Nv Cv) vals es := HG9.out.keep hk10 hs10; have hgg10 := hG10.g; have hl10 := hG10.lt; have d10 : w10.cell? ⟨w2.heap.size, 1, none⟩ = some (.slice Av Nv Cv) := (by simp [World.cell?, hgg10]); have d10a : (w10.alloc (.cells #[.string t9, .string t10] 9)).cell? ⟨w2.heap.size, 1, none⟩ = some (.slice Av Nv Cv) := (((Below.refl _ _).alloc (Nat.le_refl _) _).cell (p := ⟨w2.heap.size, 1, none⟩) (cell_lt d10)).trans d10; have d10b : ((w10.alloc (.cells #[.string t9, .string t10] 9)).alloc (.cells #[.slice (some ⟨w10.heap.size, 0, none⟩) 2 2] 55)).cell? ⟨w2.heap.size, 1, none⟩ = some (.slice Av Nv Cv) := (((Below.refl _ _).alloc (Nat.le_refl _) _).cell (p := ⟨w2.heap.size, 1, none⟩) (cell_lt d10a)).trans d10a; have HG10 : Hid (GS B w.heap.size w1.heap.size w2.heap.size w w10 tag0 (.slice Av Nv Cv) vals es) := hG10; have HG11 : Hid (GS B w.heap.size w1.heap.size w2.heap.size w (w10.alloc (.cells #[.string t9, .string t10] 9)) tag0 (.slice Av Nv Cv) vals es) := (hG10.below ((Below.refl _ w10).alloc (Nat.le_refl _) _)); have HT : Hid (∀ t ∈ ([t9, t10] : List ByteArray), t.size ≤ 100) := (two_small HZ9.out hz10); clear hG10 hgg10 hs10 hk10; try dsimp only) | (go_simp; go_at_call 23; have _g := Q2a; (with_reducible_and_instances refine (pick_any B w9.heap.size 2 2 [⟨#[]⟩, ⟨#[98]⟩] _ hA2 hB2 hT2 (by omega) Q2a.out S2a.out).mono ?_); rintro e w10 ⟨t10, rfl, hz10, hs10, hk10⟩; have hG10 : GS B w.heap.size w1.heap.size w2.heap.size w w10 tag0 (.slice Av Nv Cv) vals es := (HG9.out.below ((Below.refl _ w9).alloc (Nat.le_refl _) _)).keep hk10 hs10; have hgg10 := hG10.g; have hl10 := hG10.lt; have d10 : w10.cell? ⟨w2.heap.size, 1, none⟩ = some (.slice Av Nv Cv) := (by simp [World.cell?, hgg10]); have d10a : (w10.alloc (.cells #[.string t9, .string t10] 9)).cell? ⟨w2.heap.size, 1, none⟩ = some (.slice Av Nv Cv) := (((Below.refl _ _).alloc (Nat.le_refl _) _).cell (p := ⟨w2.heap.size, 1, none⟩) (cell_lt d10)).trans d10; have d10b : ((w10.alloc (.cells #[.string t9, .string t10] 9)).alloc (.cells #[.slice (some ⟨w10.heap.size, 0, none⟩) 2 2] 55)).cell? ⟨w2.heap.size, 1, none⟩ = some (.slice Av Nv Cv) := (((Below.refl _ _).alloc (Nat.le_refl _) _).cell (p := ⟨w2.heap.size, 1, none⟩) (cell_lt d10a)).trans d10a; have HG10 : Hid (GS B w.heap.size w1.heap.size w2.heap.size w w10 tag0 (.slice Av Nv Cv) vals es) := hG10; have HG11 : Hid (GS B w.heap.size w1.heap.size w2.heap.size w (w10.alloc (.cells #[.string t9, .string t10] 9)) tag0 (.slice Av Nv Cv) vals es) := (hG10.below ((Below.refl _ w10).alloc (Nat.le_refl _) _)); have HT : Hid (∀ t ∈ ([t9, t10] : List ByteArray), t.size ≤ 100) := (two_small HZ9.out hz10); clear hG10 hgg10 hs10 hk10; try dsimp only) | (go_simp; go_at_call 23; (with_reducible_and_instances refine (pick_any B w8.heap.size 3 3 [⟨#[10]⟩, ⟨#[255]⟩, ⟨#[97]⟩] _ hA3 hB3 hT3 (by omega) P3b.out HG8b.out.src).mono ?_); rintro e w9 ⟨t9, rfl, hz9, hs9, hk9⟩; have hG9 : GS B w.heap.size w1.heap.size w2.heap.size w w9 tag0 (.slice Av Nv Cv) vals es := HG8b.out.keep hk9 hs9; have hgg9 := hG9.g; have hl9 := hG9.lt; have d9 : w9.cell? ⟨w2.heap.size, 1, none⟩ = some (.slice Av Nv Cv) := (by simp [World.cell?, hgg9]); have d9a : (w9.alloc (.cells #[.string ⟨#[]⟩, .string ⟨#[98]⟩] 9)).cell? ⟨w2.heap.size, 1, none⟩ = some (.slice Av Nv Cv) := (((Below.refl _ _).alloc (Nat.le_refl _) _).cell (p := ⟨w2.heap.size, 1, none⟩) (cell_lt d9)).trans d9; have HG9 : Hid (GS B w.heap.size w1.heap.size w2.heap.size w w9 tag0 (.slice Av Nv Cv) vals es) := hG9; have Q2b : Hid (∀ (i : Nat) (t : ByteArray), [(⟨#[]⟩ : ByteArray), ⟨#[98]⟩][i]? = some t → w9.cell? ⟨(w8.heap.size + 1), i, none⟩ = some (.string t)) := (fun i t ht => hk9.cell (P2b.out i t ht) (by simp; omega)); have HZ9 : Hid (t9 ∈ [(⟨#[10]⟩ : ByteArray), ⟨#[255]⟩, ⟨#[97]⟩]) := hz9; clear hG9 hgg9 hz9; try dsimp only) | (go_simp; go_at_call 23; (with_reducible_and_instances refine (pick_any B (w8.heap.size + 1) 3 3 [⟨#[10]⟩, ⟨#[255]⟩, ⟨#[97]⟩] _ hA3 hB3 hT3 (by omega) P3c.out HG8c.out.src).mono ?_); rintro e w9 ⟨t9, rfl, hz9, hs9, hk9⟩; have hG9 : GS B w.heap.size w1.heap.size w2.heap.size w w9 tag0 (.slice Av Nv Cv) vals es := HG8c.out.keep hk9 hs9; have hgg9 := hG9.g; have hl9 := hG9.lt; have d9 : w9.cell? ⟨w2.heap.size, 1, none⟩ = some (.slice Av Nv Cv) := (by simp [World.cell?, hgg9]); have d9a : (w9.alloc (.cells #[.string ⟨#[]⟩, .string ⟨#[98]⟩] 9)).cell? ⟨w2.heap.size, 1, none⟩ = some (.slice Av Nv Cv) := (((Below.refl _ _).alloc (Nat.le_refl _) _).cell (p := ⟨w2.heap.size, 1, none⟩) (cell_lt d9)).trans d9; have HG9 : Hid (GS B w.heap.size w1.heap.size w2.heap.size w w9 tag0 (.slice Av Nv Cv) vals es) := hG9; have Q2c : Hid (∀ (i : Nat) (t : ByteArray), [(⟨#[]⟩ : ByteArray), ⟨#[98]⟩][i]? = some t → w9.cell? ⟨w8.heap.size, i, none⟩ = some (.string t)) := (fun i t ht => hk9.cell (P2c.out i t ht) (by simp; omega)); have HZ9 : Hid (t9 ∈ [(⟨#[10]⟩ : ByteArray), ⟨#[255]⟩, ⟨#[97]⟩]) := hz9; clear hG9 hgg9 hz9; try dsimp only) | (go_simp; go_at_call 23; (with_reducible_and_instances refine (pick_any B w8.heap.size 3 3 [⟨#[10]⟩, ⟨#[255]⟩, ⟨#[97]⟩] _ hA3 hB3 hT3 (by omega) P3.out HG8a.out.src).mono ?_); rintro e w9 ⟨t9, rfl, hz9, hs9, hk9⟩; have hG9 : GS B w.heap.size w1.heap.size w2.heap.size w w9 tag0 (.slice Av Nv Cv) vals es := HG8a.out.keep hk9 hs9; have hgg9 := hG9.g; have hl9 := hG9.lt; have d9 : w9.cell? ⟨w2.heap.size, 1, none⟩ = some (.slice Av Nv Cv) := (by simp [World.cell?, hgg9]); have d9a : (w9.alloc (.cells #[.string ⟨#[]⟩, .string ⟨#[98]⟩] 9)).cell? ⟨w2.heap.size, 1, none⟩ = some (.slice Av Nv Cv) := (((Below.refl _ _).alloc (Nat.le_refl _) _).cell (p := ⟨w2.heap.size, 1, none⟩) (cell_lt d9)).trans d9; have HG9 : Hid (GS B w.heap.size w1.heap.size w2.heap.size w w9 tag0 (.slice Av Nv Cv) vals es) := hG9; have Q2a : Hid (∀ (i : Nat) (t : ByteArray), [(⟨#[]⟩ : ByteArray), ⟨#[98]⟩][i]? = some t → (w9.alloc (.cells #[.string ⟨#[]⟩, .string ⟨#[98]⟩] 9)).cell? ⟨w9.heap.size, i, none⟩ = some (.string t)) := (two_cells w9 _ _); have S2a : Hid (IsSrc B (w9.alloc (.cells #[.string ⟨#[]⟩, .string ⟨#[98]⟩] 9))) := (hs9.below ((Below.refl _ _).alloc (by omega) _)); have HZ9 : Hid (t9 ∈ [(⟨#[10]⟩ : ByteArray), ⟨#[255]⟩, ⟨#[97]⟩]) := hz9; clear hG9 hgg9 hz9; try dsimp only))
              all_goals (go_wp2_with fail; go_meet)
              all_goals exact ⟨_, _, _, _, HG12.out, by simp; omega⟩
        case rest =>
          obtain ⟨tag, v, vals, es, hG, hel⟩ := hcut
          clear HG7
          obtain ⟨Av, Nv, Cv, hv⟩ := row_slice hG.own.row
          subst hv
          have hgg := hG.g
          have hrr := hG.r
          have hgl := hG.lt
          have hbr := hG.br
          have hrx := hG.rx
          have hxg := hG.xg
          have c0 : wc.cell? ⟨w2.heap.size, 0, none⟩ = some (.string tag) := by simp [World.cell?, hgg]
          have c1 : wc.cell? ⟨w2.heap.size, 1, none⟩ = some (.slice Av Nv Cv) := by simp [World.cell?, hgg]
          have d0 : wc.cell? ⟨w.heap.size, 0, none⟩ = some (.string ⟨#[]⟩) := by simp [World.cell?, hrr]
          have d1 : wc.cell? ⟨w.heap.size, 1, none⟩ = some (.slice none 0 0) := by simp [World.cell?, hrr]
          have df : ∀ o, wc.frozen? ⟨w.heap.size, o, none⟩ = false := fun o => by simp [World.frozen?, hrr]
          have HD : Hid (OwnW w.heap.size ((wc.setCell ⟨w.heap.size, 0, none⟩ (.string tag)).setCell ⟨w.heap.size, 1, none⟩ (.slice Av Nv Cv)) (.slice Av Nv Cv) vals es ∧ BdW es ∧ IsSrc B ((wc.setCell ⟨w.heap.size, 0, none⟩ (.string tag)).setCell ⟨w.heap.size, 1, none⟩ (.slice Av Nv Cv)) ∧ Keep B w ((wc.setCell ⟨w.heap.size, 0, none⟩ (.string tag)).setCell ⟨w.heap.size, 1, none⟩ (.slice Av Nv Cv))) := hG.done
          have htz := hG.tz
          clear hG hgg hrr
          go_wp2_with fail
          exact bodyPost_ret (v := .agg #[.string tag, .slice Av Nv Cv]) (by simp [results, Tryd.results25, go_sem, d0, d1]) rfl ⟨tag, _, vals, es, rfl, htz, hel, HD.out⟩
end Go.Proofs.YtphgheojfnlgjaaDoor
