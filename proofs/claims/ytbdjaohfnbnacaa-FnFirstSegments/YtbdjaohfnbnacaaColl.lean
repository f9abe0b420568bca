/- Contracts of impl.scan and the closure that it hands back, as a loop takes it, and what a loop that collects bytes keeps; a text of at most 20000 bytes. -/
import Derived.Test.YtbdjaohfnbnacaaIter
import Derived.Test.YtbdjaohfnbnacaaBase
import Derived.Laws.BytesArg
namespace Go.Proofs.Ytbdjaohfnbnacaa
open Go.ChangeShapes Go.WideShapes Go.ChangeAt Go.RowKit Go.Shelf
attribute [local go_sem] Oper.semAt_some
set_option maxHeartbeats 1000000 in
theorem scan_in (F : Fence) (n : Nat) (hF : F.fn 49) (hro : F.round = none) (a b c d : Int) (s : ByteArray) (w : World) :
    CallsIn F n Try.prog 49 #[.agg #[.int .i64 a, .int .i64 b, .int .i64 c, .int .i64 d], .string s] w fun e w' => e = .returned (.func (.func 57) #[] #[.pointer (some ⟨w.heap.size + 1, 0, none⟩), .pointer (some ⟨w.heap.size, 0, none⟩)]) ∧ w' = (w.alloc (.cells #[.int .i64 a, .int .i64 b, .int .i64 c, .int .i64 d] 24)).alloc (.cells #[.string s] 9) := by
  refine callsIn_of_wp Try.func49 rfl hF ?_ hro
  simp only [Try.ntmps49, List.size_toArray, List.length_cons, List.length_nil, Nat.reduceAdd, Nat.reduceSub, Array.replicate_succ, Array.replicate_zero, List.push_toArray, List.append_toArray, List.nil_append, List.cons_append]
  gi_wp2
  go_ret
  exact ⟨rfl, rfl⟩
theorem scan_stops (F : Fence) (n : Nat) (hF : F.fn 57) (hro : F.round = none) (hn : 1 ≤ n) (bt bs : Nat) (s : ByteArray) (rel : Int) (hs : s.size ≤ 20000) (w : World) (hbt : bt < w.heap.size) (hbs : bs < w.heap.size)
    (ht : w.cell? ⟨bt, 0, none⟩ = some (.string s)) (hr : w.cell? ⟨bs, 3, none⟩ = some (.int .i64 rel)) :
    SeqStopsK F n Try.prog 57 #[.pointer (some ⟨bt, 0, none⟩), .pointer (some ⟨bs, 0, none⟩)] encP (Two bt bs) (fun ys => ys = upto s rel s.size) (fun pre => ∃ k, k ≤ s.size ∧ pre = upto s rel k) s.size w := fun l J Jx W hW _ _ hY h0 =>
  scan1_in F n hF hro hn l bt bs s rel hs J Jx hY W ((hW.cell (p := ⟨bt, 0, none⟩) hbt).trans ht) ((hW.cell (p := ⟨bs, 3, none⟩) hbs).trans hr) h0
/-- A loop that collects bytes in a box: the box E holds a slice that owns the bytes xs; the blocks of L lie as they lay; nothing below n₀ has turned. -/
structure EI (n₀ E : Nat) (L : List (Nat × Obj)) (w W : World) (v : Value) (xs : List Int) : Prop where
  box : Boxed W E 22 v
  row : W.ownsRow n₀ 5 1 v xs.length (xs.map (Value.int .u8))
  fix : ∀ p ∈ L, W.heap[p.1]? = some p.2
  bel : Below n₀ w W
  hn : n₀ ≤ E
  cl : ∀ p ∈ L, (∃ c t, p.2 = .cells c t ∧ t ≠ 5) ∧ p.1 ≠ E
  w0 : n₀ ≤ w.heap.size
theorem EI.lt {n₀ E : Nat} {L : List (Nat × Obj)} {w W : World} {v : Value} {xs : List Int} (h : EI n₀ E L w W v xs) {p : Nat × Obj} (hp : p ∈ L) : p.1 < W.heap.size := (Array.getElem?_eq_some_iff.1 (h.fix p hp)).1
theorem EI.sz {n₀ E : Nat} {L : List (Nat × Obj)} {w W : World} {v : Value} {xs : List Int} (h : EI n₀ E L w W v xs) : n₀ ≤ W.heap.size := Nat.le_trans h.w0 h.bel.size
theorem EI.not_row {n₀ E : Nat} {L : List (Nat × Obj)} {w W : World} {v : Value} {xs : List Int} (h : EI n₀ E L w W v xs) {p : Nat × Obj} (hp : p ∈ L) : some p.1 ≠ v.ownBlock := by
  intro e
  rcases h.row.2 with ⟨rfl, _⟩ | ⟨g, cap, cur, rfl, _, hgb, _⟩
  · simp [Value.ownBlock] at e
  · obtain rfl : p.1 = g := by simpa [Value.ownBlock] using e
    obtain ⟨⟨c, t, e1, e2⟩, _⟩ := h.cl p hp
    have := h.fix p hp
    rw [hgb, e1] at this
    cases this
    exact e2 rfl
/-- What keeps all that lay there keeps it. -/
theorem EI.below {n₀ E : Nat} {L : List (Nat × Obj)} {w W W' : World} {v : Value} {xs : List Int} (h : EI n₀ E L w W v xs) (hb : Below W.heap.size W W') : EI n₀ E L w W' v xs := by
  have hg : W.grownBy W' none := ⟨hb.os, hb.tape, hb.output, hb.size, fun k hk _ => hb.block k hk⟩
  have hrk : W'.ownsRow n₀ 5 1 v xs.length (xs.map (Value.int .u8)) := by
    refine h.row.kept hg ?_
    rcases h.row.2 with ⟨rfl, _⟩ | ⟨g, cap, cur, rfl, _, hgb, _⟩
    · exact .inl rfl
    · exact .inr (by simp [Value.ownBlock])
  exact ⟨h.box.kept hg (by simp), hrk, fun p hp => (hb.block p.1 (h.lt hp)).trans (h.fix p hp), h.bel.trans (hb.mono h.sz), h.hn, h.cl, h.w0⟩
theorem EI.app {n₀ E : Nat} {L : List (Nat × Obj)} {w W w1 : World} {v v' : Value} {xs : List Int} {x : Int} {tmp : Obj} (h : EI n₀ E L w W v xs)
    (hown' : w1.ownsRow n₀ 5 1 v' (xs.length + 1) (xs.map (Value.int .u8) ++ [.int .u8 x])) (hgrow : (W.alloc tmp).grownBy w1 v.ownBlock) :
    Boxed w1 E 22 v ∧ EI n₀ E L w (w1.setCell ⟨E, 0, none⟩ v') v' (xs ++ [x]) ∧ KeepsOthers W (w1.setCell ⟨E, 0, none⟩ v') ∧ ∀ p ∈ L, w1.heap[p.1]? = some p.2 := by
  obtain ⟨hv1, hv2, hr2, hk2, hb2⟩ := h.box.appended (by decide) h.row h.sz h.hn hown' hgrow
  have hfx : ∀ p ∈ L, w1.heap[p.1]? = some p.2 := fun p hp => by
    rw [hgrow.block p.1 (by have := h.lt hp; simp; omega) (h.not_row hp), Below.heap_alloc W tmp p.1 (h.lt hp)]
    exact h.fix p hp
  refine ⟨hv1, ⟨hv2, by simpa using hr2, fun p hp => ?_, h.bel.trans hb2, h.hn, h.cl, h.w0⟩, hk2, hfx⟩
  have h2 : (w1.setCell ⟨E, 0, none⟩ v').heap[p.1]? = w1.heap[p.1]? := Below.heap_setCell w1 ⟨E, 0, none⟩ v' p.1 (h.cl p hp).2
  rw [h2]
  exact hfx p hp
/-- It speaks of cells alone, and of nothing beyond. -/
theorem EI.own {β : Type} {n₀ E B : Nat} {w : World} (L : β → List (Nat × Obj)) (f : β → List Int) (hB : n₀ ≤ B) : OwnFrom B (fun (s : β) W => ∃ v, EI n₀ E (L s) w W v (f s)) := by
  rintro s W W' row ⟨v, h⟩ hg hr
  have hnc : ∀ {b : Nat} {c : Array Value} {t : TypeId}, W.heap[b]? = some (.cells c t) → some b ≠ row := by
    intro b c t hb e
    obtain ⟨_, o, ho, hc⟩ := hr b e.symm
    rw [hb] at ho
    cases ho
    simp [Obj.isCells] at hc
  refine ⟨v, h.box.kept hg (hnc h.box), h.row.kept hg ?_, fun p hp => ?_, h.bel.grown hg h.sz (fun k e => Nat.le_trans hB (hr k e).1), h.hn, h.cl, h.w0⟩
  · rcases h.row.2 with ⟨rfl, _⟩ | ⟨g, cap, cur, rfl, _, hgb, _⟩
    · exact .inl rfl
    · exact .inr (fun e => hnc hgb (by simpa [Value.ownBlock] using e))
  · obtain ⟨⟨c, t, e1, _⟩, _⟩ := h.cl p hp
    have hf := h.fix p hp
    exact (hg.block p.1 (h.lt hp) (hnc (by rw [hf, e1]))).trans hf
theorem info5 : (Try.prog.info? 5).map (fun i => (i.zero, i.size, i.bytes)) = some (some (.int .u8 0), 1, 1) := by kernel_rfl
theorem conv_row {W : World} {n₀ : Nat} {v : Value} {xs : List Int} (h : W.ownsRow n₀ 5 1 v xs.length (xs.map (Value.int .u8))) : (convert 22 9 v).run Try.prog W = .ok (.string (strOfNums xs)) W := by
  rcases h.2 with ⟨rfl, e⟩ | ⟨g, cap, cur, rfl, _, hgb, _, _, hcs, htk⟩
  · have : xs = [] := List.length_eq_zero_iff.1 e
    subst this
    exact run_convert_bytes_nil W 22 5 Try.underlying22 Try.underlying5 0 0 9 Try.underlying9
  · refine run_convert_bytes_arg W 22 5 Try.underlying22 Try.underlying5 g 0 xs.length cap xs rfl (fun i hi => ?_) 9 Try.underlying9
    have h1 : (cur.toList.take (xs.length * 1))[i]? = (xs.map (Value.int .u8))[i]? := by rw [htk]
    rw [List.getElem?_take_of_lt (by omega)] at h1
    simp [World.cell?, hgb, List.getElem?_eq_getElem hi] at h1 ⊢
    rw [h1]
theorem cell_one_at (w : World) (x : Value) (t : TypeId) (g : Nat) (hg : g = w.heap.size) : ∀ j u, [x][j]? = some u → (w.alloc (.cells #[x] t)).cell? ((⟨g, 0, none⟩ : Addr).add j) = some u := by
  subst hg
  exact cell_one_new w x t
theorem keepsOthers_of_below {W W' : World} (h : Below W.heap.size W W') : KeepsOthers W W' := ⟨h.size, fun k _ hk _ => (h.block k (Array.getElem?_eq_some_iff.1 hk).1).trans hk⟩
/-- A store into a box that is none of the slice's. -/
theorem EI.setL {n₀ E : Nat} {L L' : List (Nat × Obj)} {w W : World} {v : Value} {xs : List Int} (h : EI n₀ E L w W v xs) (b : Nat) (t : TypeId) (v0 v1 : Value) (hb : n₀ ≤ b) (hE : b ≠ E) (ht : t ≠ 5) (h0 : Boxed W b t v0)
    (hL : ∀ p ∈ L', p = (b, .cells #[v1] t) ∨ (p ∈ L ∧ p.1 ≠ b)) : EI n₀ E L' w (W.setCell ⟨b, 0, none⟩ v1) v xs ∧ KeepsOthers W (W.setCell ⟨b, 0, none⟩ v1) := by
  have hne : some b ≠ v.ownBlock := by
    intro e
    rcases h.row.2 with ⟨rfl, _⟩ | ⟨g, cap, cur, rfl, _, hgb, _⟩
    · simp [Value.ownBlock] at e
    · obtain rfl : b = g := by simpa [Value.ownBlock] using e
      have := h0
      unfold Boxed at this
      rw [hgb] at this
      cases this
      exact ht rfl
  refine ⟨⟨h.box.kept (grownBy_setCell' W b v1) (by simpa using hE.symm), h.row.kept (grownBy_setCell' W b v1) (.inr hne.symm), fun p hp => ?_, h.bel.setCell hb v1, h.hn, fun p hp => ?_, h.w0⟩, KeepsOthers.setCell _ _ _⟩
  · rcases hL p hp with rfl | ⟨h1, h2⟩
    · exact h0.set v1
    · exact (Below.heap_setCell W ⟨b, 0, none⟩ v1 p.1 h2).trans (h.fix p h1)
  · rcases hL p hp with rfl | ⟨h1, h2⟩
    · exact ⟨⟨_, _, rfl, ht⟩, hE⟩
    · exact h.cl p h1
end Go.Proofs.Ytbdjaohfnbnacaa
