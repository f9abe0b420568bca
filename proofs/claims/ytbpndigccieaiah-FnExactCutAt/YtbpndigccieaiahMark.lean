/- Contracts of impl.isMark, impl.scan and the closure that it hands back, as a loop takes it; no condition but a text of at most 20000 bytes. -/
import Derived.Test.YtbpndigccieaiahIter
import Derived.Test.YtbpndigccieaiahBase
namespace Go.Proofs.Ytbpndigccieaiah
open Go.ChangeShapes Go.WideShapes Go.ChangeAt Go.RowKit Go.Shelf
attribute [local go_sem] Oper.semAt_some
/-- Is the number one of the four? -/
def ownB (a b c d x : Int) : Bool := (x == a) || ((x == b) || ((x == c) || (x == d)))
set_option maxHeartbeats 400000 in
theorem isMark_any (a b c d x : Int) (w : World) (h0 : 0 ≤ x) (h1 : x ≤ 255) : Calls Try.prog 32 #[.agg #[.int .i64 a, .int .i64 b, .int .i64 c, .int .i64 d], .int .u8 x] w fun e w' => e = .returned (.bool (ownB a b c d x)) ∧ Below w.heap.size w w' := by
  go_enter Try.func32, Try.ntmps32
  go_wp2
  all_goals
    go_ret
    refine ⟨ret_bool ?_, (Below.refl _ _).alloc (Nat.le_refl _) _⟩
    go_light
    simp_all [ownB]
set_option maxHeartbeats 1000000 in
theorem scan_in (F : Fence) (n : Nat) (hF : F.fn 31) (hro : F.round = none) (a b c d : Int) (s : ByteArray) (w : World) :
    CallsIn F n Try.prog 31 #[.agg #[.int .i64 a, .int .i64 b, .int .i64 c, .int .i64 d], .string s] w fun e w' => e = .returned (.func (.func 40) #[] #[.pointer (some ⟨w.heap.size + 1, 0, none⟩), .pointer (some ⟨w.heap.size, 0, none⟩)]) ∧ w' = (w.alloc (.cells #[.int .i64 a, .int .i64 b, .int .i64 c, .int .i64 d] 25)).alloc (.cells #[.string s] 9) := by
  refine callsIn_of_wp Try.func31 rfl hF ?_ hro
  simp only [Try.ntmps31, List.size_toArray, List.length_cons, List.length_nil, Nat.reduceAdd, Nat.reduceSub, Array.replicate_succ, Array.replicate_zero, List.push_toArray, List.append_toArray, List.nil_append, List.cons_append]
  gi_wp2
  go_ret
  exact ⟨rfl, rfl⟩
theorem scan_stops (F : Fence) (n : Nat) (hF : F.fn 40) (hro : F.round = none) (hn : 1 ≤ n) (bt bs : Nat) (s : ByteArray) (rel : Int) (hs : s.size ≤ 20000) (w : World) (hbt : bt < w.heap.size) (hbs : bs < w.heap.size)
    (ht : w.cell? ⟨bt, 0, none⟩ = some (.string s)) (hr : w.cell? ⟨bs, 3, none⟩ = some (.int .i64 rel)) :
    SeqStopsK F n Try.prog 40 #[.pointer (some ⟨bt, 0, none⟩), .pointer (some ⟨bs, 0, none⟩)] encP (Two bt bs) (fun ys => ys = upto s rel s.size) (fun pre => ∃ k, k ≤ s.size ∧ pre = upto s rel k) s.size w := fun l J Jx W hW _ _ hY h0 =>
  scan1_in F n hF hro hn l bt bs s rel hs J Jx hY W ((hW.cell (p := ⟨bt, 0, none⟩) hbt).trans ht) ((hW.cell (p := ⟨bs, 3, none⟩) hbs).trans hr) h0
/-- A loop that collects bytes in a box: the box E holds a slice that owns the bytes xs; the blocks of L lie as they lay; nothing below n₀ has turned. -/
structure EI (n₀ E : Nat) (L : List (Nat × Obj)) (w W : World) (v : Value) (xs : List Int) : Prop where
  box : Boxed W E 49 v
  row : W.ownsRow n₀ 5 1 v xs.length (xs.map (Value.int .u8))
  fix : ∀ p ∈ L, W.heap[p.1]? = some p.2
  bel : Below n₀ w W
  hn : n₀ ≤ E
  cl : ∀ p ∈ L, (∃ c t, p.2 = .cells c t ∧ t ≠ 5) ∧ p.1 ≠ E
  w0 : n₀ ≤ w.heap.size
theorem EI.lt {n₀ E : Nat} {L : List (Nat × Obj)} {w W : World} {v : Value} {xs : List Int} (h : EI n₀ E L w W v xs) {p : Nat × Obj} (hp : p ∈ L) : p.1 < W.heap.size := (Array.getElem?_eq_some_iff.1 (h.fix p hp)).1
theorem EI.sz {n₀ E : Nat} {L : List (Nat × Obj)} {w W : World} {v : Value} {xs : List Int} (h : EI n₀ E L w W v xs) : n₀ ≤ W.heap.size := Nat.le_trans h.w0 h.bel.size
theorem EI.not_row {n₀ E : Nat} {L : List (Nat × Obj)} {w W : World} {v : Value} {xs : List Int} (h : EI n₀ E L w W v xs) {p : Nat × Obj} (hp : p ∈ L) : some p.1 ≠ v.ownBlock := by
  intro e
  rcases h.row.2 with ⟨rfl, _⟩ | ⟨g, cap, cur, rfl, _, hgb, _⟩
  · simp [Value.ownBlock] at e
  · obtain rfl : p.1 = g := by simpa [Value.ownBlock] using e
    obtain ⟨⟨c, t, e1, e2⟩, _⟩ := h.cl p hp
    have := h.fix p hp
    rw [hgb, e1] at this
    cases this
    exact e2 rfl
/-- What keeps all that lay there keeps it. -/
theorem EI.below {n₀ E : Nat} {L : List (Nat × Obj)} {w W W' : World} {v : Value} {xs : List Int} (h : EI n₀ E L w W v xs) (hb : Below W.heap.size W W') : EI n₀ E L w W' v xs := by
  have hg : W.grownBy W' none := ⟨hb.os, hb.tape, hb.output, hb.size, fun k hk _ => hb.block k hk⟩
  have hrk : W'.ownsRow n₀ 5 1 v xs.length (xs.map (Value.int .u8)) := by
    refine h.row.kept hg ?_
    rcases h.row.2 with ⟨rfl, _⟩ | ⟨g, cap, cur, rfl, _, hgb, _⟩
    · exact .inl rfl
    · exact .inr (by simp [Value.ownBlock])
  exact ⟨h.box.kept hg (by simp), hrk, fun p hp => (hb.block p.1 (h.lt hp)).trans (h.fix p hp), h.bel.trans (hb.mono h.sz), h.hn, h.cl, h.w0⟩
theorem EI.app {n₀ E : Nat} {L : List (Nat × Obj)} {w W w1 : World} {v v' : Value} {xs : List Int} {x : Int} {tmp : Obj} (h : EI n₀ E L w W v xs)
    (hown' : w1.ownsRow n₀ 5 1 v' (xs.length + 1) (xs.map (Value.int .u8) ++ [.int .u8 x])) (hgrow : (W.alloc tmp).grownBy w1 v.ownBlock) :
    Boxed w1 E 49 v ∧ EI n₀ E L w (w1.setCell ⟨E, 0, none⟩ v') v' (xs ++ [x]) ∧ KeepsOthers W (w1.setCell ⟨E, 0, none⟩ v') ∧ ∀ p ∈ L, w1.heap[p.1]? = some p.2 := by
  obtain ⟨hv1, hv2, hr2, hk2, hb2⟩ := h.box.appended (by decide) h.row h.sz h.hn hown' hgrow
  have hfx : ∀ p ∈ L, w1.heap[p.1]? = some p.2 := fun p hp => by
    rw [hgrow.block p.1 (by have := h.lt hp; simp; omega) (h.not_row hp), Below.heap_alloc W tmp p.1 (h.lt hp)]
    exact h.fix p hp
  refine ⟨hv1, ⟨hv2, by simpa using hr2, fun p hp => ?_, h.bel.trans hb2, h.hn, h.cl, h.w0⟩, hk2, hfx⟩
  have h2 : (w1.setCell ⟨E, 0, none⟩ v').heap[p.1]? = w1.heap[p.1]? := Below.heap_setCell w1 ⟨E, 0, none⟩ v' p.1 (h.cl p hp).2
  rw [h2]
  exact hfx p hp
/-- It speaks of cells alone, and of nothing beyond. -/
theorem EI.own {β : Type} {n₀ E B : Nat} {w : World} (L : β → List (Nat × Obj)) (f : β → List Int) (hB : n₀ ≤ B) : OwnFrom B (fun (s : β) W => ∃ v, EI n₀ E (L s) w W v (f s)) := by
  rintro s W W' row ⟨v, h⟩ hg hr
  have hnc : ∀ {b : Nat} {c : Array Value} {t : TypeId}, W.heap[b]? = some (.cells c t) → some b ≠ row := by
    intro b c t hb e
    obtain ⟨_, o, ho, hc⟩ := hr b e.symm
    rw [hb] at ho
    cases ho
    simp [Obj.isCells] at hc
  refine ⟨v, h.box.kept hg (hnc h.box), h.row.kept hg ?_, fun p hp => ?_, h.bel.grown hg h.sz (fun k e => Nat.le_trans hB (hr k e).1), h.hn, h.cl, h.w0⟩
  · rcases h.row.2 with ⟨rfl, _⟩ | ⟨g, cap, cur, rfl, _, hgb, _⟩
    · exact .inl rfl
    · exact .inr (fun e => hnc hgb (by simpa [Value.ownBlock] using e))
  · obtain ⟨⟨c, t, e1, _⟩, _⟩ := h.cl p hp
    have hf := h.fix p hp
    exact (hg.block p.1 (h.lt hp) (hnc (by rw [hf, e1]))).trans hf
end Go.Proofs.Ytbpndigccieaiah
