/- The boxes of a drawn book, and the model's l10Item. -/
import Derived.Test.YtiaclnldeimbhaaLnL
import Derived.Test.YtiaclnldeimbhaaMvS0
import Derived.Test.YtiaclnldeimbhaaPick
namespace Go.Proofs.Ytiaclnldeimbhaa
open Go.ChangeShapes Go.WideShapes Go.ChangeAt Go.RowKit
theorem rowOl_of {W W' : World} {v : Value} {rs : List OLn} (h : RowOl W v rs) (hb : rs ≠ [] → ∀ ad L C, v = .slice (some ad) L C → ad.block < W.heap.size → W'.heap[ad.block]? = W.heap[ad.block]?) : RowOl W' v rs := by
  obtain ⟨A', C', e, hc⟩ := h.shape
  refine ⟨⟨A', C', e, fun hn => ?_⟩, h.len, h.sizes⟩
  obtain ⟨b, o, e2, hcell⟩ := hc hn
  refine ⟨b, o, e2, fun i g hi => ?_⟩
  obtain ⟨q0, q1, q2, q3, q4, q5, q6, q7⟩ := hcell i g hi
  have hB := hb hn ⟨b, o, none⟩ _ _ (by rw [e, e2]) (cell_lt q0)
  have tr : ∀ {k : Nat} {x : Value}, W.cell? ⟨b, k, none⟩ = some x → W'.cell? ⟨b, k, none⟩ = some x := fun {k x} q => (World.cell?_of_block (w := W) (a := ⟨b, k, none⟩) hB).trans q
  exact ⟨tr q0, tr q1, tr q2, tr q3, tr q4, tr q5, tr q6, tr q7⟩
theorem rowSt_of {W W' : World} {v : Value} {rs : List Stk} (h : RowSt W v rs) (hb : rs ≠ [] → ∀ ad L C, v = .slice (some ad) L C → ad.block < W.heap.size → W'.heap[ad.block]? = W.heap[ad.block]?) : RowSt W' v rs := by
  obtain ⟨A', C', e, hc⟩ := h.shape
  refine ⟨⟨A', C', e, fun hn => ?_⟩, h.len, h.sizes⟩
  obtain ⟨b, o, e2, hcell⟩ := hc hn
  refine ⟨b, o, e2, fun i g hi => ?_⟩
  obtain ⟨q0, q1⟩ := hcell i g hi
  have hB := hb hn ⟨b, o, none⟩ _ _ (by rw [e, e2]) (cell_lt q0)
  have tr : ∀ {k : Nat} {x : Value}, W.cell? ⟨b, k, none⟩ = some x → W'.cell? ⟨b, k, none⟩ = some x := fun {k x} q => (World.cell?_of_block (w := W) (a := ⟨b, k, none⟩) hB).trans q
  exact ⟨tr q0, tr q1⟩
/-- A drawn book beside its source: its lists lie in blocks of the call's own. -/
structure DBk (B : Nat) (w W : World) (us ul : Value) (p : Bk) : Prop where
  src : IsSrc B W
  kp : Keep B w W
  hB : B < w.heap.size
  row : RBk W us ul p
  fs : p.stocks ≠ [] → ∀ ad L C, us = .slice (some ad) L C → w.heap.size ≤ ad.block
  fl : p.lines ≠ [] → ∀ ad L C, ul = .slice (some ad) L C → w.heap.size ≤ ad.block
  bd : BdBk 1000 p
theorem DBk.keep {B : Nat} {w W W' : World} {us ul : Value} {p : Bk} (h : DBk B w W us ul p) (hk : Keep B W W') (hs : IsSrc B W') : DBk B w W' us ul p := by
  have hB := h.hB
  exact ⟨hs, h.kp.trans hk, hB, ⟨rowSt_of h.row.st fun hn ad L C e hl => hk.block _ hl (by have := h.fs hn ad L C e; omega), rowOl_of h.row.ln fun hn ad L C e hl => hk.block _ hl (by have := h.fl hn ad L C e; omega)⟩, h.fs, h.fl, h.bd⟩
theorem DBk.below {B : Nat} {w W W' : World} {us ul : Value} {p : Bk} (h : DBk B w W us ul p) (hb : Below W.heap.size W W') : DBk B w W' us ul p := h.keep (Keep.of_below hb) (h.src.below (hb.mono h.src.lt))
/-- The source, the answer's box and the drawn book's. -/
structure DBw (B P : Nat) (w W : World) (us ul : Value) (p : Bk) : Prop where
  src : IsSrc B W
  kp : Keep B w W
  hB : B < w.heap.size
  rb : W.heap[w.heap.size]? = some (.cells #[.slice none 0 0, .slice none 0 0] 26)
  hP : w.heap.size < P
  box : W.heap[P]? = some (.cells #[us, ul] 26)
  own : W.ownsRow (w.heap.size + 1) 49 2 us p.stocks.length (clSts p.stocks)
  ln : RowOl W ul p.lines
  far : p.lines ≠ [] → ∀ ad L C, ul = .slice (some ad) L C → w.heap.size < ad.block ∧ ad.block ≠ P
  bs : ∀ g ∈ p.stocks, g.item.size ≤ 30
  bl : ∀ g ∈ p.lines, SmL g
  nl : p.lines.length ≤ 250
/-- And the stocks' block is not the lines'. -/
structure DB (B P : Nat) (w W : World) (us ul : Value) (p : Bk) : Prop extends DBw B P w W us ul p where
  ap : p.lines ≠ [] → ∀ ad L C, ul = .slice (some ad) L C → us.ownBlock ≠ some ad.block
theorem own_mono {n n' : Nat} {W : World} {e : TypeId} {size : Nat} {v : Value} {len : Nat} {xs : List Value} (h : W.ownsRow n e size v len xs) (hb : n' ≤ n) : W.ownsRow n' e size v len xs := ⟨h.1, h.2.imp id fun ⟨g, cap, cur, e, hg, r⟩ => ⟨g, cap, cur, e, by omega, r⟩⟩
theorem own_keep2 {B n : Nat} {W W' : World} {e : TypeId} {size : Nat} {v : Value} {len : Nat} {xs : List Value} (h : W.ownsRow n e size v len xs) (hk : Keep B W W') (hB : B < n) : W'.ownsRow n e size v len xs := by
  refine h.kept (row := some B) ⟨hk.os, hk.tape, hk.output, hk.size, fun k hk' hne => hk.block k hk' (fun e => hne (by rw [e]))⟩ ?_
  rcases h.2 with ⟨e, _⟩ | ⟨g, cap, cur, e, hg, _⟩
  · exact .inl (by rw [e]; rfl)
  · refine .inr ?_
    rw [e]
    show some g ≠ some B
    intro e2
    have := Option.some.inj e2
    omega
theorem DB.keep {B P : Nat} {w W W' : World} {us ul : Value} {p : Bk} (h : DB B P w W us ul p) (hk : Keep B W W') (hs : IsSrc B W') : DB B P w W' us ul p := by
  have hB := h.hB
  have hP := h.hP
  exact ⟨⟨hs, h.kp.trans hk, hB, (hk.block _ (Array.getElem?_eq_some_iff.1 h.rb).1 (by omega)).trans h.rb, hP, (hk.block _ (Array.getElem?_eq_some_iff.1 h.box).1 (by omega)).trans h.box, own_keep2 h.own hk (by omega), rowOl_of h.ln fun hn ad L C e hl => hk.block _ hl (by have := h.far hn ad L C e; omega), h.far, h.bs, h.bl, h.nl⟩, h.ap⟩
theorem DB.below {B P : Nat} {w W W' : World} {us ul : Value} {p : Bk} (h : DB B P w W us ul p) (hb : Below W.heap.size W W') : DB B P w W' us ul p := h.keep (Keep.of_below hb) (h.src.below (hb.mono h.src.lt))
theorem DBw.row {B P : Nat} {w W : World} {us ul : Value} {p : Bk} (h : DBw B P w W us ul p) (hn : p.stocks.length ≤ 1000) : RBk W us ul p := by
  obtain ⟨b, _, hL⟩ := LSt.of_owns h.own (by omega) (fun i g hi => by have := h.bs g (List.mem_of_getElem? hi); omega)
  exact ⟨hL.row, h.ln⟩
theorem DBw.bd {B P : Nat} {w W : World} {us ul : Value} {p : Bk} (h : DBw B P w W us ul p) (hn : p.stocks.length ≤ 1000) : BdBk 1000 p :=
  ⟨⟨hn, fun i g hi => by have := h.bs g (List.mem_of_getElem? hi); omega⟩, ⟨by have := h.nl; omega, fun i g hi => by have := h.bl g (List.mem_of_getElem? hi); obtain ⟨h1, h2, h3⟩ := this; omega⟩⟩
/-- A stock put behind the others. -/
theorem DB.app {B P n : Nat} {w W w' : World} {us ul v' : Value} {p : Bk} {ts : List Stk} (h : DB B P w W us ul p) (hg : W.grownBy w' us.ownBlock) (ho : w'.ownsRow (w.heap.size + 1) 49 2 v' n (clSts ts)) (hn : ts.length = n) (hs : ∀ g ∈ ts, g.item.size ≤ 30) : w'.heap[P]? = some (.cells #[us, ul] 26) ∧ DBw B P w (w'.setCell ⟨P, 0, none⟩ v') v' ul ⟨ts, p.lines⟩ := by
  subst hn
  have hB := h.hB
  have hP := h.hP
  have hxl := (Array.getElem?_eq_some_iff.1 h.box).1
  have hrl := (Array.getElem?_eq_some_iff.1 h.rb).1
  have hkz := h.kp.size
  have hne : ∀ j, j < w.heap.size + 1 → some j ≠ us.ownBlock := fun j hj e => by
    have := (h.own.lt j e.symm).1
    omega
  have hPne : some P ≠ us.ownBlock := fun e => by
    rcases own_ne h.own h.box (by decide) with h1 | h1
    · rw [h1] at e; cases e
    · exact h1 e.symm
  have hb : Below (w.heap.size + 1) W w' := ⟨hg.os, hg.tape, hg.output, hg.size, fun j hj => hg.block j (by omega) (hne j hj)⟩
  have bx : w'.heap[P]? = some (.cells #[us, ul] 26) := (hg.block P hxl hPne).trans h.box
  refine ⟨bx, h.src.below ((hb.mono (show B + 1 ≤ w.heap.size + 1 by omega)).setCell (show B + 1 ≤ P by omega) _), ⟨hb.os.trans h.kp.os, hb.tape.trans h.kp.tape, hb.output.trans h.kp.output, by simpa using Nat.le_trans hkz hb.size, fun k hk hkB => ?_⟩, hB, ?_, hP, set2a _ bx, own_set ho bx (by decide), ?_, ?_, hs, h.bl, h.nl⟩
  · rw [setNe _ (by omega)]
    exact (hb.block k (by omega)).trans (h.kp.block k hk hkB)
  · rw [setNe _ (by omega)]
    exact (hb.block _ (by omega)).trans h.rb
  · refine rowOl_of h.ln fun hn ad L C e hl => ?_
    obtain ⟨f1, f2⟩ := h.far hn ad L C e
    rw [setNe _ (by omega)]
    exact hg.block _ hl (fun e2 => h.ap hn ad L C e e2.symm)
  · exact h.far
theorem DB.appA {B P n : Nat} {w W w' : World} {us ul v' : Value} {p : Bk} {ts : List Stk} (h : DB B P w W us ul p) (hg : W.grownBy w' us.ownBlock) (ho : w'.ownsRow (w.heap.size + 1) 49 2 v' n (clSts ts)) (hn : ts.length = n) (hfar : v'.ownBlock = us.ownBlock ∨ ∀ j, v'.ownBlock = some j → W.heap.size ≤ j) (hs : ∀ g ∈ ts, g.item.size ≤ 30) : w'.heap[P]? = some (.cells #[us, ul] 26) ∧ DB B P w (w'.setCell ⟨P, 0, none⟩ v') v' ul ⟨ts, p.lines⟩ := by
  obtain ⟨bx, hw⟩ := h.app hg ho hn hs
  refine ⟨bx, hw, ?_⟩
  intro hn ad L C e
  rcases hfar with e1 | e1
  · rw [e1]; exact h.ap hn ad L C e
  · intro e2
    have h1 := e1 _ e2
    obtain ⟨A', C', e3, hc⟩ := h.ln.shape
    obtain ⟨b, o, e4, hcell⟩ := hc hn
    rw [e3, e4] at e
    simp only [Value.slice.injEq, Option.some.injEq] at e
    cases h0 : p.lines with
    | nil => exact hn h0
    | cons x r =>
      have := cell_lt (hcell 0 x (by rw [h0]; rfl)).1
      have h5 := e.1
      rw [← h5] at h1
      simp at h1
      omega
/-- A whole book put in the box's place. -/
theorem DB.put {B P : Nat} {w W w' : World} {us ul us' ul' : Value} {p q : Bk} (h : DB B P w W us ul p) (hb : Below W.heap.size W w') (h1 : w'.ownsRow (W.heap.size + 2) 49 2 us' q.stocks.length (clSts q.stocks)) (h2 : w'.ownsRow (W.heap.size + 2) 32 8 ul' q.lines.length (clOls q.lines)) (hs : ∀ g ∈ q.stocks, g.item.size ≤ 30) (hl : ∀ g ∈ q.lines, SmL g) (hn : q.lines.length ≤ 250) : w'.heap[P]? = some (.cells #[us, ul] 26) ∧ DB B P w ((w'.setCell ⟨P, 0, none⟩ us').setCell ⟨P, 1, none⟩ ul') us' ul' q := by
  have hB := h.hB
  have hP := h.hP
  have hxl := (Array.getElem?_eq_some_iff.1 h.box).1
  have hkz := h.kp.size
  have bx : w'.heap[P]? = some (.cells #[us, ul] 26) := (hb.block P hxl).trans h.box
  have bx2 : ((w'.setCell ⟨P, 0, none⟩ us').setCell ⟨P, 1, none⟩ ul').heap[P]? = some (.cells #[us', ul'] 26) := by
    have := set2a us' bx
    simp [World.setCell, Array.getElem?_modify, bx]
  have h' := h.below hb
  obtain ⟨b, hbb, hL⟩ := LOl.of_owns h2 (by omega) (fun i g hi => (hl g (List.mem_of_getElem? hi)).max)
  have hln : RowOl ((w'.setCell ⟨P, 0, none⟩ us').setCell ⟨P, 1, none⟩ ul') ul' q.lines := by
    obtain ⟨b3, hb3, hL3⟩ := LOl.of_owns (cp_set2 (x := us') (y := ul') h2 (c := P) (by omega)) (by omega) (fun i g hi => (hl g (List.mem_of_getElem? hi)).max)
    exact hL3.row
  refine ⟨bx, ⟨(h'.src.below (((Below.refl (B + 1) w').setCell (show B + 1 ≤ P by omega) _).setCell (show B + 1 ≤ P by omega) _)), ⟨h'.kp.os, h'.kp.tape, h'.kp.output, by simpa using h'.kp.size, fun k hk hkB => ?_⟩, hB, ?_, hP, bx2, own_mono (cp_set2 (c := P) h1 (by omega)) (by omega), hln, ?_, hs, hl, hn⟩, ?_⟩
  · rw [setNe _ (by omega), setNe _ (by omega)]
    exact h'.kp.block k hk hkB
  · rw [setNe _ (by omega), setNe _ (by omega)]
    exact h'.rb
  · intro hne ad L C e
    rcases h2.2 with ⟨e1, h0⟩ | ⟨g, cap, cur, e1, hg, _⟩
    · exact absurd (List.length_eq_zero_iff.1 h0) hne
    · rw [e1] at e
      simp only [Value.slice.injEq, Option.some.injEq] at e
      obtain ⟨rfl, _⟩ := e
      exact ⟨by show w.heap.size < g; omega, by show g ≠ P; omega⟩
  · intro hne ad L C e
    rcases h2.2 with ⟨e1, h0⟩ | ⟨g, cap, cur, e1, hg, _⟩
    · exact absurd (List.length_eq_zero_iff.1 h0) hne
    · rw [e1] at e
      simp only [Value.slice.injEq, Option.some.injEq] at e
      obtain ⟨rfl, _⟩ := e
      rcases own_ne2 h1 h2 (by decide) with h3 | h3
      · rw [h3]; simp
      · rw [e1] at h3
        exact h3
/-- The answer's box filled. -/
theorem DBw.fin {B P : Nat} {w W : World} {us ul : Value} {p : Bk} (h : DBw B P w W us ul p) (hn : p.stocks.length ≤ 1000) : DBk B w ((W.setCell ⟨w.heap.size, 0, none⟩ us).setCell ⟨w.heap.size, 1, none⟩ ul) us ul p ∧ ((W.setCell ⟨w.heap.size, 0, none⟩ us).setCell ⟨w.heap.size, 1, none⟩ ul).heap[w.heap.size]? = some (.cells #[us, ul] 26) := by
  have hB := h.hB
  have hrb := h.rb
  have hr := h.row hn
  have ow := cp_set2 (x := us) (y := ul) h.own (c := w.heap.size) (by omega)
  obtain ⟨b, hbb, hL⟩ := LSt.of_owns ow (by omega) (fun i g hi => by have := h.bs g (List.mem_of_getElem? hi); omega)
  refine ⟨⟨h.src.below (((Below.refl (B + 1) W).setCell (show B + 1 ≤ w.heap.size by omega) _).setCell (show B + 1 ≤ w.heap.size by omega) _), ⟨h.kp.os, h.kp.tape, h.kp.output, by simpa using h.kp.size, fun k hk hkB => ?_⟩, hB, ⟨hL.row, rowOl_of h.ln fun hne ad L C e hl => ?_⟩, ?_, ?_, h.bd hn⟩, ?_⟩
  · rw [setNe _ (by omega), setNe _ (by omega)]
    exact h.kp.block k hk hkB
  · have := h.far hne ad L C e
    rw [setNe _ (by omega), setNe _ (by omega)]
  · intro hne ad L C e
    rcases h.own.2 with ⟨e1, h0⟩ | ⟨g, cap, cur, e1, hg, _⟩
    · exact absurd (List.length_eq_zero_iff.1 h0) hne
    · rw [e1] at e
      simp only [Value.slice.injEq, Option.some.injEq] at e
      obtain ⟨rfl, _⟩ := e
      show w.heap.size ≤ g
      omega
  · intro hne ad L C e
    have := h.far hne ad L C e
    omega
  · simp [World.setCell, Array.getElem?_modify, hrb]
theorem far_new {W : World} {o : Obj} {g j : Nat} (e : g = j) (h : g = W.heap.size + 1) : (W.alloc o).heap.size ≤ j := by
  subst e
  simp
  omega
theorem mov_facts {p : Bk} {t : ByteArray} {z : Int} (hs : ∀ g ∈ p.stocks, g.item.size ≤ 30) (ht : t.size ≤ 30) : (movT p t z).lines = p.lines ∧ (movT p t z).stocks.length ≤ p.stocks.length + 1 ∧ ∀ g ∈ (movT p t z).stocks, g.item.size ≤ 30 := by
  by_cases g : MvOk p t z
  · rw [movT_yes g]
    refine ⟨rfl, ?_, fun x hx => ?_⟩
    · show (mvL p t z).length ≤ _
      unfold mvL
      rw [insS_len]
      have := List.length_filter_le (fun x => !nmS t x) p.stocks
      omega
    · rcases insS_mem x hx with rfl | hx
      · exact ht
      · exact hs x (List.mem_filter.1 hx).1
  · rw [movT_no g]
    exact ⟨rfl, by omega, hs⟩
def itT : List ByteArray := [⟨#[66, 79, 76, 84]⟩, ⟨#[78, 85, 84]⟩, ⟨#[71, 69, 65, 82]⟩, ⟨#[67, 65, 77]⟩, ⟨#[66, 45, 49, 48]⟩, ⟨#[90, 57]⟩]
theorem itT_size : ∀ s ∈ itT, s.size ≤ 4 := by
  simp only [itT, List.mem_cons, List.not_mem_nil, or_false]
  intro s hs
  rcases hs with rfl | rfl | rfl | rfl | rfl | rfl <;> decide
theorem l10Item_any (B : Nat) (w : World) (hS : IsSrc B w) : Calls Try.prog 30 #[.pointer (some ⟨B, 0, none⟩)] w fun e w' => ∃ s, e = .returned (.string s) ∧ s.size ≤ 4 ∧ IsSrc B w' ∧ Keep B w w' := by
  have hB := hS.lt
  have ha : Below w.heap.size w (w.alloc (.cells #[.string ⟨#[66, 79, 76, 84]⟩, .string ⟨#[78, 85, 84]⟩, .string ⟨#[71, 69, 65, 82]⟩, .string ⟨#[67, 65, 77]⟩, .string ⟨#[66, 45, 49, 48]⟩, .string ⟨#[90, 57]⟩] 9)) := (Below.refl _ _).alloc (Nat.le_refl _) _
  have HS : Hid (IsSrc B (w.alloc (.cells #[.string ⟨#[66, 79, 76, 84]⟩, .string ⟨#[78, 85, 84]⟩, .string ⟨#[71, 69, 65, 82]⟩, .string ⟨#[67, 65, 77]⟩, .string ⟨#[66, 45, 49, 48]⟩, .string ⟨#[90, 57]⟩] 9)) ∧ Keep B w (w.alloc (.cells #[.string ⟨#[66, 79, 76, 84]⟩, .string ⟨#[78, 85, 84]⟩, .string ⟨#[71, 69, 65, 82]⟩, .string ⟨#[67, 65, 77]⟩, .string ⟨#[66, 45, 49, 48]⟩, .string ⟨#[90, 57]⟩] 9)) ∧ ∀ (i : Nat) (t : ByteArray), itT[i]? = some t → (w.alloc (.cells #[.string ⟨#[66, 79, 76, 84]⟩, .string ⟨#[78, 85, 84]⟩, .string ⟨#[71, 69, 65, 82]⟩, .string ⟨#[67, 65, 77]⟩, .string ⟨#[66, 45, 49, 48]⟩, .string ⟨#[90, 57]⟩] 9)).cell? ⟨w.heap.size, i, none⟩ = some (.string t)) := ⟨hS.below (ha.mono hB), Keep.of_below ha, cells_of_texts (T := itT) (World.alloc_heap_new w _)⟩
  clear hS ha
  go_enter Try.func30, Try.ntmps30
  go_wp2_with fail
  refine (pick_any B w.heap.size 6 6 itT _ (by omega) (by omega) rfl (by omega) HS.out.2.2 HS.out.1).mono ?_
  rintro e w2 ⟨s, rfl, hs, s2, k2⟩
  have HF : Hid (s.size ≤ 4 ∧ IsSrc B w2 ∧ Keep B w w2) := ⟨itT_size s hs, s2, HS.out.2.1.trans k2⟩
  clear hs s2 k2 HS
  go_wp2
  go_ret
  exact ⟨s, rfl, HF.out.1, HF.out.2.1, HF.out.2.2⟩
end Go.Proofs.Ytiaclnldeimbhaa
