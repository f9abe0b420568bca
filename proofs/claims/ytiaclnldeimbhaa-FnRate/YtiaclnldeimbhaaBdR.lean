/- Contract of DrawRateOf. -/
import Derived.Test.YtiaclnldeimbhaaBdB
import Derived.Test.YtiaclnldeimbhaaPick
import Derived.Laws.BytesArg
namespace Go.Proofs.Ytiaclnldeimbhaa
open Go.ChangeShapes Go.WideShapes Go.ChangeAt Go.RowKit
theorem bytesAt_belowN {w w' : World} {a : Option Addr} {len : Nat} {zs : List Int} (h : BytesAt w a len zs) (hb : Below w.heap.size w w') : BytesAt w' a len zs := by
  intro g
  obtain ⟨b, off, e, hc⟩ := h g
  exact ⟨b, off, e, fun i hi => (hb.cell (p := ⟨b, off + i, none⟩) (cell_lt (hc i hi))).trans (hc i hi)⟩
/-- What DrawRateOf tells. -/
def DrOut (w : World) (e : Ending) (w' : World) : Prop := ∃ us ul p t, e = .returned (.tuple #[.agg #[us, ul], .string t]) ∧ RBk w' us ul p ∧ BdBk 1000 p ∧ t.size ≤ 4 ∧ Below w.heap.size w w'
theorem DrOut.mk {w w' : World} {e : Ending} {us ul : Value} {p : Bk} {t : ByteArray} (h : e = .returned (.tuple #[.agg #[us, ul], .string t])) (h1 : RBk w' us ul p) (h2 : BdBk 1000 p) (h3 : t.size ≤ 4) (h4 : Below w.heap.size w w') : DrOut w e w' := ⟨us, ul, p, t, h, h1, h2, h3, h4⟩
theorem pk_small {t : ByteArray} (h : t ∈ ([⟨#[65, 67, 77, 69]⟩, ⟨#[66, 79, 76, 84]⟩, ⟨#[67, 45, 49]⟩, ⟨#[]⟩] : List ByteArray)) : t.size ≤ 4 := by
  simp only [List.mem_cons, List.not_mem_nil, or_false] at h
  rcases h with rfl | rfl | rfl | rfl <;> decide
theorem pk_cells (w : World) : ∀ (i : Nat) (t : ByteArray), ([⟨#[65, 67, 77, 69]⟩, ⟨#[66, 79, 76, 84]⟩, ⟨#[67, 45, 49]⟩, ⟨#[]⟩] : List ByteArray)[i]? = some t → (w.alloc (.cells #[.string ⟨#[65, 67, 77, 69]⟩, .string ⟨#[66, 79, 76, 84]⟩, .string ⟨#[67, 45, 49]⟩, .string ⟨#[]⟩] 9)).cell? ⟨w.heap.size, i, none⟩ = some (.string t) := by
  intro i t h
  have hi : i < 4 := (List.getElem?_eq_some_iff.1 h).1
  have e := World.alloc_heap_new w (.cells #[.string ⟨#[65, 67, 77, 69]⟩, .string ⟨#[66, 79, 76, 84]⟩, .string ⟨#[67, 45, 49]⟩, .string ⟨#[]⟩] 9)
  unfold World.cell?
  match i, hi with
  | 0, _ => cases h; rw [e]; rfl
  | 1, _ => cases h; rw [e]; rfl
  | 2, _ => cases h; rw [e]; rfl
  | 3, _ => cases h; rw [e]; rfl
/-- The answer's box, the drawn book's box and the book itself. -/
structure DR (B P : Nat) (w w1 W : World) (us ul : Value) (p : Bk) : Prop where
  bk : DBk B w1 W us ul p
  bel : Below w.heap.size w w1
  hB : w.heap.size < B
  rb : W.heap[w.heap.size]? = some (.cells #[.slice none 0 0, .slice none 0 0] 26)
  hP : w1.heap.size ≤ P
  box : W.heap[P]? = some (.cells #[us, ul] 26)
theorem DR.keep {B P : Nat} {w w1 W W' : World} {us ul : Value} {p : Bk} (h : DR B P w w1 W us ul p) (hk : Keep B W W') (hs : IsSrc B W') : DR B P w w1 W' us ul p := by
  have hB := h.hB
  have hP := h.hP
  have h1 := h.bk.hB
  exact ⟨h.bk.keep hk hs, h.bel, hB, (hk.block _ (Array.getElem?_eq_some_iff.1 h.rb).1 (by omega)).trans h.rb, hP, (hk.block _ (Array.getElem?_eq_some_iff.1 h.box).1 (by omega)).trans h.box⟩
theorem DR.below {B P : Nat} {w w1 W W' : World} {us ul : Value} {p : Bk} (h : DR B P w w1 W us ul p) (hb : Below W.heap.size W W') : DR B P w w1 W' us ul p := h.keep (Keep.of_below hb) (h.bk.src.below (hb.mono h.bk.src.lt))
theorem DR.fin {B P : Nat} {w w1 W : World} {us ul : Value} {p : Bk} (h : DR B P w w1 W us ul p) : RBk ((W.setCell ⟨w.heap.size, 0, none⟩ us).setCell ⟨w.heap.size, 1, none⟩ ul) us ul p ∧ Below w.heap.size w ((W.setCell ⟨w.heap.size, 0, none⟩ us).setCell ⟨w.heap.size, 1, none⟩ ul) ∧ ((W.setCell ⟨w.heap.size, 0, none⟩ us).setCell ⟨w.heap.size, 1, none⟩ ul).heap[w.heap.size]? = some (.cells #[us, ul] 26) := by
  have hB := h.hB
  have h1 := h.bk.hB
  have hb1 := h.bel.size
  have hrb := h.rb
  refine ⟨⟨rowSt_of h.bk.row.st fun hn ad L C e hl => ?_, rowOl_of h.bk.row.ln fun hn ad L C e hl => ?_⟩, ?_, ?_⟩
  · have := h.bk.fs hn ad L C e
    rw [setNe _ (by omega), setNe _ (by omega)]
  · have := h.bk.fl hn ad L C e
    rw [setNe _ (by omega), setNe _ (by omega)]
  · have hb : Below w.heap.size w W := h.bel.trans (h.bk.kp.below (by omega) (by omega))
    exact (hb.setCell (show w.heap.size ≤ w.heap.size from Nat.le_refl _) _).setCell (show w.heap.size ≤ w.heap.size from Nat.le_refl _) _
  · simp [World.setCell, Array.getElem?_modify, hrb]
set_option maxRecDepth 100000 in
set_option maxHeartbeats 8000000 in
theorem drawRateOf_any (a : Option Addr) (len cap : Nat) (zs : List Int) (w : World) (hl : len ≤ 1048576) (hr : BytesAt w a len zs) : Calls Try.prog 5 #[.slice a len cap] w (DrOut w) := by
  obtain ⟨W0, hW0⟩ : ∃ W0, w.alloc (.cells #[.slice none 0 0, .slice none 0 0] 26) = W0 := ⟨_, rfl⟩
  have hb0 : Below w.heap.size w W0 := by rw [← hW0]; exact (Below.refl _ _).alloc (Nat.le_refl _) _
  have hr0 : W0.heap[w.heap.size]? = some (.cells #[.slice none 0 0, .slice none 0 0] 26) := by rw [← hW0]; exact World.alloc_heap_new _ _
  have hs0 : w.heap.size < W0.heap.size := (Array.getElem?_eq_some_iff.1 hr0).1
  have HR : Hid (BytesAt W0 a len zs ∧ Below w.heap.size w W0 ∧ W0.heap[w.heap.size]? = some (.cells #[.slice none 0 0, .slice none 0 0] 26)) := ⟨bytesAt_belowN hr hb0, hb0, hr0⟩
  clear hr hb0 hr0
  go_enter Try.func5, Try.ntmps5
  go_upto_region 1 with fail
  try rw [hW0]
  clear hW0
  go_wp2_with fail
  refine (source_any a len cap zs _ hl HR.out.1).mono ?_
  rintro e w1 ⟨rfl, hs1, hb1⟩
  obtain ⟨B, hB⟩ : ∃ B, B = W0.heap.size := ⟨_, rfl⟩
  rw [← hB] at hs1
  have H1 : Hid (IsSrc B w1 ∧ Below w.heap.size w w1 ∧ w1.heap[w.heap.size]? = some (.cells #[.slice none 0 0, .slice none 0 0] 26)) := ⟨hs1, HR.out.2.1.trans (hb1.mono HR.out.2.1.size), (hb1.block _ hs0).trans HR.out.2.2⟩
  have hwB : w.heap.size < B := by omega
  have HB : Hid (B = W0.heap.size) := hB
  clear hs1 hb1 HR hB hs0
  go_upto_region 2 with fail
  rw [← HB.out]
  clear HB
  go_wp2_with fail
  refine (l10Book_any B _ H1.out.1).mono ?_
  rintro e w2 ⟨us, ul, p, rfl, hq⟩
  obtain ⟨A, C, A', C', rfl, rfl⟩ := hq.row.val
  obtain ⟨W2, hW2⟩ : ∃ W2, w2.alloc (.cells #[.slice A p.stocks.length C, .slice A' p.lines.length C'] 26) = W2 := ⟨_, rfl⟩
  obtain ⟨P, hP⟩ : ∃ P, P = w2.heap.size := ⟨_, rfl⟩
  have H2 : Hid (DR B P w w1 W2 (.slice A p.stocks.length C) (.slice A' p.lines.length C') p) := by
    have ha : Below w2.heap.size w2 W2 := by rw [← hW2]; exact (Below.refl _ _).alloc (Nat.le_refl _) _
    have hz := hq.kp.size
    have hw1 := (Array.getElem?_eq_some_iff.1 H1.out.2.2).1
    refine ⟨hq.below ha, H1.out.2.1, hwB, ?_, by omega, by rw [hP, ← hW2]; exact World.alloc_heap_new _ _⟩
    exact (ha.block _ (by omega)).trans ((hq.kp.block _ hw1 (by omega)).trans H1.out.2.2)
  have HWE : Hid (w2.alloc (.cells #[.slice A p.stocks.length C, .slice A' p.lines.length C'] 26) = W2 ∧ P = w2.heap.size) := ⟨hW2, hP⟩
  clear hW2 hP hq H1
  go_upto_region 3 with fail
  try rw [HWE.out.1]
  try rw [← HWE.out.2]
  clear HWE
  have H2d : Hid (DR B P w w1 W2.drew (.slice A p.stocks.length C) (.slice A' p.lines.length C') p) := H2.out.below (Below.refl _ _).drew
  have HA : Hid (DR B P w w1 (W2.drew.alloc (.cells #[.string ⟨#[65, 67, 77, 69]⟩, .string ⟨#[66, 79, 76, 84]⟩, .string ⟨#[67, 45, 49]⟩, .string ⟨#[]⟩] 9)) (.slice A p.stocks.length C) (.slice A' p.lines.length C') p) := H2d.out.below ((Below.refl _ _).alloc (Nat.le_refl _) _)
  have HC : Hid (∀ (i : Nat) (t : ByteArray), ([⟨#[65, 67, 77, 69]⟩, ⟨#[66, 79, 76, 84]⟩, ⟨#[67, 45, 49]⟩, ⟨#[]⟩] : List ByteArray)[i]? = some t → (W2.drew.alloc (.cells #[.string ⟨#[65, 67, 77, 69]⟩, .string ⟨#[66, 79, 76, 84]⟩, .string ⟨#[67, 45, 49]⟩, .string ⟨#[]⟩] 9)).cell? ⟨W2.heap.size, i, none⟩ = some (.string t)) := pk_cells W2.drew
  have hBW : W2.heap.size ≠ B := by have := H2.out.bk.src.lt; omega
  have hA : 1 < 4 := by omega
  have hA2 : 4 ≤ 1000 := by omega
  have hT : ([⟨#[65, 67, 77, 69]⟩, ⟨#[66, 79, 76, 84]⟩, ⟨#[67, 45, 49]⟩, ⟨#[]⟩] : List ByteArray).length = 4 := rfl
  obtain ⟨y0, y1⟩ := box2 H2.out.box
  obtain ⟨x0, x1⟩ := box2 H2.out.rb
  have xf := frz2 H2.out.rb
  have HA2 : Hid (DR B P w w1 (W2.alloc (.cells #[.string ⟨#[65, 67, 77, 69]⟩, .string ⟨#[66, 79, 76, 84]⟩, .string ⟨#[67, 45, 49]⟩, .string ⟨#[]⟩] 9)) (.slice A p.stocks.length C) (.slice A' p.lines.length C') p) := H2.out.below ((Below.refl _ _).alloc (Nat.le_refl _) _)
  obtain ⟨va0, va1⟩ := box2 HA2.out.box
  obtain ⟨za0, za1⟩ := box2 HA2.out.rb
  have zaf := frz2 HA2.out.rb
  obtain ⟨v0, v1⟩ := box2 HA.out.box
  obtain ⟨z0, z1⟩ := box2 HA.out.rb
  have zf := frz2 HA.out.rb
  go_region_law (first | (go_simp; go_at_call 15; refine (pick_any B W2.heap.size 4 4 [⟨#[65, 67, 77, 69]⟩, ⟨#[66, 79, 76, 84]⟩, ⟨#[67, 45, 49]⟩, ⟨#[]⟩] _ hA hA2 hT hBW HC.out HA.out.bk.src).mono ?_; rintro e w8 ⟨t, rfl, ht, s8, k8⟩; have H8 : Hid (DR B P w w1 w8 (.slice A p.stocks.length C) (.slice A' p.lines.length C') p) := HA.out.keep k8 s8; clear s8 k8; obtain ⟨u0, u1⟩ := box2 H8.out.box; obtain ⟨r0, r1⟩ := box2 H8.out.rb; have rf := frz2 H8.out.rb; try dsimp only) | fail)
  all_goals
    have HE : Hid _ := H8.out.fin
    obtain ⟨f0, f1⟩ := box2 HE.out.2.2
    try go_wp2
    exact bodyPost_ret (v := .tuple #[.agg #[.slice A p.stocks.length C, .slice A' p.lines.length C'], .string t]) (by first | (simp [results, Try.results5, go_sem, f0, f1]; done) | (simp [results, Try.results5, go_sem, r0, r1]; done)) rfl (DrOut.mk rfl HE.out.1 H8.out.bk.bd (pk_small ht) HE.out.2.1)
end Go.Proofs.Ytiaclnldeimbhaa
