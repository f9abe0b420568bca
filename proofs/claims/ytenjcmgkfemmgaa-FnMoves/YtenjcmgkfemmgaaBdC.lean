/- Contract of DrawBookMove. -/
import Derived.Test.YtenjcmgkfemmgaaBdB
import Derived.Test.YtenjcmgkfemmgaaEdge
import Derived.Laws.BytesArg
namespace Go.Proofs.Ytenjcmgkfemmgaa
open Go.ChangeShapes Go.WideShapes Go.ChangeAt Go.RowKit
theorem bytesAt_belowN {w w' : World} {a : Option Addr} {len : Nat} {zs : List Int} (h : BytesAt w a len zs) (hb : Below w.heap.size w w') : BytesAt w' a len zs := by
  intro g
  obtain ⟨b, off, e, hc⟩ := h g
  exact ⟨b, off, e, fun i hi => (hb.cell (p := ⟨b, off + i, none⟩) (cell_lt (hc i hi))).trans (hc i hi)⟩
/-- What DrawBookMove tells. -/
def DmOut (w : World) (e : Ending) (w' : World) : Prop := ∃ us ul p t z, e = .returned (.tuple #[.agg #[us, ul], .string t, .int .i64 z]) ∧ RBk w' us ul p ∧ BdBk 1000 p ∧ t.size ≤ 4 ∧ Below w.heap.size w w'
theorem DmOut.mk {w w' : World} {e : Ending} {us ul : Value} {p : Bk} {t : ByteArray} {z : Int} (h : e = .returned (.tuple #[.agg #[us, ul], .string t, .int .i64 z])) (h1 : RBk w' us ul p) (h2 : BdBk 1000 p) (h3 : t.size ≤ 4) (h4 : Below w.heap.size w w') : DmOut w e w' := ⟨us, ul, p, t, z, h, h1, h2, h3, h4⟩
/-- The answer's box, the drawn book's box and the book itself. -/
structure DM (B P : Nat) (w w1 W : World) (us ul : Value) (p : Bk) : Prop where
  bk : DBk B w1 W us ul p
  bel : Below w.heap.size w w1
  hB : w.heap.size < B
  rb : W.heap[w.heap.size]? = some (.cells #[.slice none 0 0, .slice none 0 0] 26)
  hP : w1.heap.size ≤ P
  box : W.heap[P]? = some (.cells #[us, ul] 26)
theorem DM.keep {B P : Nat} {w w1 W W' : World} {us ul : Value} {p : Bk} (h : DM B P w w1 W us ul p) (hk : Keep B W W') (hs : IsSrc B W') : DM B P w w1 W' us ul p := by
  have hB := h.hB
  have hP := h.hP
  have h1 := h.bk.hB
  exact ⟨h.bk.keep hk hs, h.bel, hB, (hk.block _ (Array.getElem?_eq_some_iff.1 h.rb).1 (by omega)).trans h.rb, hP, (hk.block _ (Array.getElem?_eq_some_iff.1 h.box).1 (by omega)).trans h.box⟩
theorem DM.below {B P : Nat} {w w1 W W' : World} {us ul : Value} {p : Bk} (h : DM B P w w1 W us ul p) (hb : Below W.heap.size W W') : DM B P w w1 W' us ul p := h.keep (Keep.of_below hb) (h.bk.src.below (hb.mono h.bk.src.lt))
theorem DM.fin {B P : Nat} {w w1 W : World} {us ul : Value} {p : Bk} (h : DM B P w w1 W us ul p) : RBk ((W.setCell ⟨w.heap.size, 0, none⟩ us).setCell ⟨w.heap.size, 1, none⟩ ul) us ul p ∧ Below w.heap.size w ((W.setCell ⟨w.heap.size, 0, none⟩ us).setCell ⟨w.heap.size, 1, none⟩ ul) ∧ ((W.setCell ⟨w.heap.size, 0, none⟩ us).setCell ⟨w.heap.size, 1, none⟩ ul).heap[w.heap.size]? = some (.cells #[us, ul] 26) := by
  have hB := h.hB
  have h1 := h.bk.hB
  have hb1 := h.bel.size
  have hrb := h.rb
  refine ⟨⟨rowSt_of h.bk.row.st fun hn ad L C e hl => ?_, rowOl_of h.bk.row.ln fun hn ad L C e hl => ?_⟩, ?_, ?_⟩
  · have := h.bk.fs hn ad L C e
    rw [setNe _ (by omega), setNe _ (by omega)]
  · have := h.bk.fl hn ad L C e
    rw [setNe _ (by omega), setNe _ (by omega)]
  · have hb : Below w.heap.size w W := h.bel.trans (h.bk.kp.below (by omega) (by omega))
    exact (hb.setCell (show w.heap.size ≤ w.heap.size from Nat.le_refl _) _).setCell (show w.heap.size ≤ w.heap.size from Nat.le_refl _) _
  · simp [World.setCell, Array.getElem?_modify, hrb]
set_option maxRecDepth 100000 in
set_option maxHeartbeats 8000000 in
theorem drawBookMove_any (a : Option Addr) (len cap : Nat) (zs : List Int) (w : World) (hl : len ≤ 1048576) (hr : BytesAt w a len zs) : Calls Try.prog 4 #[.slice a len cap] w (DmOut w) := by
  obtain ⟨W0, hW0⟩ : ∃ W0, w.alloc (.cells #[.slice none 0 0, .slice none 0 0] 26) = W0 := ⟨_, rfl⟩
  have hb0 : Below w.heap.size w W0 := by rw [← hW0]; exact (Below.refl _ _).alloc (Nat.le_refl _) _
  have hr0 : W0.heap[w.heap.size]? = some (.cells #[.slice none 0 0, .slice none 0 0] 26) := by rw [← hW0]; exact World.alloc_heap_new _ _
  have hs0 : w.heap.size < W0.heap.size := (Array.getElem?_eq_some_iff.1 hr0).1
  have HR : Hid (BytesAt W0 a len zs ∧ Below w.heap.size w W0 ∧ W0.heap[w.heap.size]? = some (.cells #[.slice none 0 0, .slice none 0 0] 26)) := ⟨bytesAt_belowN hr hb0, hb0, hr0⟩
  clear hr hb0 hr0
  go_enter Try.func4, Try.ntmps4
  go_upto_region 1 with fail
  try rw [hW0]
  clear hW0
  go_wp2_with fail
  refine (source_any a len cap zs _ hl HR.out.1).mono ?_
  rintro e w1 ⟨rfl, hs1, hb1⟩
  obtain ⟨B, hB⟩ : ∃ B, B = W0.heap.size := ⟨_, rfl⟩
  rw [← hB] at hs1
  have H1 : Hid (IsSrc B w1 ∧ Below w.heap.size w w1 ∧ w1.heap[w.heap.size]? = some (.cells #[.slice none 0 0, .slice none 0 0] 26)) := ⟨hs1, HR.out.2.1.trans (hb1.mono HR.out.2.1.size), (hb1.block _ hs0).trans HR.out.2.2⟩
  have hwB : w.heap.size < B := by omega
  have HB : Hid (B = W0.heap.size) := hB
  clear hs1 hb1 HR hB hs0
  go_upto_region 2 with fail
  rw [← HB.out]
  clear HB
  go_wp2_with fail
  refine (l10Book_any B _ H1.out.1).mono ?_
  rintro e w2 ⟨us, ul, p, rfl, hq⟩
  obtain ⟨A, C, A', C', rfl, rfl⟩ := hq.row.val
  obtain ⟨W2, hW2⟩ : ∃ W2, w2.alloc (.cells #[.slice A p.stocks.length C, .slice A' p.lines.length C'] 26) = W2 := ⟨_, rfl⟩
  obtain ⟨P, hP⟩ : ∃ P, P = w2.heap.size := ⟨_, rfl⟩
  have H2 : Hid (DM B P w w1 W2 (.slice A p.stocks.length C) (.slice A' p.lines.length C') p) := by
    have ha : Below w2.heap.size w2 W2 := by rw [← hW2]; exact (Below.refl _ _).alloc (Nat.le_refl _) _
    have hz := hq.kp.size
    have hw1 := (Array.getElem?_eq_some_iff.1 H1.out.2.2).1
    refine ⟨hq.below ha, H1.out.2.1, hwB, ?_, by omega, by rw [hP, ← hW2]; exact World.alloc_heap_new _ _⟩
    exact (ha.block _ (by omega)).trans ((hq.kp.block _ hw1 (by omega)).trans H1.out.2.2)
  have HWE : Hid (w2.alloc (.cells #[.slice A p.stocks.length C, .slice A' p.lines.length C'] 26) = W2 ∧ P = w2.heap.size) := ⟨hW2, hP⟩
  clear hW2 hP hq H1
  go_upto_region 3 with fail
  try rw [HWE.out.1]
  try rw [← HWE.out.2]
  clear HWE
  go_wp2_with fail
  refine (n_any B 80 _ (by omega) (by omega) H2.out.bk.src).mono ?_
  rintro e w3 ⟨z, rfl, z0, z1, s3, k3⟩
  have H3 : Hid (DM B P w w1 w3 (.slice A p.stocks.length C) (.slice A' p.lines.length C') p) := H2.out.keep k3 s3
  have hwz : IntKind.i64.wrap (z - 40) = z - 40 := by rw [IntKind.wrap_i64]; omega
  clear s3 k3 H2
  go_wp2_with fail
  refine (one_any B 10 _ (by omega) (by omega) H3.out.bk.src).mono ?_
  rintro e w4 ⟨on, rfl, s4, k4⟩
  have H4 : Hid (DM B P w w1 w4 (.slice A p.stocks.length C) (.slice A' p.lines.length C') p) := H3.out.keep k4 s4
  clear s4 k4 H3
  go_upto_if 16 with fail
  go_cut [7] from 17 to 23 (fun bv wx => ∃ by_ : Int, bv = .int .i64 by_ ∧ DM B P w w1 wx (.slice A p.stocks.length C) (.slice A' p.lines.length C') p)
  case first =>
    cases on with
    | false =>
      go_wp2_with fail
      go_meet
      exact ⟨_, rfl, H4.out⟩
    | true =>
      go_wp2_with fail
      refine (edge_any B _ H4.out.bk.src).mono ?_
      rintro e w5 ⟨y, rfl, s5, k5⟩
      have H5 : Hid (DM B P w w1 w5 (.slice A p.stocks.length C) (.slice A' p.lines.length C') p) := H4.out.keep k5 s5
      clear s5 k5 H4
      have HX : Hid (DM B P w w1 (w5.alloc (.cells #[.int .i64 1000000000, .int .i64 (-1000000000), .int .i64 1000000001, .int .i64 0, .int .i64 y] 2)) (.slice A p.stocks.length C) (.slice A' p.lines.length C') p) := H5.out.below ((Below.refl _ _).alloc (Nat.le_refl _) _)
      have HC : Hid (∀ W', Keep B (w5.alloc (.cells #[.int .i64 1000000000, .int .i64 (-1000000000), .int .i64 1000000001, .int .i64 0, .int .i64 y] 2)) W' → ∀ q : Int, 0 ≤ q → q < 5 → ∃ v : Int, W'.cell? ⟨w5.heap.size, q.toNat, none⟩ = some (.int .i64 v)) := fun W' hk q q0 q1 => by
        have hB5 : B < w5.heap.size := H5.out.bk.src.lt
        have hc := cell_lits w5 2 [1000000000, -1000000000, 1000000001, 0, y] q.toNat (by simp; omega)
        exact ⟨_, hk.cell hc (by omega)⟩
      go_wp2_with fail
      refine (n_any B 5 _ (by omega) (by omega) HX.out.bk.src).mono ?_
      rintro e w6 ⟨q, rfl, q0, q1, s6, k6⟩
      obtain ⟨v, hv⟩ := HC.out w6 k6 q q0 (by omega)
      have H6 : Hid (DM B P w w1 w6 (.slice A p.stocks.length C) (.slice A' p.lines.length C') p) := HX.out.keep k6 s6
      clear s6 k6 HX HC H5
      obtain ⟨q, rfl⟩ : ∃ m : Nat, q = (m : Int) := ⟨q.toNat, by omega⟩
      simp only [Int.toNat_natCast] at hv
      go_wp2_with fail
      go_meet
      exact ⟨_, rfl, H6.out⟩
  case rest =>
    obtain ⟨by_, rfl, hq⟩ := hcut
    rename World => w7
    have H7 : Hid (DM B P w w1 w7 (.slice A p.stocks.length C) (.slice A' p.lines.length C') p) := hq
    have H7d : Hid (DM B P w w1 w7.drew (.slice A p.stocks.length C) (.slice A' p.lines.length C') p) := hq.below (Below.refl _ _).drew
    clear hq H4
    obtain ⟨y0, y1⟩ := box2 H7.out.box
    obtain ⟨x0, x1⟩ := box2 H7.out.rb
    have xf := frz2 H7.out.rb
    go_upto_region 6 with fail
    go_region_law (first | (go_simp; go_at_call 16; refine (l10Item_any B _ H7d.out.bk.src).mono ?_; rintro e w8 ⟨t, rfl, ht, s8, k8⟩; have H8 : Hid (DM B P w w1 w8 (.slice A p.stocks.length C) (.slice A' p.lines.length C') p) := H7d.out.keep k8 s8; clear s8 k8; obtain ⟨u0, u1⟩ := box2 H8.out.box; obtain ⟨r0, r1⟩ := box2 H8.out.rb; have rf := frz2 H8.out.rb; try dsimp only) | fail)
    all_goals
      have HE : Hid _ := H8.out.fin
      obtain ⟨f0, f1⟩ := box2 HE.out.2.2
      try go_wp2
      exact bodyPost_ret (v := .tuple #[.agg #[.slice A p.stocks.length C, .slice A' p.lines.length C'], .string t, .int .i64 by_]) (by first | (simp [results, Try.results4, go_sem, f0, f1]; done) | (simp [results, Try.results4, go_sem, r0, r1]; done)) rfl (DmOut.mk rfl HE.out.1 H8.out.bk.bd ht HE.out.2.1)
end Go.Proofs.Ytenjcmgkfemmgaa
