/- Contract of the model's DrawSegmentText: over a list of at most 1048576 bytes it tells four numbers and some segment in new memory. -/
import Derived.Test.YtbhionebejnbgaaL02S
import Derived.Deep.RegionHeld3
import Derived.Deep.RegionLaw
namespace Go.Proofs.Ytbhionebejnbgaa
open Go.ChangeShapes Go.WideShapes Go.ChangeAt Go.RowKit Go.Shelf
theorem bytesAt_belowS {w w' : World} {a : Option Addr} {len : Nat} {zs : List Int} (h : BytesAt w a len zs) (hb : Below w.heap.size w w') : BytesAt w' a len zs := by
  intro g
  obtain ⟨b, off, e, hc⟩ := h g
  exact ⟨b, off, e, fun i hi => (hb.cell (p := ⟨b, off + i, none⟩) (cell_lt (hc i hi))).trans (hc i hi)⟩
theorem bdW_bdE {es : List (List ByteArray)} (h : BdW es) (hl : es.length ≤ 12) : BdE 1048576 es := by
  refine ⟨by omega, fun i e hi => ?_⟩
  have hm := h e (List.mem_of_getElem? hi)
  exact ⟨by omega, fun j t hj => Nat.le_trans (hm.2 t (List.mem_of_getElem? hj)) (by omega)⟩
/-- What stands while a segment is drawn with its syntax: the source in B, the answers' blocks R and G ahead of it, the syntax in X. -/
structure DT (B R G X : Nat) (w W : World) (x0 x1 x2 x3 : Int) : Prop where
  src : IsSrc B W
  bel : Below w.heap.size w W
  r : Box4 W R 0 0 0 0
  g : W.heap[G]? = some (.cells #[.string ⟨#[]⟩, .slice none 0 0] 27)
  x : Box4 W X x0 x1 x2 x3
  rg : R < G
  gb : G < B
  bx : B < X
  wr : w.heap.size ≤ R
theorem DT.keep {B R G X : Nat} {w W W' : World} {x0 x1 x2 x3 : Int} (h : DT B R G X w W x0 x1 x2 x3) (hk : Keep B W W') (hs : IsSrc B W') : DT B R G X w W' x0 x1 x2 x3 := by
  have h1 := h.rg
  have h2 := h.gb
  have h3 := h.bx
  have h4 := h.wr
  exact ⟨hs, h.bel.trans (hk.below (by omega) h.bel.size), h.r.keep hk (by omega), (hk.block _ (Array.getElem?_eq_some_iff.1 h.g).1 (by omega)).trans h.g, h.x.keep hk (by omega), h1, h2, h3, h4⟩
set_option maxHeartbeats 4000000 in
theorem drawSegmentText_any (a : Option Addr) (len cap : Nat) (zs : List Int) (w : World) (hl : len ≤ 1048576) (hr : BytesAt w a len zs) :
    Calls Try.prog 6 #[.slice a len cap] w fun e w' => ∃ (x0 x1 x2 x3 : Int) (tag : ByteArray) (v : Value) (es : List (List ByteArray)), e = .returned (.tuple #[.agg #[.int .i64 x0, .int .i64 x1, .int .i64 x2, .int .i64 x3], .agg #[.string tag, v]]) ∧ tag.size ≤ 100 ∧ RowE w' v es ∧ BdE 1048576 es ∧ Below w.heap.size w w' := by
  have HR : Hid (BytesAt w a len zs) := hr
  clear hr
  go_enter Try.func6, Try.ntmps6
  go_wp2_with fail
  generalize hW0 : (w.alloc (.cells #[.int .i64 0, .int .i64 0, .int .i64 0, .int .i64 0] 24)).alloc (.cells #[.string ⟨#[]⟩, .slice none 0 0] 27) = W0
  have hb0 : Below w.heap.size w W0 := by rw [← hW0]; exact ((Below.refl _ _).alloc (Nat.le_refl _) _).alloc (by simp) _
  have hz0 : W0.heap.size = w.heap.size + 2 := by rw [← hW0]; simp
  have r0 : Box4 W0 w.heap.size 0 0 0 0 := by rw [← hW0]; exact (Box4.new w 24 0 0 0 0).alloc _
  have g0 : W0.heap[w.heap.size + 1]? = some (.cells #[.string ⟨#[]⟩, .slice none 0 0] 27) := by
    rw [← hW0]
    have := World.alloc_heap_new (w.alloc (.cells #[.int .i64 0, .int .i64 0, .int .i64 0, .int .i64 0] 24)) (.cells #[.string ⟨#[]⟩, .slice none 0 0] 27)
    simpa using this
  clear hW0
  refine (source_any a len cap zs _ hl (bytesAt_belowS HR.out hb0)).mono ?_
  rintro e w1 ⟨rfl, hS, hb1⟩
  have HS : Hid (IsSrc (w.heap.size + 2) w1 ∧ Below W0.heap.size W0 w1 ∧ Below w.heap.size w W0 ∧ Box4 W0 w.heap.size 0 0 0 0 ∧ W0.heap[w.heap.size + 1]? = some (.cells #[.string ⟨#[]⟩, .slice none 0 0] 27)) := ⟨by rw [← hz0]; exact hS, hb1, hb0, r0, g0⟩
  clear hS hb1 hb0 r0 g0
  go_wp2_with fail
  refine (syntax_any _ _ HS.out.1).mono ?_
  rintro e w2 ⟨x0, x1, x2, x3, rfl, hS2, hk2⟩
  have hlt := hS2.lt
  have hz2 := hk2.size
  have hz1 := HS.out.2.1.size
  have hD : DT (w.heap.size + 2) w.heap.size (w.heap.size + 1) w2.heap.size w (w2.alloc (.cells #[.int .i64 x0, .int .i64 x1, .int .i64 x2, .int .i64 x3] 24)) x0 x1 x2 x3 := by
    have b1 : Below w.heap.size w w1 := HS.out.2.2.1.trans (HS.out.2.1.mono (by omega))
    have b2 : Below w.heap.size w w2 := b1.trans (hk2.below (by omega) (by omega))
    have e1 := (HS.out.2.1.block (w.heap.size + 1) (by omega)).trans HS.out.2.2.2.2
    have e2 := (hk2.block (w.heap.size + 1) (by omega) (by omega)).trans e1
    exact ⟨hS2.below ((Below.refl _ _).alloc (by omega) _), b2.alloc (by omega) _, ((HS.out.2.2.2.1.keep (Keep.of_below (B := w.heap.size + 2) HS.out.2.1) (by omega)).keep hk2 (by omega)).alloc _, (Below.heap_alloc _ _ _ (by omega)).trans e2, Box4.new w2 24 x0 x1 x2 x3, by omega, by omega, by omega, Nat.le_refl _⟩
  have d0 := hD.x.c0
  have d1 := hD.x.c1
  have d2 := hD.x.c2
  have d3 := hD.x.c3
  have HD : Hid (DT (w.heap.size + 2) w.heap.size (w.heap.size + 1) w2.heap.size w (w2.alloc (.cells #[.int .i64 x0, .int .i64 x1, .int .i64 x2, .int .i64 x3] 24)) x0 x1 x2 x3) := hD
  clear hD hS2 hk2 HS
  go_wp2_with fail
  go_region_law (first | (go_simp; go_at_call 22; refine (l02Segment_any (w.heap.size + 2) _ (HD.out.src.below (Below.refl _ _).drew)).mono ?_; rintro e w4 ⟨tag, v4, vals, es, rfl, htz, hel, hO, hB, hs4, hk4⟩; obtain ⟨Av, Nv, Cv, hv⟩ := row_slice hO.row; subst hv; have hD4 := HD.out.keep ((Keep.refl _ _).drew.trans hk4) hs4; have y0 := hD4.x.c0; have y1 := hD4.x.c1; have y2 := hD4.x.c2; have y3 := hD4.x.c3; have r0 := hD4.r.c0; have r1 := hD4.r.c1; have r2 := hD4.r.c2; have r3 := hD4.r.c3; have rz := hD4.r.fz; have hgg := hD4.g; have g0 : w4.cell? ⟨w.heap.size + 1, 0, none⟩ = some (.string ⟨#[]⟩) := (by simp [World.cell?, hgg]); have g1 : w4.cell? ⟨w.heap.size + 1, 1, none⟩ = some (.slice none 0 0) := (by simp [World.cell?, hgg]); have gz : ∀ o, w4.frozen? ⟨w.heap.size + 1, o, none⟩ = false := (fun o => by simp [World.frozen?, hgg]); have HO : Hid (OwnW (w2.heap.size + 1) w4 (.slice Av Nv Cv) vals es ∧ BdW es ∧ DT (w.heap.size + 2) w.heap.size (w.heap.size + 1) w2.heap.size w w4 x0 x1 x2 x3) := ⟨hO.mono (by simp), hB, hD4⟩; clear hO hB hs4 hk4 hD4 hgg; try dsimp only))
  all_goals
    have q1 : w.heap.size < w2.heap.size + 1 := by omega
    have q2 : w.heap.size + 1 < w2.heap.size + 1 := by omega
    have hF := ((((((HO.out.1.set q1 0 (.int .i64 x0)).set q1 1 (.int .i64 x1)).set q1 2 (.int .i64 x2)).set q1 3 (.int .i64 x3)).set q2 0 (.string tag)).set q2 1 (.slice Av Nv Cv)).rowE HO.out.2.1 (by omega)
    have hE : BdE 1048576 es := bdW_bdE HO.out.2.1 hel
    have k1 : w.heap.size ≤ w.heap.size := Nat.le_refl _
    have k2 : w.heap.size ≤ w.heap.size + 1 := Nat.le_succ _
    have hL : Below w.heap.size w _ := (((((HO.out.2.2.bel.setCell (show w.heap.size ≤ (⟨w.heap.size, 0, none⟩ : Addr).block from k1) (.int .i64 x0)).setCell (show w.heap.size ≤ (⟨w.heap.size, 1, none⟩ : Addr).block from k1) (.int .i64 x1)).setCell (show w.heap.size ≤ (⟨w.heap.size, 2, none⟩ : Addr).block from k1) (.int .i64 x2)).setCell (show w.heap.size ≤ (⟨w.heap.size, 3, none⟩ : Addr).block from k1) (.int .i64 x3)).setCell (show w.heap.size ≤ (⟨w.heap.size + 1, 0, none⟩ : Addr).block from k2) (.string tag)).setCell (show w.heap.size ≤ (⟨w.heap.size + 1, 1, none⟩ : Addr).block from k2) (.slice Av Nv Cv)
    go_wp2_with fail
    exact bodyPost_ret (v := .tuple #[.agg #[.int .i64 x0, .int .i64 x1, .int .i64 x2, .int .i64 x3], .agg #[.string tag, .slice Av Nv Cv]]) (by simp [results, Try.results6, go_sem, r0, r1, r2, r3, g0, g1]) rfl ⟨x0, x1, x2, x3, tag, _, es, rfl, htz, hF, hE, hL⟩
end Go.Proofs.Ytbhionebejnbgaa
