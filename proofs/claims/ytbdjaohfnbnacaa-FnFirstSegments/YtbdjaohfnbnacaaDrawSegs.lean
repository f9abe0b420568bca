/- Contract of the model's DrawSegmentsText: over a list of at most 1048576 bytes it tells four numbers and some list of segments in new memory. -/
import Derived.Test.YtbdjaohfnbnacaaL02Ss
import Derived.Deep.RegionHeld3
import Derived.Deep.RegionLaw
namespace Go.Proofs.Ytbdjaohfnbnacaa
open Go.ChangeShapes Go.WideShapes Go.ChangeAt Go.RowKit Go.Shelf
theorem bytesAt_belowS {w w' : World} {a : Option Addr} {len : Nat} {zs : List Int} (h : BytesAt w a len zs) (hb : Below w.heap.size w w') : BytesAt w' a len zs := by
  intro g
  obtain ⟨b, off, e, hc⟩ := h g
  exact ⟨b, off, e, fun i hi => (hb.cell (p := ⟨b, off + i, none⟩) (cell_lt (hc i hi))).trans (hc i hi)⟩
/-- What stands while segments are drawn with their syntax: the source in B, the answer's block R ahead of it, the syntax in X. -/
structure DTs (B R X : Nat) (w W : World) (x0 x1 x2 x3 : Int) : Prop where
  src : IsSrc B W
  bel : Below w.heap.size w W
  r : Box4 W R 0 0 0 0
  x : Box4 W X x0 x1 x2 x3
  rb : R < B
  bx : B < X
  wr : w.heap.size ≤ R
theorem DTs.keep {B R X : Nat} {w W W' : World} {x0 x1 x2 x3 : Int} (h : DTs B R X w W x0 x1 x2 x3) (hk : Keep B W W') (hs : IsSrc B W') : DTs B R X w W' x0 x1 x2 x3 := by
  have h1 := h.rb
  have h3 := h.bx
  have h4 := h.wr
  exact ⟨hs, h.bel.trans (hk.below (by omega) h.bel.size), h.r.keep hk (by omega), h.x.keep hk (by omega), h1, h3, h4⟩
set_option maxHeartbeats 4000000 in
theorem drawSegmentsText_any (a : Option Addr) (len cap : Nat) (zs : List Int) (w : World) (hl : len ≤ 1048576) (hr : BytesAt w a len zs) :
    Calls Try.prog 5 #[.slice a len cap] w fun e w' => ∃ (x0 x1 x2 x3 : Int) (v : Value) (gs : List Seg), e = .returned (.tuple #[.agg #[.int .i64 x0, .int .i64 x1, .int .i64 x2, .int .i64 x3], v]) ∧ gs.length ≤ 201 ∧ (∃ A C, v = .slice A gs.length C ∧ gs.length ≤ C) ∧ RowG w' v gs ∧ BdG 1048576 gs ∧ Below w.heap.size w w' := by
  have HR : Hid (BytesAt w a len zs) := hr
  clear hr
  go_enter Try.func5, Try.ntmps5
  go_wp2_with fail
  generalize hW0 : w.alloc (.cells #[.int .i64 0, .int .i64 0, .int .i64 0, .int .i64 0] 24) = W0
  have hb0 : Below w.heap.size w W0 := by rw [← hW0]; exact (Below.refl _ _).alloc (Nat.le_refl _) _
  have hz0 : W0.heap.size = w.heap.size + 1 := by rw [← hW0]; simp
  have r0 : Box4 W0 w.heap.size 0 0 0 0 := by rw [← hW0]; exact Box4.new w 24 0 0 0 0
  clear hW0
  refine (source_any a len cap zs _ hl (bytesAt_belowS HR.out hb0)).mono ?_
  rintro e w1 ⟨rfl, hS, hb1⟩
  have HS : Hid (IsSrc (w.heap.size + 1) w1 ∧ Below W0.heap.size W0 w1 ∧ Below w.heap.size w W0 ∧ Box4 W0 w.heap.size 0 0 0 0) := ⟨by rw [← hz0]; exact hS, hb1, hb0, r0⟩
  clear hS hb1 hb0 r0
  go_wp2_with fail
  refine (syntax_any _ _ HS.out.1).mono ?_
  rintro e w2 ⟨x0, x1, x2, x3, rfl, hS2, hk2⟩
  have hlt := hS2.lt
  have hz2 := hk2.size
  have hz1 := HS.out.2.1.size
  have hD : DTs (w.heap.size + 1) w.heap.size w2.heap.size w (w2.alloc (.cells #[.int .i64 x0, .int .i64 x1, .int .i64 x2, .int .i64 x3] 24)) x0 x1 x2 x3 := by
    have b1 : Below w.heap.size w w1 := HS.out.2.2.1.trans (HS.out.2.1.mono (by omega))
    have b2 : Below w.heap.size w w2 := b1.trans (hk2.below (by omega) (by omega))
    exact ⟨hS2.below ((Below.refl _ _).alloc (by omega) _), b2.alloc (by omega) _, ((HS.out.2.2.2.keep (Keep.of_below (B := w.heap.size + 1) HS.out.2.1) (by omega)).keep hk2 (by omega)).alloc _, Box4.new w2 24 x0 x1 x2 x3, by omega, by omega, Nat.le_refl _⟩
  have d0 := hD.x.c0
  have d1 := hD.x.c1
  have d2 := hD.x.c2
  have d3 := hD.x.c3
  have HD : Hid (DTs (w.heap.size + 1) w.heap.size w2.heap.size w (w2.alloc (.cells #[.int .i64 x0, .int .i64 x1, .int .i64 x2, .int .i64 x3] 24)) x0 x1 x2 x3) := hD
  clear hD hS2 hk2 HS
  go_wp2_with fail
  go_region_law (first | (go_simp; go_at_call 13; refine (l02Segments_any (w.heap.size + 1) _ (HD.out.src.below (Below.refl _ _).drew)).mono ?_; rintro e w4 ⟨v4, ps, gs, rfl, hgl, hO, hB, hs4, hk4⟩; obtain ⟨Av, Cv, hv⟩ := hO.slice; subst hv; have hD4 := HD.out.keep ((Keep.refl _ _).drew.trans hk4) hs4; have y0 := hD4.x.c0; have y1 := hD4.x.c1; have y2 := hD4.x.c2; have y3 := hD4.x.c3; have r0 := hD4.r.c0; have r1 := hD4.r.c1; have r2 := hD4.r.c2; have r3 := hD4.r.c3; have rz := hD4.r.fz; have HO : Hid (OwnWL (w2.heap.size + 1) w4 (.slice Av gs.length Cv) ps gs ∧ BdGs gs ∧ DTs (w.heap.size + 1) w.heap.size w2.heap.size w w4 x0 x1 x2 x3) := ⟨(by simpa using hO), hB, hD4⟩; clear hO hB hs4 hk4 hD4; try dsimp only))
  all_goals
    have q1 : w.heap.size < w2.heap.size + 1 := by omega
    have hF := ((((HO.out.1.set q1 0 (.int .i64 x0)).set q1 1 (.int .i64 x1)).set q1 2 (.int .i64 x2)).set q1 3 (.int .i64 x3)).rowG HO.out.2.1 (by omega)
    have hE : BdG 1048576 gs := bdGs_bdG HO.out.2.1 (by omega)
    have k1 : w.heap.size ≤ w.heap.size := Nat.le_refl _
    have hL : Below w.heap.size w _ := (((HO.out.2.2.bel.setCell (show w.heap.size ≤ (⟨w.heap.size, 0, none⟩ : Addr).block from k1) (.int .i64 x0)).setCell (show w.heap.size ≤ (⟨w.heap.size, 1, none⟩ : Addr).block from k1) (.int .i64 x1)).setCell (show w.heap.size ≤ (⟨w.heap.size, 2, none⟩ : Addr).block from k1) (.int .i64 x2)).setCell (show w.heap.size ≤ (⟨w.heap.size, 3, none⟩ : Addr).block from k1) (.int .i64 x3)
    go_wp2_with fail
    exact bodyPost_ret (v := .tuple #[.agg #[.int .i64 x0, .int .i64 x1, .int .i64 x2, .int .i64 x3], .slice Av gs.length Cv]) (by simp [results, Try.results5, go_sem, r0, r1, r2, r3]) rfl ⟨x0, x1, x2, x3, _, gs, rfl, hgl, ⟨_, _, rfl, HO.out.1.cap⟩, hF, hE, hL⟩
end Go.Proofs.Ytbdjaohfnbnacaa
