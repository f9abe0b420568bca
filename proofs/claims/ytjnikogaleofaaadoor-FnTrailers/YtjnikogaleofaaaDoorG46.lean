/- Texts of ours put together: IxVa. -/
import Derived.Test.YtjnikogaleofaaaDoorG43
import Derived.Test.YtjnikogaleofaaaDoorG40
import Derived.Test.YtjnikogaleofaaaDoorG45
namespace Go.Proofs.YtjnikogaleofaaaDoor
open Go.ChangeShapes Go.WideShapes Go.ChangeAt Go.RowKit
theorem dec_any (n : Int) (w : World) (h0 : 0 ≤ n) (h1 : n ≤ 1000000) : Calls Tryd.prog 18 #[.int .i64 n] w fun e w' => e = .returned (.string (decS n)) ∧ Below w.heap.size w w' := l01Dec_any n w (by omega) (by omega)
/-- The answer's block, zero still. -/
structure RY (R : Nat) (w W : World) : Prop where
  r : W.heap[R]? = some (.cells #[.string ⟨#[]⟩, .slice none 0 0] 33)
  bel : Below w.heap.size w W
  wr : w.heap.size ≤ R
theorem RY.below {R : Nat} {w W W' : World} (h : RY R w W) (hb : Below W.heap.size W W') : RY R w W' := ⟨(hb.block _ (Array.getElem?_eq_some_iff.1 h.r).1).trans h.r, h.bel.trans (hb.mono h.bel.size), h.wr⟩
theorem RY.lt {R : Nat} {w W : World} (h : RY R w W) : R < W.heap.size := (Array.getElem?_eq_some_iff.1 h.r).1
theorem RY.cells {R : Nat} {w W : World} (h : RY R w W) : W.cell? ⟨R, 0, none⟩ = some (.string ⟨#[]⟩) ∧ W.cell? ⟨R, 1, none⟩ = some (.slice none 0 0) ∧ ∀ o, W.frozen? ⟨R, o, none⟩ = false := by
  have := h.r
  exact ⟨by simp [World.cell?, this], by simp [World.cell?, this], fun o => by simp [World.frozen?, this]⟩
set_option maxRecDepth 20000 in
set_option maxHeartbeats 2000000 in
theorem l03Head_any (m : Ixc) (v : Value) (w : World) (hv : ∃ A N C, v = .slice A N C) (h0 : 0 ≤ m.num) (h1 : m.num ≤ 1000000) (hf : m.frm.size ≤ 1048576) (ht : m.to.size ≤ 1048576) : Calls Tryd.prog 15 #[.agg #[.string m.frm, .string m.to, .int .i64 m.num, v]] w fun e w' => ∃ u vals, e = .returned (.agg #[.string tIXH, u]) ∧ OwnV w.heap.size w' u vals ([m.frm, m.to, decS m.num].map fun t => [t]) ∧ Below w.heap.size w w' := by
  obtain ⟨A, N, C, rfl⟩ := hv
  obtain ⟨frm, tt, num, buns⟩ := m
  dsimp only at h0 h1 hf ht ⊢
  have sn := decS_size num h0 h1
  have hZ : RY (w.heap.size + 1) w ((w.alloc (.cells #[.string frm, .string tt, .int .i64 num, .slice A N C] 25)).alloc (.cells #[.string ⟨#[]⟩, .slice none 0 0] 33)) := ⟨heap_new2 w _ _, ((Below.refl _ _).alloc (Nat.le_refl _) _).alloc (by simp) _, by omega⟩
  have x0 : ((w.alloc (.cells #[.string frm, .string tt, .int .i64 num, .slice A N C] 25)).alloc (.cells #[.string ⟨#[]⟩, .slice none 0 0] 33)).cell? ⟨w.heap.size, 0, none⟩ = some (.string frm) := by simp [go_sem]
  have x1 : ((w.alloc (.cells #[.string frm, .string tt, .int .i64 num, .slice A N C] 25)).alloc (.cells #[.string ⟨#[]⟩, .slice none 0 0] 33)).cell? ⟨w.heap.size, 1, none⟩ = some (.string tt) := by simp [go_sem]
  have x2 : ((w.alloc (.cells #[.string frm, .string tt, .int .i64 num, .slice A N C] 25)).alloc (.cells #[.string ⟨#[]⟩, .slice none 0 0] 33)).cell? ⟨w.heap.size, 2, none⟩ = some (.int .i64 num) := by simp [go_sem]
  go_enter Tryd.func15, Tryd.ntmps15
  go_wp2_with fail
  generalize ((w.alloc (.cells #[.string frm, .string tt, .int .i64 num, .slice A N C] 25)).alloc (.cells #[.string ⟨#[]⟩, .slice none 0 0] 33)) = W0 at *
  generalize hDn : decS num = Dn at *
  have HD : Hid (decS num = Dn) := hDn
  have HZ : Hid (RY (w.heap.size + 1) w W0) := hZ
  clear hDn hZ
  go_region_law (first | (go_simp; go_at_call 18; refine (dec_any num _ h0 h1).mono ?_; rintro e w2 ⟨rfl, hb⟩; rw [HD.out]; have hb2 : Below W0.heap.size W0 w2 := (by first | exact hb | exact (Below.refl _ _).drew.trans hb); clear hb; have y0 := (hb2.cell (cell_lt x0)).trans x0; have y1 := (hb2.cell (cell_lt x1)).trans x1; have H2 : Hid (RY (w.heap.size + 1) w w2) := HZ.out.below hb2; clear hb2; try dsimp only) | (go_simp; go_at_call 17; refine (l03Seg_any tIXH _ [frm, tt, Dn] _ (by first | exact row3s w2 frm tt Dn (by omega) (by omega) (by omega) | exact (row3s w2 frm tt Dn (by omega) (by omega) (by omega)).below (Below.refl _ _).drew) (by simp)).mono ?_; rintro e w3 ⟨u3, vals3, rfl, hO3, hb⟩; obtain ⟨A3, N3, C3, hu3⟩ := row_slice hO3.row; subst hu3; have hb3 : Below w2.heap.size w2 w3 := (((Below.refl _ w2).alloc (Nat.le_refl _) (.cells #[.string frm, .string tt, .string Dn] 9)).trans ((by first | exact hb | exact (Below.refl _ _).drew.trans hb : Below (w2.alloc (.cells #[.string frm, .string tt, .string Dn] 9)).heap.size (w2.alloc (.cells #[.string frm, .string tt, .string Dn] 9)) w3).mono (by simp))); have H3 : Hid (RY (w.heap.size + 1) w w3 ∧ OwnV (w.heap.size + 2) w3 (.slice A3 N3 C3) vals3 ([frm, tt, Dn].map fun t => [t])) := ⟨H2.out.below hb3, hO3.mono (by have := H2.out.lt; simp; omega)⟩; obtain ⟨r0, r1, rz⟩ := H3.out.1.cells; clear hb hb3 hO3; try dsimp only))
  all_goals
    go_wp2
    exact bodyPost_ret (v := .agg #[.string tIXH, .slice A3 N3 C3]) (by simp [results, Tryd.results15, go_sem, r0, r1]) rfl ⟨_, vals3, rfl, (by rw [HD.out]; exact ((H3.out.2.set (B := w.heap.size + 1) (by omega) 0 (.string tIXH)).set (B := w.heap.size + 1) (by omega) 1 (.slice A3 N3 C3)).mono (n₀ := w.heap.size) (by omega)), (H3.out.1.bel.setCell (show w.heap.size ≤ w.heap.size + 1 by omega) _).setCell (show w.heap.size ≤ w.heap.size + 1 by omega) _⟩
end Go.Proofs.YtjnikogaleofaaaDoor
