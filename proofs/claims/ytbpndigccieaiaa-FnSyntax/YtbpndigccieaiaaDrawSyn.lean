/- Contract of the model's DrawSyntaxText: over a list of at most 1048576 bytes it tells four numbers of int64 and writes nothing that was there. -/
import Derived.Test.YtbpndigccieaiaaSrcSyn
namespace Go.Proofs.Ytbpndigccieaiaa
open Go.ChangeShapes Go.WideShapes Go.ChangeAt Go.RowKit
theorem BytesAt.below {w w' : World} {a : Option Addr} {len : Nat} {zs : List Int} (h : BytesAt w a len zs) (hb : Below w.heap.size w w') : BytesAt w' a len zs := by
  intro g
  obtain ⟨b, off, e, hc⟩ := h g
  exact ⟨b, off, e, fun i hi => (hb.cell (p := ⟨b, off + i, none⟩) (cell_lt (hc i hi))).trans (hc i hi)⟩
set_option maxHeartbeats 400000 in
theorem drawSyntaxText_any (a : Option Addr) (len cap : Nat) (zs : List Int) (w : World) (hl : len ≤ 1048576) (hr : BytesAt w a len zs) :
    Calls Try.prog 10 #[.slice a len cap] w fun e w' => ∃ x0 x1 x2 x3 : Int, e = .returned (.agg #[.int .i64 x0, .int .i64 x1, .int .i64 x2, .int .i64 x3]) ∧ Below w.heap.size w w' := by
  have HR : Hid (BytesAt w a len zs) := hr
  clear hr
  go_enter Try.func10, Try.ntmps10
  go_wp2_with fail
  refine (source_any a len cap zs _ hl (HR.out.below ((Below.refl _ _).alloc (Nat.le_refl _) _))).mono ?_
  rintro e w1 ⟨rfl, hS, hb1⟩
  have HS : Hid (IsSrc (w.alloc _).heap.size w1 ∧ Below (w.alloc _).heap.size (w.alloc _) w1) := ⟨hS, hb1⟩
  clear hS hb1
  go_wp2_with fail
  rw [← World.size_alloc]
  refine (syntax_any _ _ HS.out.1).mono ?_
  rintro e w2 ⟨x0, x1, x2, x3, rfl, hS2, hk2⟩
  have hb2 := hk2.below (N := w.heap.size + 1) (by simp) (by have := HS.out.2.size; simp at this; omega)
  have hb3 : Below (w.heap.size + 1) (w.alloc _) w2 := (HS.out.2.mono (by simp)).trans hb2
  have bx := (Box4.new w 24 0 0 0 0)
  have q0 := (hb3.cell (p := ⟨w.heap.size, 0, none⟩) (Nat.lt_succ_self _)).trans bx.c0
  have q1 := (hb3.cell (p := ⟨w.heap.size, 1, none⟩) (Nat.lt_succ_self _)).trans bx.c1
  have q2 := (hb3.cell (p := ⟨w.heap.size, 2, none⟩) (Nat.lt_succ_self _)).trans bx.c2
  have q3 := (hb3.cell (p := ⟨w.heap.size, 3, none⟩) (Nat.lt_succ_self _)).trans bx.c3
  have qz := fun o => (hb3.frozen (p := ⟨w.heap.size, o, none⟩) (Nat.lt_succ_self _)).trans (bx.fz o)
  clear HS hS2 hk2 hb2 bx
  go_wp2
  exact bodyPost_ret (v := .agg #[.int .i64 x0, .int .i64 x1, .int .i64 x2, .int .i64 x3]) (by simp [results, Try.results10, go_sem, q0, q1, q2, q3]) rfl ⟨x0, x1, x2, x3, rfl, (((((((Below.refl _ _).alloc (Nat.le_refl _) _).trans (hb3.mono (by omega))).setCell (Nat.le_refl _) _).setCell (Nat.le_refl _) _).setCell (Nat.le_refl _) _).setCell (Nat.le_refl _) _)⟩
end Go.Proofs.Ytbpndigccieaiaa
