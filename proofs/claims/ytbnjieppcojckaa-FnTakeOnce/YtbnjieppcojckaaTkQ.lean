/- The boxes of PartnerTake, its model's too. -/
import Derived.Test.YtbnjieppcojckaaTakeP
namespace Go.Proofs.Ytbnjieppcojckaa
open Go.ChangeShapes Go.WideShapes Go.ChangeAt Go.RowKit
/-- The boxes of the argument and of the answer, and the argument's list. -/
structure QR (w W : World) (p : Ptn) (A : Option Addr) (C : Nat) : Prop where
  bel : Below w.heap.size w W
  pb : W.heap[w.heap.size]? = some (.cells #[.string p.name, .int .i64 p.low, .int .i64 p.next, .slice A p.seen.length C] 30)
  rb : W.heap[w.heap.size + 1]? = some (.cells #[.string ⟨#[]⟩, .int .i64 0, .int .i64 0, .slice none 0 0, .int .i64 0, .int .i64 0, .int .i64 0, .int .i64 0, .int .i64 0] 36)
  row : RPt W (.slice A p.seen.length C) p
theorem QR.below {w W W' : World} {p : Ptn} {A : Option Addr} {C : Nat} (h : QR w W p A C) (hb : Below W.heap.size W W') : QR w W' p A C :=
  ⟨h.bel.trans (hb.mono h.bel.size), (hb.block _ (Array.getElem?_eq_some_iff.1 h.pb).1).trans h.pb, (hb.block _ (Array.getElem?_eq_some_iff.1 h.rb).1).trans h.rb, h.row.below hb⟩
theorem QR.lt {w W : World} {p : Ptn} {A : Option Addr} {C : Nat} (h : QR w W p A C) : w.heap.size + 1 < W.heap.size := (Array.getElem?_eq_some_iff.1 h.rb).1
theorem QR.pcells {w W : World} {p : Ptn} {A : Option Addr} {C : Nat} (h : QR w W p A C) : W.cell? ⟨w.heap.size, 0, none⟩ = some (.string p.name) ∧ W.cell? ⟨w.heap.size, 1, none⟩ = some (.int .i64 p.low) ∧ W.cell? ⟨w.heap.size, 2, none⟩ = some (.int .i64 p.next) ∧ W.cell? ⟨w.heap.size, 3, none⟩ = some (.slice A p.seen.length C) := by
  have h1 := h.pb
  refine ⟨?_, ?_, ?_, ?_⟩ <;> simp [World.cell?, h1]
theorem QR.rcells {w W : World} {p : Ptn} {A : Option Addr} {C : Nat} (h : QR w W p A C) : (W.cell? ⟨w.heap.size + 1, 0, none⟩ = some (.string ⟨#[]⟩) ∧ W.cell? ⟨w.heap.size + 1, 1, none⟩ = some (.int .i64 0) ∧ W.cell? ⟨w.heap.size + 1, 2, none⟩ = some (.int .i64 0) ∧ W.cell? ⟨w.heap.size + 1, 3, none⟩ = some (.slice none 0 0) ∧ W.cell? ⟨w.heap.size + 1, 4, none⟩ = some (.int .i64 0) ∧ W.cell? ⟨w.heap.size + 1, 5, none⟩ = some (.int .i64 0) ∧ W.cell? ⟨w.heap.size + 1, 6, none⟩ = some (.int .i64 0) ∧ W.cell? ⟨w.heap.size + 1, 7, none⟩ = some (.int .i64 0) ∧ W.cell? ⟨w.heap.size + 1, 8, none⟩ = some (.int .i64 0)) ∧ ∀ o, W.frozen? ⟨w.heap.size + 1, o, none⟩ = false := by
  have h1 := h.rb
  refine ⟨⟨?_, ?_, ?_, ?_, ?_, ?_, ?_, ?_, ?_⟩, fun o => ?_⟩ <;> simp [World.cell?, World.frozen?, h1]
theorem set9_below {w W : World} (h : Below w.heap.size w W) {R : Nat} (hR : w.heap.size ≤ R) (x0 x1 x2 x3 x4 x5 x6 x7 x8 : Value) : Below w.heap.size w (((((((((W.setCell ⟨R, 0, none⟩ x0).setCell ⟨R, 1, none⟩ x1).setCell ⟨R, 2, none⟩ x2).setCell ⟨R, 3, none⟩ x3).setCell ⟨R, 4, none⟩ x4).setCell ⟨R, 5, none⟩ x5).setCell ⟨R, 6, none⟩ x6).setCell ⟨R, 7, none⟩ x7).setCell ⟨R, 8, none⟩ x8) :=
  (((((((((h.setCell hR _).setCell hR _).setCell hR _).setCell hR _).setCell hR _).setCell hR _).setCell hR _).setCell hR _).setCell hR _)
theorem set9_lsn {W : World} {b R : Nat} {u : Value} {l : List Sn} (h : LSn b W u l) (hne : b ≠ R) (x0 x1 x2 x3 x4 x5 x6 x7 x8 : Value) : LSn b (((((((((W.setCell ⟨R, 0, none⟩ x0).setCell ⟨R, 1, none⟩ x1).setCell ⟨R, 2, none⟩ x2).setCell ⟨R, 3, none⟩ x3).setCell ⟨R, 4, none⟩ x4).setCell ⟨R, 5, none⟩ x5).setCell ⟨R, 6, none⟩ x6).setCell ⟨R, 7, none⟩ x7).setCell ⟨R, 8, none⟩ x8) u l := by
  refine h.of_block fun _ => ?_
  rw [Below.heap_setCell _ _ _ _ (show b ≠ R from hne), Below.heap_setCell _ _ _ _ (show b ≠ R from hne), Below.heap_setCell _ _ _ _ (show b ≠ R from hne), Below.heap_setCell _ _ _ _ (show b ≠ R from hne), Below.heap_setCell _ _ _ _ (show b ≠ R from hne), Below.heap_setCell _ _ _ _ (show b ≠ R from hne), Below.heap_setCell _ _ _ _ (show b ≠ R from hne), Below.heap_setCell _ _ _ _ (show b ≠ R from hne), Below.heap_setCell _ _ _ _ (show b ≠ R from hne)]
end Go.Proofs.Ytbnjieppcojckaa
