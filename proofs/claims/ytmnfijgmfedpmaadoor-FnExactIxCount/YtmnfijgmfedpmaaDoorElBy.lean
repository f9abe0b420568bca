/- Contract of impl.elementBy: an element in a row of its own. -/
import Derived.Test.YtmnfijgmfedpmaaDoorShCloneS
import Derived.RangeFuncBox
import Derived.Test.YtmnfijgmfedpmaaDoorOwnB
namespace Go.Proofs.YtmnfijgmfedpmaaDoor
open Go.ChangeShapes Go.WideShapes Go.ChangeAt Go.RowKit
set_option maxHeartbeats 1000000 in
theorem elementBy_any (v : Value) (ss : List ByteArray) (w : World) (h : RowS w v ss) (hp : 0 < ss.length) (hl : ss.length ≤ 1048576) :
    Calls Tryd.prog 82 #[v] w fun e w' => ∃ v', e = .returned (.agg #[v']) ∧ w'.ownsRow w.heap.size 9 1 v' ss.length (ss.map Value.string) ∧ Below w.heap.size w w' := by
  have hb0 : Below w.heap.size w (w.alloc (.cells #[.slice none 0 0] 96)) := (Below.refl _ _).alloc (Nat.le_refl _) _
  obtain ⟨a, cap, rfl, hc⟩ := (h.below hb0).shape
  obtain ⟨b, o, rfl, hcell⟩ := hc (by intro e; rw [e] at hp; simp at hp)
  have HC : Hid (∀ j, j < ss.length → (w.alloc (.cells #[.slice none 0 0] 96)).cell? ⟨b, o + j, none⟩ = some (.string (ss.getD j ByteArray.empty))) := fun j hj => by
    rw [hcell j ss[j] (List.getElem?_eq_getElem hj)]
    simp [List.getD, List.getElem?_eq_getElem hj]
  clear hcell hc h
  go_enter Tryd.func82, Tryd.ntmps82
  go_wp2_with fail
  refine (cloneS_any b o ss.length cap ss _ (Nat.le_refl _) (by omega) HC.out).mono ?_
  rintro e w1 ⟨v', rfl, hrow, _, hb1⟩
  rw [List.take_length] at hrow
  have hs1 : w.heap.size + 1 ≤ w1.heap.size := by have := hb1.size; simpa using this
  have rx : w1.heap[w.heap.size]? = some (.cells #[.slice none 0 0] 96) := (hb1.block w.heap.size (by simp)).trans (World.alloc_heap_new w _)
  have c1 : w1.cell? ⟨w.heap.size, 0, none⟩ = some (.slice none 0 0) := by simp [World.cell?, rx]
  have z1 : w1.frozen? ⟨w.heap.size, 0, none⟩ = false := by simp [World.frozen?, rx]
  obtain ⟨A', L', C', hv'⟩ : ∃ A' L' C', v' = .slice A' L' C' := by
    rcases hrow.2 with ⟨rfl, _⟩ | ⟨g, cap, cur, rfl, _⟩
    · exact ⟨_, _, _, rfl⟩
    · exact ⟨_, _, _, rfl⟩
  subst hv'
  have HR : Hid (w1.ownsRow (w.alloc (.cells #[.slice none 0 0] 96)).heap.size 9 1 (.slice A' L' C') ss.length (ss.map Value.string) ∧ Below w.heap.size w w1) := ⟨hrow, hb0.trans (hb1.mono (by simp))⟩
  clear hrow hb0 hb1 rx HC
  go_wp2
  refine bodyPost_ret (v := .agg #[.slice A' L' C']) (by simp [results, Tryd.results82, go_sem, c1]) rfl ⟨_, rfl, ?_, HR.out.2.setCell (Nat.le_refl _) _⟩
  have h2 := row_mono HR.out.1 (show w.heap.size ≤ _ by simp)
  exact h2.kept (grownBy_setCell' w1 w.heap.size _) (.inr (row_lt HR.out.1 (show w.heap.size < (w.alloc (.cells #[.slice none 0 0] 96)).heap.size by simp)).symm)
end Go.Proofs.YtmnfijgmfedpmaaDoor
