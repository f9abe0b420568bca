/- Rows of bytes: a text made of one; a box of one cell. -/
import Derived.Test.YtphgheojfnlgjaaDoorRows
import Derived.Test.YtphgheojfnlgjaaDoorOwnB
import Derived.Laws.BytesArg
import Derived.Maps.AppendAt
import Derived.Shelf.Abstract
namespace Go.Proofs.YtphgheojfnlgjaaDoor
open Go.ChangeShapes Go.WideShapes Go.ChangeAt Go.RowKit Go.Shelf
theorem info5 : (Tryd.prog.info? 5).map (fun i => (i.zero, i.size, i.bytes)) = some (some (.int .u8 0), 1, 1) := by kernel_rfl
theorem conv_row {W : World} {n₀ : Nat} {v : Value} {xs : List Int} (h : W.ownsRow n₀ 5 1 v xs.length (xs.map (Value.int .u8))) : (convert 22 9 v).run Tryd.prog W = .ok (.string (strOfNums xs)) W := by
  rcases h.2 with ⟨rfl, e⟩ | ⟨g, cap, cur, rfl, _, hgb, _, _, hcs, htk⟩
  · have : xs = [] := List.length_eq_zero_iff.1 e
    subst this
    exact run_convert_bytes_nil W 22 5 Tryd.underlying22 Tryd.underlying5 0 0 9 Tryd.underlying9
  · refine run_convert_bytes_arg W 22 5 Tryd.underlying22 Tryd.underlying5 g 0 xs.length cap xs rfl (fun i hi => ?_) 9 Tryd.underlying9
    have h1 : (cur.toList.take (xs.length * 1))[i]? = (xs.map (Value.int .u8))[i]? := by rw [htk]
    rw [List.getElem?_take_of_lt (by omega)] at h1
    simp [World.cell?, hgb, List.getElem?_eq_getElem hi] at h1 ⊢
    rw [h1]
theorem cell_one_at (w : World) (x : Value) (t : TypeId) (g : Nat) (hg : g = w.heap.size) : ∀ j u, [x][j]? = some u → (w.alloc (.cells #[x] t)).cell? ((⟨g, 0, none⟩ : Addr).add j) = some u := by
  subst hg
  exact cell_one_new w x t
theorem row_not_obj {W : World} {n₀ e k : Nat} {v : Value} {xs : List Value} (h : W.ownsRow n₀ e 1 v k xs) {b : Nat} {c : Array Value} {t : TypeId} (hb : W.heap[b]? = some (.cells c t)) (hne : t ≠ e) : some b ≠ v.ownBlock := by
  intro e1
  rcases h.2 with ⟨rfl, _⟩ | ⟨g, cap, cur, rfl, _, hgb, _⟩
  · simp [Value.ownBlock] at e1
  · obtain rfl : b = g := by simpa [Value.ownBlock] using e1
    rw [hb] at hgb
    cases hgb
    exact hne rfl
end Go.Proofs.YtphgheojfnlgjaaDoor
