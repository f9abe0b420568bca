/- The tables lie in their variable, in any world whose listed variables read as the text lays them. -/
import Derived.Test.YtbefefmfpenkkaaGreatDoorTab
namespace Go.Proofs.YtbefefmfpenkkaaGreatDoor
open Go.ChangeShapes Go.WideShapes Go.ChangeAt Go.RowKit
theorem tab_at {r : List (String × DataW Unit)} {W : World} (h : laidMet Tryz.prog (("loop.example/g00096/impl.tables", Rows.laid_loop_example_g00096_impl_tables) :: r) W) : TablesAt W := by
  obtain ⟨ps, ⟨g0, t0, cs0, f0, p0, q0, hg0, ht0, hv0, hd0, _, _⟩, _, _⟩ := h
  obtain rfl := Option.some.inj (gTab.symm.trans hg0)
  obtain rfl := Option.some.inj (tTab.symm.trans ht0)
  rw [laid_is] at hd0
  obtain ⟨xs, m, rfl, hx, hlen, hn, hel⟩ := DataW.trod_array Tryz.underlying97 hd0
  rw [cTab] at hlen
  rw [cKind] at hel
  simp only [Prod.mk.injEq, DataW.agg.injEq] at hx
  have hx1 := hx.1
  intro k h1 h7
  have hk : (xs.map (·.1))[k]? = some (kindD k) := by
    rw [← hx1]
    obtain rfl | rfl | rfl | rfl | rfl | rfl | rfl : k = 1 ∨ k = 2 ∨ k = 3 ∨ k = 4 ∨ k = 5 ∨ k = 6 ∨ k = 7 := by omega
    all_goals rfl
  rw [List.getElem?_map] at hk
  obtain ⟨⟨d, p⟩, hxk, hd⟩ := Option.map_eq_some_iff.1 hk
  simp only at hd
  subst hd
  have h2 := hel k (by omega)
  rw [hxk] at h2
  have hne : rowsK k ≠ [] := by
    obtain rfl | rfl | rfl | rfl | rfl | rfl | rfl : k = 1 ∨ k = 2 ∨ k = 3 ∨ k = 4 ∨ k = 5 ∨ k = 6 ∨ k = 7 := by omega
    all_goals (intro e; cases e)
  obtain ⟨b, off, cap, hcs, hc1, hc2, hb, hR⟩ := kind_at hne h2
  have c0 := World.var?_cell hg0 hv0 (k * 2)
  have c1 := World.var?_cell hg0 hv0 (k * 2 + 1)
  have g0 : cs0.toList[k * 2]? = some (.string (bs (nameK k))) := by
    have := congrArg (·[0]?) hcs
    simpa [List.getElem?_take, List.getElem?_drop] using this
  have g1 : cs0.toList[k * 2 + 1]? = some (.slice (some ⟨b, off, none⟩) (rowsK k).length cap) := by
    have := congrArg (·[1]?) hcs
    simpa [List.getElem?_take, List.getElem?_drop] using this
  simp only [Array.getElem?_toList] at g0 g1
  exact ⟨c0.trans g0, b, off, cap, c1.trans g1, hc1, hc2, hb, hR⟩
end Go.Proofs.YtbefefmfpenkkaaGreatDoor
