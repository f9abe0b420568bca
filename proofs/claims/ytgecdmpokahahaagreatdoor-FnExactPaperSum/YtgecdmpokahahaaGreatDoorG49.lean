/- Texts of ours put together: LaidErrs, TabLaid. -/
import Derived.Test.YtgecdmpokahahaaGreatDoorG01
import Derived.MakeChecks
import Derived.LaidLaws
import Derived.Stop.Joined
import Derived.Stop.LaidErr
import Derived.Test.YtgecdmpokahahaaGreatDoorG07
namespace Go.Proofs.YtgecdmpokahahaaGreatDoor
open Go.ChangeShapes Go.WideShapes Go.ChangeAt Go.RowKit
theorem iface_of_trod {P : Program} {w : World} {sp : Nat → Bool} {fuel : Nat} {t : TypeId} {cs : List Value} {ms : Array (String × TypeId)} {x : DataW Unit × List MemPlace} (ht : P.underlying t = some (.interface ms))
    (h : DataW.trod (fun _ => ()) P w 0 sp false fuel t cs = some x) : ∃ ev, cs = [ev] ∧ (ev = .nilIface ∨ ∃ te pe, ev = .iface te pe) := by
  cases fuel with
  | zero => simp [DataW.trod] at h
  | succ n =>
    unfold DataW.trod at h
    rw [ht] at h
    split at h <;> simp_all
theorem err_at {n : String} {d : DataW Unit} {r : List (String × DataW Unit)} {W : World} {g : Nat} (h : laidMet Tryz.prog ((n, d) :: r) W) (hg : Tryz.prog.globalNamed n = some g) (ht : (Tryz.prog.globals[g]?).map (·.type) = some 127) : ErrAt W g := by
  obtain ⟨ps, ⟨g0, t0, cs0, f0, p0, q0, hg0, ht0, hv0, hd0, _, _⟩, _, _⟩ := h
  obtain rfl := Option.some.inj (hg.symm.trans hg0)
  obtain rfl := Option.some.inj (ht.symm.trans ht0)
  obtain ⟨ev, e, hev⟩ := iface_of_trod Tryz.underlying127 hd0
  refine ⟨ev, ?_, hev⟩
  have := World.var?_cell hg0 hv0 0
  rw [this, ← Array.getElem?_toList, e]
  rfl
theorem gSyn : Tryz.prog.globalNamed "strconv.ErrSyntax" = some 3 := by kernel_rfl
theorem gRng : Tryz.prog.globalNamed "strconv.ErrRange" = some 4 := by kernel_rfl
theorem tSyn : (Tryz.prog.globals[3]?).map (·.type) = some 127 := by kernel_rfl
theorem tRng : (Tryz.prog.globals[4]?).map (·.type) = some 127 := by kernel_rfl
end Go.Proofs.YtgecdmpokahahaaGreatDoor
namespace Go.Proofs.YtgecdmpokahahaaGreatDoor
open Go.ChangeShapes Go.WideShapes Go.ChangeAt Go.RowKit
theorem tab_at {r : List (String × DataW Unit)} {W : World} (h : laidMet Tryz.prog (("loop.example/g00096/impl.tables", Rows.laid_loop_example_g00096_impl_tables) :: r) W) : TablesAt W := by
  obtain ⟨ps, ⟨g0, t0, cs0, f0, p0, q0, hg0, ht0, hv0, hd0, _, _⟩, _, _⟩ := h
  obtain rfl := Option.some.inj (gTab.symm.trans hg0)
  obtain rfl := Option.some.inj (tTab.symm.trans ht0)
  rw [laid_is] at hd0
  obtain ⟨xs, m, rfl, hx, hlen, hn, hel⟩ := DataW.trod_array Tryz.underlying97 hd0
  rw [cTab] at hlen
  rw [cKind] at hel
  simp only [Prod.mk.injEq, DataW.agg.injEq] at hx
  have hx1 := hx.1
  intro k h1 h7
  have hk : (xs.map (·.1))[k]? = some (kindD k) := by
    rw [← hx1]
    obtain rfl | rfl | rfl | rfl | rfl | rfl | rfl : k = 1 ∨ k = 2 ∨ k = 3 ∨ k = 4 ∨ k = 5 ∨ k = 6 ∨ k = 7 := by omega
    all_goals rfl
  rw [List.getElem?_map] at hk
  obtain ⟨⟨d, p⟩, hxk, hd⟩ := Option.map_eq_some_iff.1 hk
  simp only at hd
  subst hd
  have h2 := hel k (by omega)
  rw [hxk] at h2
  have hne : rowsK k ≠ [] := by
    obtain rfl | rfl | rfl | rfl | rfl | rfl | rfl : k = 1 ∨ k = 2 ∨ k = 3 ∨ k = 4 ∨ k = 5 ∨ k = 6 ∨ k = 7 := by omega
    all_goals (intro e; cases e)
  obtain ⟨b, off, cap, hcs, hc1, hc2, hb, hR⟩ := kind_at hne h2
  have c0 := World.var?_cell hg0 hv0 (k * 2)
  have c1 := World.var?_cell hg0 hv0 (k * 2 + 1)
  have g0 : cs0.toList[k * 2]? = some (.string (bs (nameK k))) := by
    have := congrArg (·[0]?) hcs
    simpa [List.getElem?_take, List.getElem?_drop] using this
  have g1 : cs0.toList[k * 2 + 1]? = some (.slice (some ⟨b, off, none⟩) (rowsK k).length cap) := by
    have := congrArg (·[1]?) hcs
    simpa [List.getElem?_take, List.getElem?_drop] using this
  simp only [Array.getElem?_toList] at g0 g1
  exact ⟨c0.trans g0, b, off, cap, c1.trans g1, hc1, hc2, hb, hR⟩
end Go.Proofs.YtgecdmpokahahaaGreatDoor
