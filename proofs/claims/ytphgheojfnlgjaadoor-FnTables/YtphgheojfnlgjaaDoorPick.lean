/- Contracts of the model's pick, and of a number drawn below any positive one. -/
import Derived.Test.YtphgheojfnlgjaaDoorSrcNew
import Derived.Deep.CutRange
import Derived.Deep.QuietTactic
import Derived.BigQuiet
namespace Go.Proofs.YtphgheojfnlgjaaDoor
open Go.ChangeShapes Go.WideShapes Go.ChangeAt Go.RowKit
set_option maxHeartbeats 1000000 in
theorem pick_any (B g n cap : Nat) (T : List ByteArray) (w : World) (hn : 1 < n) (hn2 : n ≤ 1000) (hT : T.length = n) (hg : g ≠ B) (hc : ∀ (i : Nat) (t : ByteArray), T[i]? = some t → w.cell? ⟨g, i, none⟩ = some (.string t)) (hS : IsSrc B w) :
    Calls Tryd.prog 23 #[.pointer (some ⟨B, 0, none⟩), .slice (some ⟨g, 0, none⟩) n cap] w fun e w' => ∃ s, e = .returned (.string s) ∧ s ∈ T ∧ IsSrc B w' ∧ Keep B w w' := by
  have HS : Hid (IsSrc B w ∧ ∀ (i : Nat) (t : ByteArray), T[i]? = some t → w.cell? ⟨g, i, none⟩ = some (.string t)) := ⟨hS, hc⟩
  clear hS hc
  go_enter Tryd.func23, Tryd.ntmps23
  go_wp2_with fail
  refine (n_any B (n : Int) _ (by omega) (by omega) HS.out.1).mono ?_
  rintro e w2 ⟨x, rfl, hx0, hx1, hs2, hk2⟩
  obtain ⟨i, rfl⟩ : ∃ i : Nat, x = (i : Int) := ⟨x.toNat, by omega⟩
  have hi : i < T.length := by omega
  have hc2 : w2.cell? ⟨g, i, none⟩ = some (.string T[i]) := hk2.cell (HS.out.2 i _ (List.getElem?_eq_getElem hi)) hg
  have hlt' : (i : Int) < (n : Int) := by omega
  have HN : Hid (IsSrc B w2 ∧ Keep B w w2 ∧ T[i] ∈ T) := ⟨hs2, hk2, List.getElem_mem hi⟩
  clear hs2 hk2
  go_wp2
  go_ret
  exact ⟨_, rfl, HN.out.2.2, HN.out.1, HN.out.2.1⟩
set_option maxHeartbeats 1000000 in
theorem n_pos (B : Nat) (most : Int) (w : World) (hm : 1 ≤ most) (hm2 : most ≤ 9223372036854775807) (hS : IsSrc B w) :
    Calls Tryd.prog 12 #[.pointer (some ⟨B, 0, none⟩), .int .i64 most] w (Drawn B w most) := by
  by_cases h1 : 1 < most
  · exact n_any B most w h1 hm2 hS
  · obtain rfl : most = 1 := by omega
    have HS : Hid (IsSrc B w) := hS
    clear hS
    go_enter Tryd.func12, Tryd.ntmps12
    go_wp2
    go_ret
    exact ⟨0, rfl, by omega, by omega, HS.out, Keep.refl _ _⟩
end Go.Proofs.YtphgheojfnlgjaaDoor
