/- Texts of ours put together: SRowT. -/
import Derived.Test.YtjmkdpnoihpfoaaGreatDoorG00
import Derived.Test.YtjmkdpnoihpfoaaGreatDoorRows
import Derived.WalkKit
import Derived.ProofKit
import Derived.OpenShut
import Derived.ShutString
import Derived.ChangeOld
import Derived.Below
import Derived.WalkLawsBesides
import Derived.WalkSpells
import Derived.Deep.Light
import Derived.Handy
import Derived.Deep.QuietTactic
import Derived.BigQuiet
import Derived.Deep.RegionHeld3
import Derived.Laws.BytesArg
namespace Go.Proofs.YtjmkdpnoihpfoaaGreatDoor
open Go.ChangeShapes Go.WideShapes Go.ChangeAt Go.RowKit
/-- A list of strings that lies in block g from n₀ on, or is empty. -/
structure SRow (W : World) (n₀ g : Nat) (ad : Option Addr) (T : List ByteArray) : Prop where
  at_ : 0 < T.length → ad = some ⟨g, 0, none⟩
  base : 0 < T.length → n₀ ≤ g
  cell : ∀ i, i < T.length → W.cell? ⟨g, i, none⟩ = some (.string (T[i]?.getD ⟨#[]⟩))
  fz : 0 < T.length → ∀ o, W.frozen? ⟨g, o, none⟩ = false
theorem SRow.keep {W W' : World} {n₀ g B : Nat} {ad : Option Addr} {T : List ByteArray} (h : SRow W n₀ g ad T) (hk : Keep B W W') (hB : 0 < T.length → g ≠ B) : SRow W' n₀ g ad T :=
  ⟨h.at_, h.base, fun i hi => hk.cell (h.cell i hi) (hB (by omega)), fun g0 o => (hk.frozen (cell_lt (h.cell 0 g0)) o (hB g0)).trans (h.fz g0 o)⟩
theorem SRow.below {W W' : World} {n₀ g : Nat} {ad : Option Addr} {T : List ByteArray} (h : SRow W n₀ g ad T) (hb : Below W.heap.size W W') : SRow W' n₀ g ad T :=
  h.keep (Keep.of_below (B := g + 1) hb) (fun _ => by omega)
theorem SRow.of_owns {W : World} {n₀ : Nat} {v : Value} {T : List ByteArray} (h : W.ownsRow n₀ 9 1 v T.length (T.map Value.string)) : ∃ g ad cap, v = .slice ad T.length cap ∧ SRow W n₀ g ad T := by
  rcases h.2 with ⟨rfl, e⟩ | ⟨g, cap, cur, rfl, hb, hgb, _, _, _, htk⟩
  · exact ⟨0, none, 0, by rw [e], ⟨fun h => by omega, fun h => by omega, fun i hi => by omega, fun h => by omega⟩⟩
  · refine ⟨g, _, cap, rfl, ⟨fun _ => rfl, fun _ => hb, fun i hi => ?_, fun _ o => by simp [World.frozen?, hgb]⟩⟩
    have h1 : (cur.toList.take (T.length * 1))[i]? = (T.map Value.string)[i]? := by rw [htk]
    rw [List.getElem?_take_of_lt (by omega)] at h1
    simp [World.cell?, hgb, List.getElem?_eq_getElem hi] at h1 ⊢
    rw [h1]
end Go.Proofs.YtjmkdpnoihpfoaaGreatDoor
