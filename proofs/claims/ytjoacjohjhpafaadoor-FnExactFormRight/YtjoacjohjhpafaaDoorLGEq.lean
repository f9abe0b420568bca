/- The copy and the comparison at the end of an exact law over a segment, with all that stands there. -/
import Derived.Test.YtjoacjohjhpafaaDoorLG
import Derived.Test.YtjoacjohjhpafaaDoorToRow
import Derived.Test.YtjoacjohjhpafaaDoorEqRow
namespace Go.Proofs.YtjoacjohjhpafaaDoor
open Go.ChangeShapes Go.WideShapes Go.ChangeAt Go.RowKit
theorem LG.drew {A t : Nat} {w W : World} {tag : ByteArray} {v : Value} {es : List (List ByteArray)} (h : LG A t w W tag v es) : LG A t w W.drew tag v es := h.below (Below.refl _ _).drew
theorem toG_lg {A t B t' : Nat} {w W : World} {tag : ByteArray} {v u : Value} {es : List (List ByteArray)} (hE : BdE 1048576 es) (h : LG A t w W tag v es) (k : LG B t' w W tag u es) :
    Calls Tryd.prog 41 #[.agg #[.string tag, v]] W fun e w' => ∃ v', e = .returned (.agg #[.string tag, v']) ∧ RowE w' v' es ∧ LG A t w w' tag v es ∧ LG B t' w w' tag u es ∧ w'.cell? ⟨A, 0, none⟩ = some (.string tag) ∧ w'.cell? ⟨A, 1, none⟩ = some v ∧ w'.cell? ⟨B, 0, none⟩ = some (.string tag) ∧ w'.cell? ⟨B, 1, none⟩ = some u := by
  refine (toG_any tag v es W h.row hE).mono ?_
  rintro e w' ⟨v', rfl, hO, hb⟩
  have h' := h.below hb
  have k' := k.below hb
  exact ⟨v', rfl, hO.row hE, h', k', h'.c0, h'.c1, k'.c0, k'.c1⟩
theorem eqG_lg {A t B t' : Nat} {w W : World} {tag : ByteArray} {v u v' : Value} {es : List (List ByteArray)} (hr : RowE W v' es) (h : LG A t w W tag v es) (k : LG B t' w W tag u es) :
    Calls Tryd.prog 42 #[.agg #[.string tag, u], .agg #[.string tag, v']] W fun e w' => e = .returned (.bool true) ∧ LG A t w w' tag v es ∧ LG B t' w w' tag u es ∧ w'.cell? ⟨A, 0, none⟩ = some (.string tag) ∧ w'.cell? ⟨A, 1, none⟩ = some v ∧ w'.cell? ⟨B, 0, none⟩ = some (.string tag) ∧ w'.cell? ⟨B, 1, none⟩ = some u := by
  refine (eqG_any tag u v' es W k.row hr).mono ?_
  rintro e w' ⟨rfl, hb⟩
  have h' := h.below hb
  have k' := k.below hb
  exact ⟨rfl, h', k', h'.c0, h'.c1, k'.c0, k'.c1⟩
end Go.Proofs.YtjoacjohjhpafaaDoor
