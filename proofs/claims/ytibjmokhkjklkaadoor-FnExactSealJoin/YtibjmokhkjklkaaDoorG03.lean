/- Texts of ours put together: EvW, HxP. -/
import Derived.Test.YtibjmokhkjklkaaDoorRows
import Derived.Test.YtibjmokhkjklkaaDoorG00
import Derived.OpenShut
import Derived.Stop.Joined
import Derived.MakeChecks
import Derived.LaidLaws
import Derived.Test.YtibjmokhkjklkaaDoorG01
import Derived.Lib.Builder
namespace Go.Proofs.YtibjmokhkjklkaaDoor
open Go.ChangeShapes Go.WideShapes Go.ChangeAt Go.RowKit
/-- The word of each kind. -/
def evW : Nat → ByteArray
  | 1 => ⟨#[112, 97, 114, 116, 110, 101, 114]⟩
  | 2 => ⟨#[99, 114, 111, 115, 115]⟩
  | 3 => ⟨#[116, 97, 107, 101]⟩
  | 4 => ⟨#[110, 101, 120, 116]⟩
  | _ => ⟨#[]⟩
/-- What the variable of words holds. -/
def WrdAt (w : World) : Prop := ∀ k, k ≤ 4 → w.cell? ⟨0, k, none⟩ = some (.string (evW k))
theorem WrdAt.below {w w' : World} (h : WrdAt w) (hb : Below w.heap.size w w') : WrdAt w' := fun k hk => (hb.cell (World.block_lt_of_cell? _ _ (h k hk))).trans (h k hk)
theorem gWrd : Tryd.prog.globalNamed "loop.example/g00096/impl.eventWords" = some 0 := by kernel_rfl
theorem tWrd : (Tryd.prog.globals[0]?).map (·.type) = some 104 := by kernel_rfl
theorem cWrd : Tryd.prog.cellsOf 104 = 5 := by kernel_rfl
theorem cStrW : Tryd.prog.cellsOf 9 = 1 := by kernel_rfl
theorem wrd_laid {W : World} (h : laidMetH Tryd.prog [("loop.example/g00096/impl.eventWords", Rows.laid_loop_example_g00096_impl_eventWords)] W) : WrdAt W := by
  rw [MakeChecks.laidMetH_plain _ _ _ (by kernel_rfl)] at h
  obtain ⟨ps, ⟨g0, t0, cs0, f0, p0, q0, hg0, ht0, hv0, hd0, _, _⟩, _, _⟩ := h
  obtain rfl := Option.some.inj (gWrd.symm.trans hg0)
  obtain rfl := Option.some.inj (tWrd.symm.trans ht0)
  obtain ⟨xs, m, rfl, hx, hlen, hn, hel⟩ := DataW.trod_array Tryd.underlying104 hd0
  rw [cWrd] at hlen
  rw [cStrW] at hel
  unfold Rows.laid_loop_example_g00096_impl_eventWords at hx
  simp only [Prod.mk.injEq, DataW.agg.injEq] at hx
  have hx1 := hx.1
  intro k h4
  have hk : (xs.map (·.1))[k]? = some (.lit (.string (evW k).data.toList)) := by
    rw [← hx1]
    obtain rfl | rfl | rfl | rfl | rfl : k = 0 ∨ k = 1 ∨ k = 2 ∨ k = 3 ∨ k = 4 := by omega
    all_goals rfl
  rw [List.getElem?_map] at hk
  obtain ⟨⟨d, p⟩, hxk, hd⟩ := Option.map_eq_some_iff.1 hk
  simp only at hd
  subst hd
  have h2 := hel k (by omega)
  rw [hxk] at h2
  obtain ⟨s, e1, e2, _⟩ := DataW.trod_string Tryd.underlying9 h2
  have c0 := World.var?_cell hg0 hv0 k
  have g0 : cs0.toList[k]? = some (.string s) := by
    have := congrArg (·[0]?) e1
    simpa [List.getElem?_take, List.getElem?_drop] using this
  simp only [Array.getElem?_toList] at g0
  have es : s = evW k := by
    simp only [Prod.mk.injEq, DataW.lit.injEq, Lit.string.injEq] at e2
    exact (ByteArray.ext (Array.toList_inj.1 e2.1)).symm
  rw [← es]
  exact c0.trans g0
end Go.Proofs.YtibjmokhkjklkaaDoor
namespace Go.Proofs.YtibjmokhkjklkaaDoor
open Go.ChangeShapes Go.WideShapes Go.ChangeAt Go.RowKit
/-- A digit's letter. -/
def hexD (n : Nat) : Int := if n < 10 then 48 + n else 87 + n
theorem hexD_lt {n : Nat} (h : n < 16) : 48 ≤ hexD n ∧ hexD n ≤ 102 := by unfold hexD; split <;> omega
theorem hexD_mono {i j : Nat} (h : i < j) : hexD i < hexD j := by unfold hexD; split <;> split <;> omega
/-- The two digits of each byte. -/
def hexZ : List UInt8 → List Int
  | [] => []
  | b :: r => hexD (b.toNat / 16) :: hexD (b.toNat % 16) :: hexZ r
theorem hexZ_app (a b : List UInt8) : hexZ (a ++ b) = hexZ a ++ hexZ b := by
  induction a with
  | nil => rfl
  | cons x r ih => simp [hexZ, ih]
theorem hexZ_len (a : List UInt8) : (hexZ a).length = 2 * a.length := by
  induction a with
  | nil => rfl
  | cons x r ih => simp [hexZ, ih]; omega
def hexB (l : List UInt8) : List UInt8 := (hexZ l).map fun z => UInt8.ofNat z.toNat
theorem hexD_byte {n : Nat} (h : n < 16) : ((UInt8.ofNat (hexD n).toNat).toNat : Int) = hexD n := by
  obtain ⟨h1, h2⟩ := hexD_lt h
  rw [UInt8.toNat_ofNat']
  omega
theorem hexB_cells : ∀ l : List UInt8, Lib.byteCells (hexB l) = (hexZ l).map fun z => Value.int .u8 z
  | [] => rfl
  | b :: r => by
    have hb := b.toNat_lt
    have h1 := hexD_byte (n := b.toNat / 16) (by omega)
    have h2 := hexD_byte (n := b.toNat % 16) (by omega)
    have ih := hexB_cells r
    unfold Lib.byteCells hexB at ih ⊢
    simp only [hexZ, List.map_cons, List.cons.injEq]
    refine ⟨?_, ?_, ih⟩
    · exact congrArg (Value.int .u8) h1
    · exact congrArg (Value.int .u8) h2
/-- What Hex tells. -/
def hexT (t : ByteArray) : ByteArray := if 4000 < t.size then ⟨#[]⟩ else ⟨(hexB t.data.toList).toArray⟩
end Go.Proofs.YtibjmokhkjklkaaDoor
