/- Digits to the base 16: pure. -/
import Derived.Test.YtibjmokhkjklkaaDoorFlat0
import Derived.Lib.Builder
namespace Go.Proofs.YtibjmokhkjklkaaDoor
open Go.ChangeShapes Go.WideShapes Go.ChangeAt Go.RowKit
/-- A digit's letter. -/
def hexD (n : Nat) : Int := if n < 10 then 48 + n else 87 + n
theorem hexD_lt {n : Nat} (h : n < 16) : 48 ≤ hexD n ∧ hexD n ≤ 102 := by unfold hexD; split <;> omega
theorem hexD_mono {i j : Nat} (h : i < j) : hexD i < hexD j := by unfold hexD; split <;> split <;> omega
/-- The two digits of each byte. -/
def hexZ : List UInt8 → List Int
  | [] => []
  | b :: r => hexD (b.toNat / 16) :: hexD (b.toNat % 16) :: hexZ r
theorem hexZ_app (a b : List UInt8) : hexZ (a ++ b) = hexZ a ++ hexZ b := by
  induction a with
  | nil => rfl
  | cons x r ih => simp [hexZ, ih]
theorem hexZ_len (a : List UInt8) : (hexZ a).length = 2 * a.length := by
  induction a with
  | nil => rfl
  | cons x r ih => simp [hexZ, ih]; omega
def hexB (l : List UInt8) : List UInt8 := (hexZ l).map fun z => UInt8.ofNat z.toNat
theorem hexD_byte {n : Nat} (h : n < 16) : ((UInt8.ofNat (hexD n).toNat).toNat : Int) = hexD n := by
  obtain ⟨h1, h2⟩ := hexD_lt h
  rw [UInt8.toNat_ofNat']
  omega
theorem hexB_cells : ∀ l : List UInt8, Lib.byteCells (hexB l) = (hexZ l).map fun z => Value.int .u8 z
  | [] => rfl
  | b :: r => by
    have hb := b.toNat_lt
    have h1 := hexD_byte (n := b.toNat / 16) (by omega)
    have h2 := hexD_byte (n := b.toNat % 16) (by omega)
    have ih := hexB_cells r
    unfold Lib.byteCells hexB at ih ⊢
    simp only [hexZ, List.map_cons, List.cons.injEq]
    refine ⟨?_, ?_, ih⟩
    · exact congrArg (Value.int .u8) h1
    · exact congrArg (Value.int .u8) h2
/-- What Hex tells. -/
def hexT (t : ByteArray) : ByteArray := if 4000 < t.size then ⟨#[]⟩ else ⟨(hexB t.data.toList).toArray⟩
end Go.Proofs.YtibjmokhkjklkaaDoor
