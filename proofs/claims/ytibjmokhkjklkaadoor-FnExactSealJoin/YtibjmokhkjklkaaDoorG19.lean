/- Texts of ours put together: SlP0. -/
import Derived.Test.YtibjmokhkjklkaaDoorG00
namespace Go.Proofs.YtibjmokhkjklkaaDoor
open Go.ChangeShapes Go.WideShapes Go.ChangeAt Go.RowKit
/-- One byte more. -/
def stepZ (n : Int) (b : UInt8) : Int := (n * 257 + (b.toNat : Int) + 1) % 4294967291
def sumZ (x : Int) (l : List UInt8) : Int := l.foldl stepZ x
theorem sumZ_next (x : Int) {l : List UInt8} {k : Nat} {b : UInt8} (h : l[k]? = some b) : sumZ x (l.take (k + 1)) = stepZ (sumZ x (l.take k)) b := by
  unfold sumZ
  rw [List.take_add_one, h, List.foldl_append]
  rfl
theorem stepZ_bd (n : Int) (b : UInt8) : 0 ≤ stepZ n b ∧ stepZ n b < 4294967291 := ⟨Int.emod_nonneg _ (by omega), Int.emod_lt_of_pos _ (by omega)⟩
theorem sumZ_bd {x : Int} (hx : 0 ≤ x ∧ x < 4294967291) (l : List UInt8) : 0 ≤ sumZ x l ∧ sumZ x l < 4294967291 := by
  induction l generalizing x with
  | nil => exact hx
  | cons b r ih => exact ih (stepZ_bd x b)
/-- What SealSum tells. -/
def sealT (x : Int) (t : ByteArray) : Int := if x < 1 ∨ 4294967291 ≤ x ∨ 20000 < t.size then 0 else if sumZ x t.data.toList = 0 then 1 else sumZ x t.data.toList
theorem sealT_no {x : Int} {t : ByteArray} (h : x < 1 ∨ 4294967291 ≤ x ∨ 20000 < t.size) : sealT x t = 0 := if_pos h
theorem sealT_yes {x : Int} {t : ByteArray} (h1 : 1 ≤ x) (h2 : x < 4294967291) (h3 : t.size ≤ 20000) : sealT x t = if sumZ x t.data.toList = 0 then 1 else sumZ x t.data.toList := if_neg (by omega)
theorem sealT_bd {x : Int} {t : ByteArray} (h1 : 1 ≤ x) (h2 : x < 4294967291) (h3 : t.size ≤ 20000) : 1 ≤ sealT x t ∧ sealT x t < 4294967291 := by
  rw [sealT_yes h1 h2 h3]
  have := sumZ_bd (x := x) ⟨by omega, h2⟩ t.data.toList
  split <;> omega
theorem sealT_lt (x : Int) (t : ByteArray) : 0 ≤ sealT x t ∧ sealT x t < 4294967291 := by
  by_cases h : x < 1 ∨ 4294967291 ≤ x ∨ 20000 < t.size
  · rw [sealT_no h]; omega
  · have := sealT_bd (x := x) (t := t) (by omega) (by omega) (by omega)
    omega
end Go.Proofs.YtibjmokhkjklkaaDoor
