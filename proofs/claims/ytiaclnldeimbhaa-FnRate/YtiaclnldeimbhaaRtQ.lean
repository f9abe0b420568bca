/- What a rate is: pure. -/
import Derived.Test.YtiaclnldeimbhaaRtP
namespace Go.Proofs.Ytiaclnldeimbhaa
open Go.ChangeShapes Go.WideShapes Go.ChangeAt Go.RowKit
/-- What a rate is. -/
structure RateIs (g o x : Int) : Prop where
  x0 : 0 ≤ x
  x1 : x ≤ 100
  e : (x == 100) = (g == o)
  m0 : 0 ≤ x * o
  m1 : x * o ≤ 100 * g
  m2 : 100 * g < (x + 1) * o
  m3 : (x + 1) * o ≤ 100 * g + o
theorem rate_is {g o : Int} (hg : 0 ≤ g) (ho : 0 < o) (hl : g ≤ o) : RateIs g o (100 * g / o) := by
  have h0 : 0 ≤ 100 * g / o := Int.ediv_nonneg (by omega) (by omega)
  have h1 : 100 * g / o * o ≤ 100 * g := Int.ediv_mul_le _ (by omega)
  have h2 : 100 * g < (100 * g / o + 1) * o := Int.lt_ediv_add_one_mul_self _ ho
  have h3 : (100 * g / o + 1) * o = 100 * g / o * o + o := by rw [Int.add_mul, Int.one_mul]
  have h4 : 100 * g / o ≤ 100 := by
    refine Int.le_of_mul_le_mul_right (a := o) ?_ ho
    omega
  refine ⟨h0, h4, ?_, Int.mul_nonneg h0 (by omega), h1, h2, by omega⟩
  by_cases hq : g = o
  · have : 100 * g / o = 100 := by rw [hq]; exact Int.mul_ediv_cancel _ (by omega)
    rw [this, hq]
    simp
  · have : ¬ 100 * g / o = 100 := fun e => by
      rw [e] at h1
      omega
    rw [beq_eq_false_iff_ne.2 this, beq_eq_false_iff_ne.2 hq]
end Go.Proofs.Ytiaclnldeimbhaa
