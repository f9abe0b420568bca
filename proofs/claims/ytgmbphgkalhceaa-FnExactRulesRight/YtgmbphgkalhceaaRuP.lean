/- What it means that rules are right: pure. -/
import Derived.Test.YtgmbphgkalhceaaRowRu
import Derived.Test.YtgmbphgkalhceaaNameB
import Derived.Test.YtgmbphgkalhceaaBlP
namespace Go.Proofs.Ytgmbphgkalhceaa
open Go.ChangeShapes Go.WideShapes Go.ChangeAt Go.RowKit
structure RuOk (r : RulR) : Prop where
  n : nameB r.item = true
  l0 : 0 ≤ r.low
  lu : r.low ≤ r.up
  u1 : r.up ≤ 1000000
open Classical in
noncomputable def ruB (r : RulR) : Bool := decide (RuOk r)
theorem ruB_yes {r : RulR} (h : RuOk r) : ruB r = true := by simp [ruB, h]
theorem ruB_no {r : RulR} (h : ¬ RuOk r) : ruB r = false := by simp [ruB, h]
theorem ruB_iff {r : RulR} : ruB r = true ↔ RuOk r := by simp [ruB]
def befR (a b : RulR) : Bool := Op.bytesLess a.item.toList b.item.toList
/-- What is asked at place i. -/
structure OkR (rs : List RulR) (i : Nat) (c : RulR) : Prop where
  ok : RuOk c
  rise : ∀ d, 0 < i → rs[i - 1]? = some d → befR d c = true
structure RightR (rs : List RulR) : Prop where
  len : rs.length ≤ 20
  at_ : ∀ i c, rs[i]? = some c → OkR rs i c
open Classical in
noncomputable def rusB (rs : List RulR) : Bool := decide (RightR rs)
theorem rusB_yes {rs : List RulR} (h : RightR rs) : rusB rs = true := by simp [rusB, h]
theorem rusB_no {rs : List RulR} (h : ¬ RightR rs) : rusB rs = false := by simp [rusB, h]
theorem rusB_iff {rs : List RulR} : rusB rs = true ↔ RightR rs := by simp [rusB]
theorem rup_ok {rs : List RulR} {k : Nat} {c : RulR} {s : ByteArray} (ho : RuOk c) (hx : Op.bytesLess c.item.toList s.toList = false) (hy : (c.item.toList == s.toList) = false) (h1 : ∀ d, 0 < k → rs[k - 1]? = some d → d.item = s) : OkR rs k c := by
  refine ⟨ho, fun d h0 hd => ?_⟩
  show Op.bytesLess d.item.toList c.item.toList = true
  rw [h1 d h0 hd]
  cases e : Op.bytesLess s.toList c.item.toList with
  | true => rfl
  | false =>
    have := bl_tri hx e
    rw [this] at hy
    simp at hy
theorem bl_neR {a b : List UInt8} (h : Op.bytesLess a b = true) : (b == a) = false := by
  cases e : b == a with
  | false => rfl
  | true =>
    rw [beq_iff_eq] at e
    rw [e, bl_irrefl] at h
    cases h

/-- Each is right. -/
noncomputable def allR (rs : List RulR) : Bool := rs.all ruB
/-- Each is behind the one ahead of it. -/
def RisR (rs : List RulR) : Prop := ∀ (i : Nat) (a b : RulR), rs[i]? = some a → rs[i + 1]? = some b → befR a b = true
open Classical in
noncomputable def risB (rs : List RulR) : Bool := decide (RisR rs)
theorem risB_yes {rs : List RulR} (h : RisR rs) : risB rs = true := by simp [risB, h]
theorem risB_no {rs : List RulR} (h : ¬ RisR rs) : risB rs = false := by simp [risB, h]
theorem allR_iff {rs : List RulR} : allR rs = true ↔ ∀ c ∈ rs, RuOk c := by simp [allR, List.all_eq_true, ruB_iff]
theorem rusB_eq (rs : List RulR) : rusB rs = (decide (rs.length ≤ 20) && (allR rs && risB rs)) := by
  rw [Bool.eq_iff_iff]
  simp only [Bool.and_eq_true, decide_eq_true_eq, rusB_iff, allR_iff]
  constructor
  · intro h
    refine ⟨h.len, fun c hc => ?_, ?_⟩
    · obtain ⟨i, hi⟩ := List.mem_iff_getElem?.1 hc
      exact (h.at_ i c hi).ok
    · exact risB_yes fun i a b ha hb => (h.at_ (i + 1) b hb).rise a (by omega) (by simpa using ha)
  · rintro ⟨h1, h2, h3⟩
    have h4 : RisR rs := by simpa [risB] using h3
    refine ⟨h1, fun i c hc => ⟨h2 c (List.mem_of_getElem? hc), fun d h0 hd => ?_⟩⟩
    exact h4 (i - 1) d c hd (by rw [show i - 1 + 1 = i by omega]; exact hc)
theorem allR_at {rs : List RulR} {k : Nat} {c : RulR} (h : rs[k]? = some c) (hn : ruB c = false) : allR rs = false := by
  cases e : allR rs with
  | false => rfl
  | true =>
    have := allR_iff.1 e c (List.mem_of_getElem? h)
    rw [ruB_yes this] at hn
    cases hn
theorem allR_yes {rs : List RulR} (h : ∀ i c, i < rs.length → rs[i]? = some c → ruB c = true) : allR rs = true := allR_iff.2 fun c hc => by
  obtain ⟨i, hi⟩ := List.mem_iff_getElem?.1 hc
  exact ruB_iff.1 (h i c (List.getElem?_eq_some_iff.1 hi).1 hi)
end Go.Proofs.Ytgmbphgkalhceaa
