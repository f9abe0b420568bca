/- Texts of ours put together: GtP. -/
import Derived.Test.YtagajindaipaeaaG06
import Derived.Test.YtagajindaipaeaaG28
import Derived.Test.YtagajindaipaeaaG29
import Derived.Test.YtagajindaipaeaaG30
import Derived.Test.YtagajindaipaeaaG31
namespace Go.Proofs.Ytagajindaipaeaa
open Go.ChangeShapes Go.WideShapes Go.ChangeAt Go.RowKit
/-- One of rising Partners, at its place. -/
structure OkP (ps : List Ptn) (k : Nat) (p : Ptn) : Prop where
  ok : ptnB p = true
  rise : ∀ d, 0 < k → ps[k - 1]? = some d → Op.bytesLess d.name.toList p.name.toList = true
structure RightP (ps : List Ptn) : Prop where
  len : ps.length ≤ 20
  at_ : ∀ i p, ps[i]? = some p → OkP ps i p
open Classical in
noncomputable def ptsB (ps : List Ptn) : Bool := decide (RightP ps)
theorem ptsB_yes {ps : List Ptn} (h : RightP ps) : ptsB ps = true := by simp [ptsB, h]
theorem ptsB_no {ps : List Ptn} (h : ¬ RightP ps) : ptsB ps = false := by simp [ptsB, h]
theorem ptsB_iff {ps : List Ptn} : ptsB ps = true ↔ RightP ps := by simp [ptsB]
theorem ptnB_name {p : Ptn} (h : ptnB p = true) : nameB p.name = true := by
  simp only [ptnB, Bool.and_eq_true] at h
  exact h.1
def dfB (g : Gat) : Bool := decide (g.dffs.length ≤ 200)
noncomputable def gtB (g : Gat) : Bool := nameB g.name && (dayB g.day && (ptsB g.ptns && (rightB g.crss && (bkB g.book && (dfB g && ousB g.outs)))))
theorem bl_firstG {t : ByteArray} (h : nameB t = true) : Op.bytesLess (ByteArray.toList ⟨#[]⟩) t.toList = true := by
  have h1 := (nameB_sizes h).1
  cases hl : t.data.toList with
  | nil =>
    have : t.data.toList.length = 0 := by rw [hl]; rfl
    have e : t.size = t.data.toList.length := by simp
    omega
  | cons x r => rw [ByteArray.toList_eq, ByteArray.toList_eq, hl]; rfl
theorem bl_neG {a b : List UInt8} (h : Op.bytesLess a b = true) : (b == a) = false := by
  cases e : b == a with
  | false => rfl
  | true =>
    rw [beq_iff_eq] at e
    rw [e, bl_irrefl] at h
    cases h
theorem ptp_lt {rs : List Ptn} {k : Nat} {c : Ptn} {s : ByteArray} (h : OkP rs k c) (hk : k ≤ rs.length) (h0 : k = 0 → s = ⟨#[]⟩) (h1 : ∀ d, 0 < k → rs[k - 1]? = some d → d.name = s) : Op.bytesLess s.toList c.name.toList = true := by
  rcases Nat.eq_zero_or_pos k with g | g
  · rw [h0 g]
    exact bl_firstG (ptnB_name h.ok)
  · have e := List.getElem?_eq_getElem (l := rs) (i := k - 1) (by omega)
    have := h.rise _ g e
    rw [← h1 _ g e]
    exact this
theorem ptp_ok {rs : List Ptn} {k : Nat} {c : Ptn} {s : ByteArray} (ho : ptnB c = true) (hx : Op.bytesLess c.name.toList s.toList = false) (hy : (c.name.toList == s.toList) = false) (h1 : ∀ d, 0 < k → rs[k - 1]? = some d → d.name = s) : OkP rs k c := by
  refine ⟨ho, fun d h0 hd => ?_⟩
  rw [h1 d h0 hd]
  cases e : Op.bytesLess s.toList c.name.toList with
  | true => rfl
  | false =>
    have := bl_tri hx e
    rw [this] at hy
    simp at hy
end Go.Proofs.Ytagajindaipaeaa
