/- Texts of ours put together: IxFa. -/
import Derived.Test.YtjnikogaleofaaaDoorG12
import Derived.Test.YtjnikogaleofaaaDoorG17
namespace Go.Proofs.YtjnikogaleofaaaDoor
open Go.ChangeShapes Go.WideShapes Go.ChangeAt Go.RowKit
theorem msgB_facts {m : Msg} (h : msgB m = true) : 1 ≤ m.num ∧ m.num ≤ 999999 ∧ m.body.length ≤ 40 ∧ ∀ g ∈ m.body, rightG g.1 g.2 = true := by
  unfold msgB ctlB at h
  simp only [Bool.and_eq_true, decide_eq_true_eq, List.all_eq_true] at h
  refine ⟨h.1.1, h.1.2, h.2.1, fun g hg => ?_⟩
  have := h.2.2 g hg
  unfold bodyB at this
  simp only [Bool.and_eq_true] at this
  exact this.2
theorem bunB_facts {m : Bun} (h : bunB m = true) : 1 ≤ m.num ∧ m.num ≤ 999999 ∧ 1 ≤ m.kind ∧ m.kind ≤ 7 ∧ 1 ≤ m.msgs.length ∧ m.msgs.length ≤ 10 ∧ ∀ g ∈ m.msgs, msgB g = true := by
  unfold bunB ctlB at h
  simp only [Bool.and_eq_true, decide_eq_true_eq, List.all_eq_true] at h
  exact ⟨h.1.1, h.1.2, h.2.1, h.2.2.1, h.2.2.2.1, h.2.2.2.2.1, h.2.2.2.2.2⟩
theorem msgSegs_len {m : Msg} (h : msgB m = true) : 2 ≤ (msgSegs m).length ∧ (msgSegs m).length ≤ 42 := by
  have := (msgB_facts h).2.2.1
  unfold msgSegs
  simp
  omega
theorem flat_len {l : List Msg} (h : ∀ g ∈ l, msgB g = true) : (l.flatMap msgSegs).length ≤ l.length * 42 := by
  induction l with
  | nil => simp
  | cons m l ih =>
    have h1 := (msgSegs_len (h m (by simp))).2
    have h2 := ih fun g hg => h g (by simp [hg])
    rw [List.flatMap_cons, List.length_append, List.length_cons]
    omega
theorem nameB_le {t : ByteArray} (h : nameB t = true) : t.size ≤ 12 := by
  apply Classical.byContradiction
  intro q
  rw [nameB_size (by omega)] at h
  cases h
theorem ixB_facts {m : Ixc} (h : ixB m = true) : 1 ≤ m.num ∧ m.num ≤ 999999 ∧ m.frm.size ≤ 12 ∧ m.to.size ≤ 12 ∧ 1 ≤ m.buns.length ∧ m.buns.length ≤ 5 ∧ ∀ g ∈ m.buns, bunB g = true := by
  unfold ixB ctlB at h
  simp only [Bool.and_eq_true, decide_eq_true_eq, List.all_eq_true] at h
  exact ⟨h.1.1, h.1.2, nameB_le h.2.1, nameB_le h.2.2.1, h.2.2.2.1, h.2.2.2.2.1, h.2.2.2.2.2⟩
theorem bunSegs_len {m : Bun} (h : bunB m = true) : 2 ≤ (bunSegs m).length ∧ (bunSegs m).length ≤ 422 := by
  obtain ⟨_, _, _, _, _, h6, h7⟩ := bunB_facts h
  have := flat_len h7
  unfold bunSegs
  simp only [List.length_cons, List.length_append, List.length_nil]
  omega
theorem flat_len2 {l : List Bun} (h : ∀ g ∈ l, bunB g = true) : (l.flatMap bunSegs).length ≤ l.length * 422 := by
  induction l with
  | nil => simp
  | cons m l ih =>
    have h1 := (bunSegs_len (h m (by simp))).2
    have h2 := ih fun g hg => h g (by simp [hg])
    rw [List.flatMap_cons, List.length_append, List.length_cons]
    omega
/-- The segments of a right interchange, none of another. -/
def ixSegsR (x : Ixc) : List Seg := bif ixB x then ixSegs x else []
end Go.Proofs.YtjnikogaleofaaaDoor
