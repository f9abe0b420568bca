/- What it is that a partner is right. -/
import Derived.Test.YtbnjieppcojckaaRowPt
import Derived.Test.YtbnjieppcojckaaNameB
import Derived.Test.YtbnjieppcojckaaCtlB
namespace Go.Proofs.Ytbnjieppcojckaa
open Go.ChangeShapes Go.WideShapes Go.ChangeAt Go.RowKit
def codeB (c : Int) : Bool := decide (0 ≤ c) && decide (c ≤ 13)
/-- One that may stand there, its number at least so great. -/
def snB (low least : Int) (s : Sn) : Bool := decide (least ≤ s.number) && (decide (s.number < low + 32) && (decide (s.number ≤ 999999) && (ctlB s.answer && codeB s.code)))
def seenB (low : Int) : Int → List Sn → Bool
  | _, [] => true
  | least, s :: r => snB low least s && seenB low (s.number + 1) r
def ptnB (p : Ptn) : Bool := nameB p.name && (ctlB p.low && (ctlB p.next && seenB p.low p.low p.seen))
theorem seenB_len {low : Int} : ∀ {rs : List Sn} {least : Int}, seenB low least rs = true → least ≤ low + 32 → least + rs.length ≤ low + 32
  | [], least, _, h => by simpa using h
  | s :: r, least, h, _ => by
    simp only [seenB, snB, Bool.and_eq_true, decide_eq_true_eq] at h
    have := seenB_len h.2 (by omega)
    simp only [List.length_cons]
    omega
theorem drop_at {α : Type} {l : List α} {k : Nat} {x : α} (h : l[k]? = some x) : l.drop k = x :: l.drop (k + 1) := by
  obtain ⟨hk, rfl⟩ := List.getElem?_eq_some_iff.1 h
  exact List.drop_eq_getElem_cons hk
theorem seen_step {low z : Int} {rs : List Sn} {k : Nat} {g : Sn} (h : rs[k]? = some g) : seenB low z (rs.drop k) = (snB low z g && seenB low (g.number + 1) (rs.drop (k + 1))) := by
  rw [drop_at h]
  rfl
theorem seen_end {low z : Int} {rs : List Sn} : seenB low z (rs.drop rs.length) = true := by
  rw [List.drop_length]
  rfl
end Go.Proofs.Ytbnjieppcojckaa
