/- Words and text of an event: pure. -/
import Derived.Test.YtibjmokhkjklkaaDoorEvP
import Derived.Test.YtibjmokhkjklkaaDoorEvW
import Derived.Test.YtibjmokhkjklkaaDoorHxP
import Derived.Test.YtibjmokhkjklkaaDoorNameB
namespace Go.Proofs.YtibjmokhkjklkaaDoor
open Go.ChangeShapes Go.WideShapes Go.ChangeAt Go.RowKit
/-- The word of a text that is taken. -/
def takeT (a : ByteArray) : ByteArray := if a.size = 0 then ⟨#[45]⟩ else ⟨(hexB a.data.toList).toArray⟩
theorem takeT_size {a : ByteArray} (h : a.size ≤ 4000) : (takeT a).size ≤ 8000 := by
  unfold takeT
  split
  · decide
  · have e : (⟨(hexB a.data.toList).toArray⟩ : ByteArray).size = (hexB a.data.toList).length := by simp [ByteArray.size]
    have e2 : a.data.toList.length = a.size := rfl
    rw [e]
    unfold hexB
    rw [List.length_map, hexZ_len, e2]
    omega
/-- The words of an event. -/
def evR (e : EvR) : List ByteArray := if e.kind = 1 then [evW 1, e.a] else if e.kind = 2 then [evW 2, e.a, e.b, e.c] else if e.kind = 3 then [evW 3, takeT e.a] else [evW 4]
theorem evR_len (e : EvR) : 0 < (evR e).length ∧ (evR e).length ≤ 4 := by
  unfold evR
  repeat' split
  all_goals simp
theorem evR_flat (rs : List EvR) : (rs.map evR).flatten.length ≤ 4 * rs.length := by
  induction rs with
  | nil => simp
  | cons a r ih =>
    have := (evR_len a).2
    simp only [List.map_cons, List.flatten_cons, List.length_append, List.length_cons]
    omega
theorem nm12 {t : ByteArray} (h : nameB t = true) : t.size ≤ 12 := by
  simp only [nameB, Bool.and_eq_true, decide_eq_true_eq] at h
  omega
/-- The text of an event, as the model tells it. -/
def evX (e : EvR) : ByteArray := if e.kind = 1 then (⟨#[112, 97, 114, 116, 110, 101, 114, 32]⟩ : ByteArray) ++ e.a else if e.kind = 2 then (⟨#[99, 114, 111, 115, 115, 32]⟩ : ByteArray) ++ e.a ++ (⟨#[32]⟩ : ByteArray) ++ e.b ++ (⟨#[32]⟩ : ByteArray) ++ e.c else if e.kind = 3 then (⟨#[116, 97, 107, 101, 32]⟩ : ByteArray) ++ takeT e.a else ⟨#[110, 101, 120, 116]⟩
theorem evX_size {e : EvR} (h : evB e = true) : (evX e).size ≤ 9000 := by
  have e8 : (⟨#[112, 97, 114, 116, 110, 101, 114, 32]⟩ : ByteArray).size = 8 := rfl
  have e6 : (⟨#[99, 114, 111, 115, 115, 32]⟩ : ByteArray).size = 6 := rfl
  have e1 : (⟨#[32]⟩ : ByteArray).size = 1 := rfl
  have e5 : (⟨#[116, 97, 107, 101, 32]⟩ : ByteArray).size = 5 := rfl
  have e4 : (⟨#[110, 101, 120, 116]⟩ : ByteArray).size = 4 := rfl
  unfold evX
  rcases (evB_iff.1 h).ok with ⟨k, n, _⟩ | ⟨k, n1, n2, n3⟩ | ⟨k, n, _⟩ | ⟨k, _⟩
  · rw [if_pos k, ByteArray.size_append, e8]
    have := nm12 n
    omega
  · rw [if_neg (by omega), if_pos k]
    simp only [ByteArray.size_append, e6, e1]
    have := nm12 n1
    have := nm12 n2
    have := nm12 n3
    omega
  · rw [if_neg (by omega), if_neg (by omega), if_pos k, ByteArray.size_append, e5]
    have := takeT_size n
    omega
  · rw [if_neg (by omega), if_neg (by omega), if_neg (by omega), e4]
    omega
end Go.Proofs.YtibjmokhkjklkaaDoor
