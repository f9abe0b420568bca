/- Plain lemmas on bytes of a text: a byte at a place as a number, and whether a text begins as the word SYN; nothing of the program is used. -/
import Derived.Lib.Strings
import Derived.WalkKit
namespace Go.Proofs.YtphgheojfnlgjaaDoor
open Go.RowKit
/-- The byte of a text at a place, as a number; 0 beyond its end. -/
def byt (s : ByteArray) (i : Nat) : Int := ((s.data.toList[i]?.getD 0).toNat : Int)
theorem byt_bd (s : ByteArray) (i : Nat) : 0 ≤ byt s i ∧ byt s i ≤ 255 := by
  have := (s.data.toList[i]?.getD 0).toNat_lt
  unfold byt
  omega
theorem byt_raw (s : ByteArray) (i : Nat) (h : i < s.size) : ((s[i]'h).toNat : Int) = byt s i := by
  unfold byt
  have h' : i < s.data.toList.length := by simpa using h
  rw [List.getElem?_eq_getElem h']
  rfl
theorem byt_get (s : ByteArray) (i : Nat) (h : i < s.size) : wrap64 ((s[i]'h).toNat : Int) = byt s i := by
  have := (s[i]'h).toNat_lt
  rw [byt_raw]
  have := byt_bd s i
  unfold wrap64
  omega
theorem byt_ext (s : ByteArray) (a b i : Nat) (h : i < (s.extract a b).size) : byt (s.extract a b) i = byt s (a + i) := by
  unfold byt
  have h2 : i < ((s.data.toList.drop a).take (b - a)).length := by
    have h3 : (s.extract a b).data.toList.length = (s.extract a b).size := rfl
    rw [Lib.extract_data] at h3
    omega
  rw [Lib.extract_data, List.getElem?_take_of_lt (by simp at h2; omega), List.getElem?_drop]
theorem byt_get_ext (s : ByteArray) (a b i : Nat) (h : i < (s.extract a b).size) : wrap64 (((s.extract a b)[i]'h).toNat : Int) = byt s (a + i) := by
  rw [byt_get _ _ h, byt_ext s a b i h]
/-- The first three bytes, as far as they go, are those of the word. -/
def preB (s : ByteArray) : Bool := (decide (s.size ≤ 0) || byt s 0 == 83) && ((decide (s.size ≤ 1) || byt s 1 == 89) && (decide (s.size ≤ 2) || byt s 2 == 78))
theorem u8eq (x : UInt8) (n : Nat) (h : n < 256) : (x == UInt8.ofNat n) = ((x.toNat : Int) == (n : Int)) := by
  rw [Bool.eq_iff_iff, beq_iff_eq, beq_iff_eq]
  constructor
  · intro e; subst e; simp; omega
  · intro e
    have : x.toNat = n := by omega
    rw [← this]; simp
theorem szl (l : List UInt8) : (⟨⟨l⟩⟩ : ByteArray).size = l.length := rfl
theorem pre3 (s : ByteArray) (h : 3 ≤ s.size) : (!((s.extract 0 3).toList == ((⟨#[83, 89, 78]⟩ : ByteArray).extract 0 3).toList)) = !preB s := by
  rw [Lib.extract_toList, Lib.extract_toList]
  obtain ⟨⟨l⟩⟩ := s
  rw [szl] at h
  unfold preB
  rw [szl]
  rcases l with _ | ⟨x, _ | ⟨y, _ | ⟨z, t⟩⟩⟩
  · simp at h
  · simp at h
  · simp at h
  · have e1 := u8eq x 83 (by omega)
    have e2 := u8eq y 89 (by omega)
    have e3 := u8eq z 78 (by omega)
    simp [byt] at e1 e2 e3 ⊢
    simp [e1, e2, e3]
theorem pre2 (s : ByteArray) (h : s.size ≤ 3) : (!(s.toList == ((⟨#[83, 89, 78]⟩ : ByteArray).extract 0 s.size).toList)) = !preB s := by
  rw [Lib.toList_data, Lib.extract_toList]
  obtain ⟨⟨l⟩⟩ := s
  rw [szl] at h
  unfold preB
  rw [szl]
  rcases l with _ | ⟨x, _ | ⟨y, _ | ⟨z, t⟩⟩⟩
  · simp
  · have e1 := u8eq x 83 (by omega)
    simp [byt] at e1 ⊢
    simp [e1]
  · have e1 := u8eq x 83 (by omega)
    have e2 := u8eq y 89 (by omega)
    simp [byt] at e1 e2 ⊢
    simp [e1, e2]
  · have e1 := u8eq x 83 (by omega)
    have e2 := u8eq y 89 (by omega)
    have e3 := u8eq z 78 (by omega)
    have ht : t = [] := by
      rcases t with _ | ⟨u, t⟩
      · rfl
      · simp at h
    subst ht
    simp [byt] at e1 e2 e3 ⊢
    simp [e1, e2, e3]
end Go.Proofs.YtphgheojfnlgjaaDoor
