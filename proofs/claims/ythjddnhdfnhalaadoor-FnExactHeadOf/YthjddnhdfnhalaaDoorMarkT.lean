/- The laws' helper markText tells a text of a number from 1 to 99999. -/
import Derived.Test.YthjddnhdfnhalaaDoorRows
import Derived.Test.YthjddnhdfnhalaaDoorKeep
import Derived.WalkKit
import Derived.ProofKit
import Derived.OpenShut
import Derived.ShutString
import Derived.ChangeOld
import Derived.Below
import Derived.WalkLawsBesides
import Derived.WalkSpells
import Derived.Deep.Light
import Derived.Handy
import Derived.Laws.BytesArg
import Derived.Test.YthjddnhdfnhalaaDoorConv1
namespace Go.Proofs.YthjddnhdfnhalaaDoor
open Go.ChangeShapes Go.WideShapes Go.ChangeAt Go.RowKit
/-- The digits of a number ahead of a text. -/
def digs : Nat → Nat → ByteArray → ByteArray
  | 0, _, acc => acc
  | f + 1, k, acc => if k = 0 then acc else digs f (k / 10) (strOfNums [48 + ((k % 10 : Nat) : Int)] ++ acc)
theorem digs_zero (f : Nat) (acc : ByteArray) : digs f 0 acc = acc := by cases f <;> simp [digs]
def mt (k : Nat) : ByteArray := ⟨#[109]⟩ ++ digs 6 k ⟨#[]⟩
set_option maxHeartbeats 1000000 in
theorem markText_any (k0 : Nat) (w : World) (h0 : 0 < k0) (h1 : k0 ≤ 99999) :
    Calls Tryd.prog 28 #[.int .i64 k0] w fun e w' => e = .returned (.string (mt k0)) ∧ Below w.heap.size w w' := by
  have h0' : (0 : Int) < (k0 : Int) := by omega
  have h1' : (k0 : Int) ≤ 99999 := by omega
  have hz0 : decide (k0 = 0) = false := by simp; omega
  go_enter Tryd.func28, Tryd.ntmps28
  go_wp2
  go_loopw [0, 3] (fun kv o wr => ∃ (f j : Nat) (acc : ByteArray), kv = .int .i64 j ∧ o = .string acc ∧ j < 10 ^ f ∧ j ≤ 99999 ∧ acc.size + f ≤ 6 ∧ digs f j acc = digs 6 k0 ⟨#[]⟩ ∧ Below w.heap.size w wr) (fun kv _ _ => (intOf kv).toNat)
  case atStart => exact ⟨6, k0, ⟨#[]⟩, rfl, rfl, by omega, h1, by decide, rfl, Below.refl _ _⟩
  case round =>
    obtain ⟨f, j, acc, rfl, rfl, hj, hj2, hac, hd, hb⟩ := hrel
    have H : Hid (j < 10 ^ f ∧ digs f j acc = digs 6 k0 ⟨#[]⟩ ∧ Below w.heap.size w wr) := ⟨hj, hd, hb⟩
    have hwz := hb.size
    clear hj hd hb
    have hcv := conv1 wr
    by_cases hp : 0 < j
    · have hp' : (0 : Int) < (j : Int) := by omega
      have hsn : (strOfNums [48 + (j : Int) % 10]).size = 1 := by rw [strOfNums_size]; rfl
      go_wp2
      obtain ⟨f, rfl⟩ : ∃ f', f = f' + 1 := by
        cases f with
        | zero =>
          have := H.out.1
          simp at this
          omega
        | succ f => exact ⟨f, rfl⟩
      have hd := H.out.2.1
      unfold digs at hd
      rw [if_neg (by omega)] at hd
      have hlt : j / 10 < 10 ^ f := by
        have := H.out.1
        rw [Nat.pow_succ] at this
        omega
      go_roundw
      case rel => exact ⟨f, j / 10, strOfNums [48 + ((j % 10 : Nat) : Int)] ++ acc, by simp, by simp, hlt, by omega, by rw [ByteArray.size_append, strOfNums_size]; simp; omega, hd, H.out.2.2.alloc hwz _⟩
      case measure => simp [intOf]; omega
    · obtain rfl : j = 0 := by omega
      have hacc : acc.size ≤ 6 := by omega
      have hd := H.out.2.1
      rw [digs_zero] at hd
      have HD : Hid (acc = digs 6 k0 ⟨#[]⟩) := hd
      clear hd
      go_wp2
      go_ret
      exact ⟨by unfold mt; rw [← HD.out]; rfl, H.out.2.2⟩
end Go.Proofs.YthjddnhdfnhalaaDoor
