/- Texts of ours put together: PiP. -/
import Derived.Test.YtcdebinldmblkaaGreatDoorG11
namespace Go.Proofs.YtcdebinldmblkaaGreatDoor
open Go.ChangeShapes Go.WideShapes Go.ChangeAt Go.RowKit
/-- Has one of them that Item? -/
def itmB (ls : List Ln) (t : ByteArray) : Bool := ls.any fun l => l.item.toList == t.toList
theorem itmB_no {ls : List Ln} {t : ByteArray} (h : ∀ (i : Nat) (l : Ln), ls[i]? = some l → (l.item.toList == t.toList) = false) : itmB ls t = false := by
  unfold itmB
  rw [List.any_eq_false]
  intro l hl
  obtain ⟨i, hi⟩ := List.getElem?_of_mem hl
  rw [h i l hi]
  simp
theorem itmB_yes {ls : List Ln} {t : ByteArray} {i : Nat} {l : Ln} (hi : ls[i]? = some l) (h : (l.item.toList == t.toList) = true) : itmB ls t = true := by
  unfold itmB
  rw [List.any_eq_true]
  exact ⟨l, List.mem_of_getElem? hi, h⟩
theorem ba_of_list {a b : ByteArray} (h : (a.toList == b.toList) = true) : a = b := by
  have := beq_iff_eq.1 h
  rw [ByteArray.toList_eq, ByteArray.toList_eq] at this
  obtain ⟨⟨x⟩⟩ := a
  obtain ⟨⟨y⟩⟩ := b
  simp at this
  rw [this]
set_option maxHeartbeats 4000000 in
theorem hasItem_any (v : Value) (ls : List Ln) (t : ByteArray) (w : World) (h : RowL w v ls) : Calls Tryz.prog 77 #[v, .string t] w fun e w' => e = .returned (.bool (itmB ls t)) ∧ Below w.heap.size w w' := by
  have hlen := h.len
  obtain ⟨A, C, rfl⟩ := h.val
  have H0 : Hid (RowL w (.slice A ls.length C) ls) := h
  clear h
  go_enter Tryz.func77, Tryz.ntmps77
  go_wp2_with fail
  go_loopw [9] (fun i wr => ∃ k : Nat, i = .int .i64 (k : Int) ∧ k ≤ ls.length ∧ (∀ (i : Nat) (l : Ln), i < k → ls[i]? = some l → (l.item.toList == t.toList) = false) ∧ Below w.heap.size w wr) (fun i _ => ls.length - (intOf i).toNat)
  case atStart => exact ⟨0, rfl, by omega, fun i l hi => by omega, Below.refl _ _⟩
  case round =>
    obtain ⟨k, rfl, hk, hA, hb⟩ := hrel
    have HA : Hid ((∀ (i : Nat) (l : Ln), i < k → ls[i]? = some l → (l.item.toList == t.toList) = false) ∧ Below w.heap.size w wr) := ⟨hA, hb⟩
    clear hA
    by_cases hlt : k < ls.length
    · have hlt' : (k : Int) < (ls.length : Int) := by omega
      obtain ⟨b, o, cap', l, e, hs, hat, hz1, _⟩ := (H0.out.below hb).at hlt
      simp only [Value.slice.injEq, true_and] at e
      obtain ⟨rfl, rfl⟩ := e
      obtain ⟨q0, q1, q2, q3, q4⟩ := hat
      have HS : Hid (ls[k]? = some l ∧ Below w.heap.size w (wr.alloc (.cells #[.int .i64 l.no, .string l.item, .int .i64 l.qty, .int .i64 l.money, .string l.note] 63))) := ⟨hs, hb.alloc hb.size _⟩
      clear hs hb
      cases he : (l.item.toList == t.toList) with
      | true =>
        have HT : Hid (itmB ls t = true) := itmB_yes HS.out.1 he
        go_wp2
        go_ret
        exact ⟨by rw [HT.out]; rfl, HS.out.2⟩
      | false =>
        go_wp2
        go_roundw
        case rel =>
          refine ⟨k + 1, by go_num, by omega, fun i m hi hm => ?_, HS.out.2⟩
          rcases Nat.lt_or_ge i k with q | q
          · exact HA.out.1 i m q hm
          · obtain rfl : i = k := by omega
            rw [HS.out.1] at hm
            cases hm
            exact he
        case measure => simp [intOf]; omega
    · obtain rfl : k = ls.length := by omega
      have HT : Hid (itmB ls t = false) := itmB_no fun i l hi => HA.out.1 i l (List.getElem?_eq_some_iff.1 hi).1 hi
      clear hb
      go_wp2
      go_ret
      exact ⟨by rw [HT.out]; rfl, HA.out.2⟩
end Go.Proofs.YtcdebinldmblkaaGreatDoor
