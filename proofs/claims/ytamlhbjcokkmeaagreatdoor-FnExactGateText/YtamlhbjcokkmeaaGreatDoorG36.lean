/- Texts of ours put together: BiT, ShClone. -/
import Derived.Test.YtamlhbjcokkmeaaGreatDoorG22
import Derived.Test.YtamlhbjcokkmeaaGreatDoorG35
import Derived.Test.YtamlhbjcokkmeaaGreatDoorG16
import Derived.Sort.OwnSorted
import Derived.Shelf.LaysM
import Derived.Shelf.Strconv.Clone
import Derived.Test.YtamlhbjcokkmeaaGreatDoorG00
namespace Go.Proofs.YtamlhbjcokkmeaaGreatDoor
open Go.ChangeShapes Go.WideShapes Go.ChangeAt Go.RowKit Go.Sort Go.Shelf
theorem holdTx {W : World} {g : Nat} {cur : Array Value} {ss : List ByteArray} (hb : W.heap[g]? = some (.cells cur 9 (0, 0))) (ht : cur.toList.take (ss.length * 1) = ss.map Value.string) : Holds encStr W g 0 (ss.map keyB).toArray := by
  refine holds_of_block hb ?_
  rw [List.length_map, List.map_map]
  have : encStr ∘ keyB = Value.string := by
    funext t
    simp [encStr, keyB]
  rw [this, ← ht, Nat.mul_one]
theorem mapEnc (l : List (List UInt8)) : l.map encStr = (l.map baK).map Value.string := by
  rw [List.map_map]
  rfl
set_option maxHeartbeats 2000000 in
theorem sortTx_any (base : Nat) (v : Value) (ss : List ByteArray) (w : World) (h : w.ownsRow base 9 1 v ss.length (ss.map Value.string)) (hl : ss.length ≤ 300) :
    Calls Tryz.prog 110 #[v] w fun e w' => e = .returned (.tuple #[]) ∧ w'.ownsRow base 9 1 v ss.length (((ss.map keyB).mergeSort fun x y => decide (x ≤ y)).map encStr) ∧ w.grownBy w' v.ownBlock := by
  rcases h.2 with ⟨rfl, h0⟩ | ⟨g, cap, cur, rfl, hbase, hg, h3, h4, h5, h6⟩
  · obtain rfl : ss = [] := List.eq_nil_of_length_eq_zero h0
    refine (AnyM.slices_Sort_string_none laysSortS none 0 w).mono ?_
    rintro e w' ⟨rfl, rfl⟩
    exact ⟨rfl, by simpa using h, ⟨rfl, rfl, rfl, Nat.le_refl _, fun _ _ _ => rfl⟩⟩
  · have hH := holdTx hg h6
    have := AnyM.slices_Sort_string laysSortS g 0 cap (ss.map keyB) w hH (Array.getElem?_eq_some_iff.1 hg).1 (by rw [List.length_map]; omega)
    rw [List.length_map] at this
    refine Calls.mono this ?_
    rintro e w' ⟨rfl, n, os, rfl⟩
    refine ⟨rfl, ?_, grownBy_sorted _⟩
    have hr := ownsRow_sorted (n := n) (os := os) (ss := ss.map keyB) (ts := (ss.map keyB).mergeSort fun x y => decide (x ≤ y)) (by simp) hbase hg (by rw [List.length_map]; exact h3) h4 h5
    rw [List.length_map] at hr
    exact hr
theorem grow_none (W : World) : grow W #[] = W := by simp [grow]
theorem comp_len (ts : List (List UInt8)) : (Lib.compact ts).length ≤ ts.length := by
  unfold Lib.compact Lib.compactUpTo
  rw [List.length_map]
  refine Nat.le_trans (List.length_filter_le _ _) ?_
  simp
set_option maxHeartbeats 2000000 in
theorem compTx_any (base n : Nat) (v : Value) (ts : List (List UInt8)) (w : World) (hn : ts.length = n) (h : w.ownsRow base 9 1 v n (ts.map encStr)) (hl : n ≤ 300) :
    Calls Tryz.prog 111 #[v] w fun e w' => ∃ v', e = .returned v' ∧ w'.ownsRow base 9 1 v' (Lib.compact ts).length ((Lib.compact ts).map encStr) ∧ w.grownBy w' v.ownBlock := by
  subst hn
  rcases h.2 with ⟨rfl, h0⟩ | ⟨g, cap, cur, rfl, hbase, hg, h3, h4, h5, h6⟩
  · obtain rfl : ts = [] := List.eq_nil_of_length_eq_zero h0
    refine (AnyG.slices_Compact_string_empty laysCompactS none 0 w).mono ?_
    rintro e w' ⟨rfl, rfl⟩
    exact ⟨_, rfl, by simpa [Lib.compact, Lib.compactUpTo] using h, ⟨rfl, rfl, rfl, Nat.le_refl _, fun _ _ _ => rfl⟩⟩
  · have hH : Holds encStr w g 0 ts.toArray := holds_of_block hg (by simpa using h6)
    refine Calls.mono (AnyG.slices_Compact_string laysCompactS g 0 cap ts w hH (by omega) h3) ?_
    rintro e w' ⟨rfl, q, rfl⟩
    have hc := comp_len ts
    obtain ⟨us, hus⟩ : ∃ us, us = Lib.compact ts ++ List.replicate (ts.length - (Lib.compact ts).length) ([] : List UInt8) := ⟨_, rfl⟩
    have hul : us.length = ts.length := by rw [hus]; simp; omega
    rw [← hus, ← grow_none (putRow encStr (Sort.ahead w q) g 0 us.toArray)]
    have hr := ownsRow_sorted (n := q) (os := #[]) (ss := ts) (ts := us) hul hbase hg h3 h4 h5
    refine ⟨_, rfl, ?_, grownBy_sorted _⟩
    rcases hr.2 with ⟨e, _⟩ | ⟨g', cap', cur', e, k1, k2, k3, k4, k5, k6⟩
    · cases e
    · simp only [Value.slice.injEq, Option.some.injEq, Addr.mk.injEq, and_true, true_and] at e
      obtain ⟨rfl, rfl⟩ := e
      refine ⟨by simp, .inr ⟨g, cap, cur', rfl, hbase, k2, by omega, h4, k5, ?_⟩⟩
      have e2 : (cur'.toList.take (ts.length * 1)).take ((Lib.compact ts).length * 1) = cur'.toList.take ((Lib.compact ts).length * 1) := by rw [List.take_take]; congr 1; omega
      rw [← e2, k6, hus, List.map_append, Nat.mul_one, List.take_append_of_le_length (by simp), List.take_of_length_le (by simp)]
end Go.Proofs.YtamlhbjcokkmeaaGreatDoor
namespace Go.Proofs.YtamlhbjcokkmeaaGreatDoor
open Go.Shelf Go.RowKit
def renClone : Go.Shelf.Ren := ⟨fun | 316 => 136 | n => n, fun | 9 => 9 | 3 => 3 | 4 => 4 | 37 => 102 | 0 => 0 | 127 => 171 | 5 => 5 | n => n, fun | n => n⟩
theorem laysClone : Go.Proofs.LaysM.n316 Tryz.prog renClone := {
  mixed := by kernel_rfl
  f316 := Tryz.func136.trans (congrArg some (by kernel_rfl))
  t0 := Tryz.underlying0
  a0 := Tryz.isAgg0
  z0 := Tryz.sizeOf0
  v0 := Tryz.zeroValue0
  t3 := Tryz.underlying3
  a3 := Tryz.isAgg3
  z3 := Tryz.sizeOf3
  v3 := Tryz.zeroValue3
  t4 := Tryz.underlying4
  a4 := Tryz.isAgg4
  z4 := Tryz.sizeOf4
  v4 := Tryz.zeroValue4
  t9 := Tryz.underlying9
  a9 := Tryz.isAgg9
  z9 := Tryz.sizeOf9
  v9 := Tryz.zeroValue9
  t37 := Tryz.underlying102
  a37 := Tryz.isAgg102
  z37 := Tryz.sizeOf102
  v37 := Tryz.zeroValue102
  t127 := Tryz.underlying171
  a127 := Tryz.isAgg171
  z127 := Tryz.sizeOf171
  v127 := Tryz.zeroValue171
  t5 := Tryz.underlying5
  a5 := Tryz.isAgg5
  z5 := Tryz.sizeOf5
  v5 := Tryz.zeroValue5
  i0 := by kernel_rfl
  i3 := by kernel_rfl
  i4 := by kernel_rfl
  i5 := by kernel_rfl
  i9 := by kernel_rfl
  i37 := by kernel_rfl
  i127 := by kernel_rfl }
theorem cloneLite (s : ByteArray) (w : World) (hlim : s.size ≤ 281474976710656) : Calls Tryz.prog 136 #[.string s] w fun e w' => e = .returned (.string s) ∧ Below w.heap.size w w' := Any.stringslite_Clone laysClone s w hlim
theorem clone_any (s : ByteArray) (w : World) (hlim : s.size ≤ 281474976710656) : Calls Tryz.prog 109 #[.string s] w fun e w' => e = .returned (.string s) ∧ Below w.heap.size w w' := by
  go_enter Tryz.func109, Tryz.ntmps109
  go_wp2_with fail
  refine (cloneLite s _ hlim).mono ?_
  rintro e w1 ⟨rfl, hb⟩
  go_wp2
  go_ret
  exact ⟨rfl, hb⟩
end Go.Proofs.YtamlhbjcokkmeaaGreatDoor
