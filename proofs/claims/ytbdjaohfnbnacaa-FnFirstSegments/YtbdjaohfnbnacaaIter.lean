/- Contract of impl.scan and of its closure: a loop over it is handed each byte of the text, in order, with whether it is released, for every loop body that keeps the two boxes that the closure has captured; a text of at most 20000 bytes. -/
import Derived.RangeFuncNested
import Derived.RangeFuncBound
import Derived.RangeFuncCalls
import Derived.RangeFuncLeaves
import Derived.RangeFuncBox
import Derived.Shelf.Abstract
import Derived.WalkKit
import Derived.OwnWalkIn
import Derived.TacticsInMore
import Derived.LoopNIn
import Derived.LoopIn
import Derived.Maps.AppendAt
import Derived.Test.YtbdjaohfnbnacaaPlain
import Derived.Test.YtbdjaohfnbnacaaRows
namespace Go.Proofs.Ytbdjaohfnbnacaa
open Go.RowKit Go.Shelf
attribute [local go_sem] Oper.semAt_some
/-- Whether the byte at a place is released. -/
def st (s : ByteArray) (rel : Int) : Nat → Bool
  | 0 => false
  | k + 1 => !st s rel k && (byt s k == rel)
def item (s : ByteArray) (rel : Int) (j : Nat) : UInt8 × Bool := (s.data.toList[j]?.getD 0, st s rel j)
def upto (s : ByteArray) (rel : Int) (k : Nat) : List (UInt8 × Bool) := (List.range k).map (item s rel)
theorem upto_succ (s : ByteArray) (rel : Int) (k : Nat) : upto s rel (k + 1) = upto s rel k ++ [item s rel k] := by simp [upto, List.range_succ]
theorem upto_length (s : ByteArray) (rel : Int) (k : Nat) : (upto s rel k).length = k := by simp [upto]
theorem byte_getD (s : ByteArray) (k : Nat) (h : k < s.size) : s.data.toList[k]?.getD 0 = s[k]'h := by
  have h' : k < s.data.toList.length := by simpa using h
  rw [List.getElem?_eq_getElem h']
  rfl
theorem item_eq (s : ByteArray) (d : Int) (k : Nat) (h : k < s.size) : item s d k = (s[k]'h, st s d k) := by
  unfold item
  rw [byte_getD s k h]
theorem st_succ (s : ByteArray) (d : Int) (k : Nat) (h : k < s.size) : st s d (k + 1) = (!st s d k && (((s[k]'h).toNat : Int) == d)) := by
  rw [byt_raw s k h]
  rfl
def encP (x : UInt8 × Bool) : Array Value := #[.int .u8 (x.1.toNat : Int), .bool x.2]
/-- The two boxes lie as they lay. -/
def Two (bt bs : Nat) (W W' : World) : Prop := W'.heap[bt]? = W.heap[bt]? ∧ W'.heap[bs]? = W.heap[bs]?
theorem Two.refl (bt bs : Nat) (W : World) : Two bt bs W W := ⟨rfl, rfl⟩
theorem Two.trans {bt bs : Nat} {A B C : World} (h : Two bt bs A B) (k : Two bt bs B C) : Two bt bs A C := ⟨k.1.trans h.1, k.2.trans h.2⟩
theorem Two.put {bt bs : Nat} {w : World} (h1 : bt < w.heap.size) (h2 : bs < w.heap.size) (W : World) (l : Nat) (o o' : Obj) (hl : w.heap.size ≤ l) (_ : W.heap[l]? = some o) (_ : o.isCells = false) (_ : o.isWalk = false) : Two bt bs W (W.putObj l o') :=
  ⟨World.putObj_heap_other (by omega), World.putObj_heap_other (by omega)⟩
theorem Two.cellT {bt bs : Nat} {W W' : World} (h : Two bt bs W W') (o : Nat) : W'.cell? ⟨bt, o, none⟩ = W.cell? ⟨bt, o, none⟩ := World.cell?_of_block (w := W) h.1
theorem Two.cellS {bt bs : Nat} {W W' : World} (h : Two bt bs W W') (o : Nat) : W'.cell? ⟨bs, o, none⟩ = W.cell? ⟨bs, o, none⟩ := World.cell?_of_block (w := W) h.2
set_option maxRecDepth 100000 in
set_option maxHeartbeats 2000000 in
theorem scan1_in (F : Fence) (n : Nat) (hF : F.fn 57) (hro : F.round = none) (hn : 1 ≤ n) (l bt bs : Nat) (s : ByteArray) (rel : Int) (hs : s.size ≤ 20000) (J Jx : List (UInt8 × Bool) → World → Prop)
    (hY : ∀ pre x W, J pre W → pre.length < s.size → YieldAt F (n - 1) Try.prog l (encP x) W fun e W' =>
      (e = .returned (.bool true) ∧ J (pre ++ [x]) W' ∧ Two bt bs W W') ∨ (e = .returned (.bool false) ∧ Jx (pre ++ [x]) W'))
    (W : World) (ht : W.cell? ⟨bt, 0, none⟩ = some (.string s)) (hr : W.cell? ⟨bs, 3, none⟩ = some (.int .i64 rel)) (h0 : J [] W) :
    CallsIn F n Try.prog 57 #[.func (.yield l) #[] #[], .pointer (some ⟨bt, 0, none⟩), .pointer (some ⟨bs, 0, none⟩)] W fun e W' => (∃ v, e = .returned v) ∧
      ((∃ ys, ys = upto s rel s.size ∧ J ys W') ∨ (∃ pre, (∃ k, k ≤ s.size ∧ pre = upto s rel k) ∧ Jx pre W')) := by
  have hs' : (s.size : Int) ≤ 20000 := by omega
  refine callsIn_of_wp Try.func57 rfl hF ?_ hro
  simp only [Try.ntmps57, List.size_toArray, List.length_cons, List.length_nil, Nat.reduceAdd, Nat.reduceSub, Array.replicate_succ, Array.replicate_zero, List.push_toArray, List.append_toArray, List.nil_append, List.cons_append]
  gi_wp2
  gi_loopw [4, 9] (fun r i wr => ∃ k : Nat, k ≤ s.size ∧ i = .int .i64 k ∧ r = .bool (st s rel k) ∧ J (upto s rel k) wr ∧ Two bt bs W wr)
    (fun _ i _ => s.size - (intOf i).toNat)
  case atStart => exact ⟨0, Nat.zero_le _, rfl, rfl, h0, Two.refl _ _ _⟩
  case round =>
    obtain ⟨k, hk, rfl, rfl, hJs, hnx⟩ := hrel
    have htw : wr.cell? ⟨bt, 0, none⟩ = some (.string s) := (hnx.cellT 0).trans ht
    by_cases hlt : k < s.size
    · obtain ⟨fn, tmps, assign, body, hy, hR⟩ := hY _ (item s rel k) wr hJs (by rw [upto_length]; exact hlt)
      unfold encP item at hy
      rw [byte_getD s k hlt] at hy
      dsimp only at hy
      have hlt' : (k : Int) < (s.size : Int) := by omega
      have HJ : Hid (J (upto s rel k) wr ∧ Two bt bs W wr) := ⟨hJs, hnx⟩
      clear hJs hnx
      gi_wp2
      refine hR.mono ?_
      rintro e W3 (⟨rfl, hJ3, hk3⟩ | ⟨rfl, hJx3⟩)
      · have hr3 : W3.cell? ⟨bs, 3, none⟩ = some (.int .i64 rel) := (hk3.cellS 3).trans ((HJ.out.2.cellS 3).trans hr)
        have HK : Hid (J (upto s rel k ++ [item s rel k]) W3 ∧ Two bt bs wr W3) := ⟨hJ3, hk3⟩
        clear hJ3 hk3 hy hR
        cases hst : st s rel k
        · gi_wp2
          go_roundw
          case rel => exact ⟨k + 1, by omega, by simp, by simp [st, hst, byt_get], by rw [upto_succ]; exact HK.out.1, HJ.out.2.trans HK.out.2⟩
          case measure => simp [intOf]; omega
        · gi_wp2
          go_roundw
          case rel => exact ⟨k + 1, by omega, by simp, by simp [st, hst], by rw [upto_succ]; exact HK.out.1, HJ.out.2.trans HK.out.2⟩
          case measure => simp [intOf]; omega
      · gi_wp2
        refine bodyPost_ret (results_none rfl _ _ _) rfl ?_
        exact ⟨⟨_, rfl⟩, .inr ⟨_, ⟨k + 1, by omega, (upto_succ _ _ _).symm⟩, hJx3⟩⟩
    · obtain rfl : k = s.size := by omega
      gi_wp2
      go_end0
      exact ⟨⟨_, rfl⟩, .inl ⟨_, rfl, hJs⟩⟩
end Go.Proofs.Ytbdjaohfnbnacaa
