/- Texts of ours put together: Base, ShBuild, Iter, Coll, Mark. -/
import Derived.Test.YtkaolpnbddjdpaaGreatDoorRows
import Derived.Test.YtkaolpnbddjdpaaGreatDoorG00
import Derived.WalkKit
import Derived.ProofKit
import Derived.OpenShut
import Derived.ShutString
import Derived.ChangeOld
import Derived.Below
import Derived.WalkLawsBesides
import Derived.WalkSpells
import Derived.Deep.Light
import Derived.Handy
import Derived.Shelf.Strings.Builder1
import Derived.RangeFuncNested
import Derived.RangeFuncBound
import Derived.RangeFuncCalls
import Derived.RangeFuncLeaves
import Derived.RangeFuncBox
import Derived.Shelf.Abstract
import Derived.OwnWalkIn
import Derived.TacticsInMore
import Derived.LoopNIn
import Derived.LoopIn
import Derived.Maps.AppendAt
import Derived.Test.YtkaolpnbddjdpaaGreatDoorG02
import Derived.Laws.BytesArg
namespace Go.Proofs.YtkaolpnbddjdpaaGreatDoor
open Go.ChangeShapes Go.WideShapes Go.ChangeAt Go.RowKit
def markB (c : Int) : Bool := decide (33 ≤ c ∧ c ≤ 126 ∧ c ≠ 45 ∧ ¬ (48 ≤ c ∧ c ≤ 57) ∧ ¬ (65 ≤ c ∧ c ≤ 90) ∧ ¬ (97 ≤ c ∧ c ≤ 122))
set_option maxHeartbeats 400000 in
theorem mayMark_any (c : Int) (w : World) : Calls Tryz.prog 102 #[.int .i64 c] w fun e w' => e = .returned (.bool (markB c)) ∧ w' = w := by
  go_enter Tryz.func102, Tryz.ntmps102
  go_wp2
  all_goals
    go_ret
    refine ⟨ret_bool ?_, rfl⟩
    go_light
    simp [markB] at *
    try omega
set_option maxHeartbeats 400000 in
theorem l01Mark_any (c : Int) (w : World) : Calls Tryz.prog 58 #[.int .i64 c] w fun e w' => e = .returned (.bool (markB c)) ∧ w' = w := by
  go_enter Tryz.func58, Tryz.ntmps58
  go_wp2
  all_goals
    go_ret
    refine ⟨ret_bool ?_, rfl⟩
    go_light
    rw [Bool.eq_iff_iff]
    simp [markB] at *
    try omega
set_option maxHeartbeats 400000 in
theorem index_any (b off len cap : Nat) (zs : List Int) (v : Int) (w : World) (hl : len ≤ 1000) (hcell : ∀ i, i < len → w.cell? ⟨b, off + i, none⟩ = some (.int .i64 (zs[i]?.getD 0))) :
    Calls Tryz.prog 137 #[.slice (some ⟨b, off, none⟩) len cap, .int .i64 v] w fun e w' => (∃ r : Int, e = .returned (.int .i64 r) ∧ (0 ≤ r ↔ ∃ j, j < len ∧ zs[j]?.getD 0 = v)) ∧ w' = w := by
  go_enter Tryz.func137, Tryz.ntmps137
  go_wp2
  go_loop [8] (fun t => ∃ k : Nat, k ≤ len ∧ t = .int .i64 k ∧ ∀ j, j < k → zs[j]?.getD 0 ≠ v) (fun t => len - (intOf t).toNat)
  case atStart => exact ⟨0, Nat.zero_le _, rfl, fun j h => absurd h (by omega)⟩
  case round =>
    obtain ⟨k, hk, rfl, hn⟩ := hrel
    have Hn : Hid (∀ j, j < k → zs[j]?.getD 0 ≠ v) := hn
    clear hn
    by_cases hlt : k < len
    · have hc := hcell k hlt
      have Hc : Hid (∀ i, i < len → w.cell? ⟨b, off + i, none⟩ = some (.int .i64 (zs[i]?.getD 0))) := hcell
      clear hcell
      by_cases hv : (v == zs[k]?.getD 0) = true
      · go_wp2
        go_ret
        exact ⟨⟨_, rfl, ⟨fun _ => ⟨k, hlt, by simpa using (beq_iff_eq.1 hv).symm⟩, fun _ => by omega⟩⟩, rfl⟩
      · have hv' : (v == zs[k]?.getD 0) = false := by simpa using hv
        clear hv
        go_wp2
        go_round
        case rel => exact ⟨k + 1, by omega, by go_num, fun j hj => by
          by_cases h : j = k
          · subst h; intro e; rw [e] at hv'; simp at hv'
          · exact Hn.out j (by omega)⟩
        case measure => simp [intOf]; omega
    · have Hc : Hid (∀ i, i < len → w.cell? ⟨b, off + i, none⟩ = some (.int .i64 (zs[i]?.getD 0))) := hcell
      clear hcell
      go_wp2
      go_ret
      refine ⟨⟨_, rfl, ⟨fun h => absurd h (by omega), fun ⟨j, h1, h2⟩ => absurd h2 (Hn.out j (by omega))⟩⟩, rfl⟩

def hasB (v : Int) (zs : List Int) (len : Nat) : Bool := (zs.take len).contains v
theorem hasB_iff (v : Int) (zs : List Int) (len : Nat) (h : len ≤ zs.length) : hasB v zs len = true ↔ ∃ j, j < len ∧ zs[j]?.getD 0 = v := by
  unfold hasB
  rw [List.contains_iff_mem, List.mem_take_iff_getElem]
  constructor
  · rintro ⟨j, hj, e⟩
    exact ⟨j, by omega, by simp [e, List.getElem?_eq_getElem (by omega : j < zs.length)]⟩
  · rintro ⟨j, hj, e⟩
    exact ⟨j, by omega, by rw [← e]; simp [List.getElem?_eq_getElem (by omega : j < zs.length)]⟩
set_option maxHeartbeats 400000 in
theorem contains_any (b off len cap : Nat) (zs : List Int) (v : Int) (w : World) (hl : len ≤ 1000) (hz : len ≤ zs.length) (hcell : ∀ i, i < len → w.cell? ⟨b, off + i, none⟩ = some (.int .i64 (zs[i]?.getD 0))) :
    Calls Tryz.prog 103 #[.slice (some ⟨b, off, none⟩) len cap, .int .i64 v] w fun e w' => e = .returned (.bool (hasB v zs len)) ∧ w' = w := by
  have Hc : Hid (∀ i, i < len → w.cell? ⟨b, off + i, none⟩ = some (.int .i64 (zs[i]?.getD 0))) := hcell
  clear hcell
  have Hb : Hid (hasB v zs len = true ↔ ∃ j, j < len ∧ zs[j]?.getD 0 = v) := hasB_iff v zs len hz
  go_enter Tryz.func103, Tryz.ntmps103
  go_wp2_with fail
  refine (index_any b off len cap zs v w hl Hc.out).mono ?_
  rintro e w' ⟨⟨r, rfl, hr⟩, hw⟩
  subst hw
  have Hr : Hid (0 ≤ r ↔ ∃ j, j < len ∧ zs[j]?.getD 0 = v) := hr
  clear hr
  go_wp2
  go_ret
  refine ⟨ret_bool ?_, rfl⟩
  rw [Bool.eq_iff_iff, Hb.out, decide_eq_true_iff]
  exact Hr.out
def rightB (a b c d : Int) : Bool := markB a && (markB b && !hasB b [a, b, c, d] 1 && (markB c && !hasB c [a, b, c, d] 2 && (markB d && !hasB d [a, b, c, d] 3)))
end Go.Proofs.YtkaolpnbddjdpaaGreatDoor
namespace Go.Proofs.YtkaolpnbddjdpaaGreatDoor
open Go.Shelf Go.RowKit
def renB : Go.Shelf.Ren := ⟨fun | 166 => 70 | 167 => 105 | 169 => 71 | 240 => 107 | 276 => 143 | n => n, fun | 0 => 0 | 3 => 3 | 4 => 4 | 5 => 5 | 9 => 9 | 20 => 20 | 37 => 22 | 70 => 103 | 72 => 105 | 75 => 108 | 164 => 177 | 80 => 111 | 127 => 148 | n => n, fun | n => n⟩
theorem laysWS : Go.Proofs.Lays.n166 Tryz.prog renB := {
  mixed := by kernel_rfl
  f166 := Tryz.func70.trans (congrArg some (by kernel_rfl))
  f240 := Tryz.func107.trans (congrArg some (by kernel_rfl))
  f276 := Tryz.func143.trans (congrArg some (by kernel_rfl))
  t0 := Tryz.underlying0
  a0 := Tryz.isAgg0
  z0 := Tryz.sizeOf0
  v0 := Tryz.zeroValue0
  t3 := Tryz.underlying3
  a3 := Tryz.isAgg3
  z3 := Tryz.sizeOf3
  v3 := Tryz.zeroValue3
  t4 := Tryz.underlying4
  a4 := Tryz.isAgg4
  z4 := Tryz.sizeOf4
  v4 := Tryz.zeroValue4
  t9 := Tryz.underlying9
  a9 := Tryz.isAgg9
  z9 := Tryz.sizeOf9
  v9 := Tryz.zeroValue9
  t20 := Tryz.underlying20
  a20 := Tryz.isAgg20
  z20 := Tryz.sizeOf20
  v20 := Tryz.zeroValue20
  t37 := Tryz.underlying22
  a37 := Tryz.isAgg22
  z37 := Tryz.sizeOf22
  v37 := Tryz.zeroValue22
  t70 := Tryz.underlying103
  a70 := Tryz.isAgg103
  z70 := Tryz.sizeOf103
  v70 := Tryz.zeroValue103
  t72 := Tryz.underlying105
  a72 := Tryz.isAgg105
  z72 := Tryz.sizeOf105
  v72 := Tryz.zeroValue105
  t75 := Tryz.underlying108
  a75 := Tryz.isAgg108
  z75 := Tryz.sizeOf108
  v75 := Tryz.zeroValue108
  t164 := Tryz.underlying177
  a164 := Tryz.isAgg177
  z164 := Tryz.sizeOf177
  v164 := Tryz.zeroValue177 }
theorem laysWB : Go.Proofs.Lays.n167 Tryz.prog renB := {
  mixed := by kernel_rfl
  f167 := Tryz.func105.trans (congrArg some (by kernel_rfl))
  f240 := Tryz.func107.trans (congrArg some (by kernel_rfl))
  f276 := Tryz.func143.trans (congrArg some (by kernel_rfl))
  t0 := Tryz.underlying0
  a0 := Tryz.isAgg0
  z0 := Tryz.sizeOf0
  v0 := Tryz.zeroValue0
  t4 := Tryz.underlying4
  a4 := Tryz.isAgg4
  z4 := Tryz.sizeOf4
  v4 := Tryz.zeroValue4
  t5 := Tryz.underlying5
  a5 := Tryz.isAgg5
  z5 := Tryz.sizeOf5
  v5 := Tryz.zeroValue5
  t9 := Tryz.underlying9
  a9 := Tryz.isAgg9
  z9 := Tryz.sizeOf9
  v9 := Tryz.zeroValue9
  t20 := Tryz.underlying20
  a20 := Tryz.isAgg20
  z20 := Tryz.sizeOf20
  v20 := Tryz.zeroValue20
  t37 := Tryz.underlying22
  a37 := Tryz.isAgg22
  z37 := Tryz.sizeOf22
  v37 := Tryz.zeroValue22
  t70 := Tryz.underlying103
  a70 := Tryz.isAgg103
  z70 := Tryz.sizeOf103
  v70 := Tryz.zeroValue103
  t72 := Tryz.underlying105
  a72 := Tryz.isAgg105
  z72 := Tryz.sizeOf105
  v72 := Tryz.zeroValue105
  t75 := Tryz.underlying108
  a75 := Tryz.isAgg108
  z75 := Tryz.sizeOf108
  v75 := Tryz.zeroValue108
  t164 := Tryz.underlying177
  a164 := Tryz.isAgg177
  z164 := Tryz.sizeOf177
  v164 := Tryz.zeroValue177 }
theorem laysSt : Go.Proofs.Lays.n169 Tryz.prog renB := {
  mixed := by kernel_rfl
  f169 := Tryz.func71.trans (congrArg some (by kernel_rfl))
  t0 := Tryz.underlying0
  a0 := Tryz.isAgg0
  z0 := Tryz.sizeOf0
  v0 := Tryz.zeroValue0
  t3 := Tryz.underlying3
  a3 := Tryz.isAgg3
  z3 := Tryz.sizeOf3
  v3 := Tryz.zeroValue3
  t9 := Tryz.underlying9
  a9 := Tryz.isAgg9
  z9 := Tryz.sizeOf9
  v9 := Tryz.zeroValue9
  t37 := Tryz.underlying22
  a37 := Tryz.isAgg22
  z37 := Tryz.sizeOf22
  v37 := Tryz.zeroValue22
  t70 := Tryz.underlying103
  a70 := Tryz.isAgg103
  z70 := Tryz.sizeOf103
  v70 := Tryz.zeroValue103
  t72 := Tryz.underlying105
  a72 := Tryz.isAgg105
  z72 := Tryz.sizeOf105
  v72 := Tryz.zeroValue105
  t127 := Tryz.underlying148
  a127 := Tryz.isAgg148
  z127 := Tryz.sizeOf148
  v127 := Tryz.zeroValue148 }
theorem extraB : Builder.Extra Tryz.prog renB where
  sizeBuilder := by kernel_rfl
  liesBuilder := by kernel_rfl
  t5 := Tryz.underlying5
  a5 := Tryz.isAgg5
  z5 := Tryz.sizeOf5
  v5 := Tryz.zeroValue5
  infoByte := by kernel_rfl
  cellsByte := by kernel_rfl
  sizeByte := by kernel_rfl
  neB5 := by decide
theorem writeByte_any (B b : Nat) (bs : List Value) (c : Int) (w : World) (h : Lib.IsBuilder 105 5 B b bs w) (hlen : bs.length + 1 ≤ 140737488355328) (hBw : B ≤ w.heap.size) :
    Calls Tryz.prog 105 #[.pointer (some ⟨b, 0, none⟩), .int .u8 c] w fun e w' => e = .returned .nilIface ∧ (Lib.BuilderAt 105 5 B b (.pointer (some ⟨b, 0, none⟩)) (bs ++ [.int .u8 c]) w' ∧ Below B w w') := Any.Builder_WriteByte laysWB extraB B b bs c w h hlen hBw
theorem writeString_any (B b : Nat) (bs : List Value) (s : ByteArray) (w : World) (h : Lib.IsBuilder 105 5 B b bs w) (hlen : bs.length + s.size ≤ 140737488355328) (hBw : B ≤ w.heap.size) :
    Calls Tryz.prog 70 #[.pointer (some ⟨b, 0, none⟩), .string s] w fun e w' => e = .returned (.tuple #[.int .i64 s.size, .nilIface]) ∧ (Lib.BuilderAt 105 5 B b (.pointer (some ⟨b, 0, none⟩)) (bs ++ Lib.strCells s) w' ∧ Below B w w') := Any.Builder_WriteString laysWS extraB B b bs s w h hlen hBw
theorem string_any (B b : Nat) (l : List UInt8) (w : World) (h : Lib.IsBuilder 105 5 B b (Lib.byteCells l) w) (hBw : B ≤ w.heap.size) :
    Calls Tryz.prog 71 #[.pointer (some ⟨b, 0, none⟩)] w fun e w' => e = .returned (.string ⟨l.toArray⟩) ∧ Below B w w' := Any.Builder_String_any laysSt extraB B b l w h hBw
end Go.Proofs.YtkaolpnbddjdpaaGreatDoor
namespace Go.Proofs.YtkaolpnbddjdpaaGreatDoor
open Go.RowKit Go.Shelf
attribute [local go_sem] Oper.semAt_some
/-- Whether the byte at a place is released. -/
def st (s : ByteArray) (rel : Int) : Nat → Bool
  | 0 => false
  | k + 1 => !st s rel k && (byt s k == rel)
def item (s : ByteArray) (rel : Int) (j : Nat) : UInt8 × Bool := (s.data.toList[j]?.getD 0, st s rel j)
def upto (s : ByteArray) (rel : Int) (k : Nat) : List (UInt8 × Bool) := (List.range k).map (item s rel)
theorem upto_succ (s : ByteArray) (rel : Int) (k : Nat) : upto s rel (k + 1) = upto s rel k ++ [item s rel k] := by simp [upto, List.range_succ]
theorem upto_length (s : ByteArray) (rel : Int) (k : Nat) : (upto s rel k).length = k := by simp [upto]
theorem byte_getD (s : ByteArray) (k : Nat) (h : k < s.size) : s.data.toList[k]?.getD 0 = s[k]'h := by
  have h' : k < s.data.toList.length := by simpa using h
  rw [List.getElem?_eq_getElem h']
  rfl
def encP (x : UInt8 × Bool) : Array Value := #[.int .u8 (x.1.toNat : Int), .bool x.2]
/-- The two boxes lie as they lay. -/
def Two (bt bs : Nat) (W W' : World) : Prop := W'.heap[bt]? = W.heap[bt]? ∧ W'.heap[bs]? = W.heap[bs]?
theorem Two.refl (bt bs : Nat) (W : World) : Two bt bs W W := ⟨rfl, rfl⟩
theorem Two.trans {bt bs : Nat} {A B C : World} (h : Two bt bs A B) (k : Two bt bs B C) : Two bt bs A C := ⟨k.1.trans h.1, k.2.trans h.2⟩
theorem Two.put {bt bs : Nat} {w : World} (h1 : bt < w.heap.size) (h2 : bs < w.heap.size) (W : World) (l : Nat) (o o' : Obj) (hl : w.heap.size ≤ l) (_ : W.heap[l]? = some o) (_ : o.isCells = false) (_ : o.isWalk = false) : Two bt bs W (W.putObj l o') :=
  ⟨World.putObj_heap_other (by omega), World.putObj_heap_other (by omega)⟩
theorem Two.cellT {bt bs : Nat} {W W' : World} (h : Two bt bs W W') (o : Nat) : W'.cell? ⟨bt, o, none⟩ = W.cell? ⟨bt, o, none⟩ := World.cell?_of_block (w := W) h.1
theorem Two.cellS {bt bs : Nat} {W W' : World} (h : Two bt bs W W') (o : Nat) : W'.cell? ⟨bs, o, none⟩ = W.cell? ⟨bs, o, none⟩ := World.cell?_of_block (w := W) h.2
set_option maxRecDepth 100000 in
set_option maxHeartbeats 2000000 in
theorem scan1_in (F : Fence) (n : Nat) (hF : F.fn 169) (hro : F.round = none) (hn : 1 ≤ n) (l bt bs : Nat) (s : ByteArray) (rel : Int) (hs : s.size ≤ 20000) (J Jx : List (UInt8 × Bool) → World → Prop)
    (hY : ∀ pre x W, J pre W → pre.length < s.size → YieldAt F (n - 1) Tryz.prog l (encP x) W fun e W' =>
      (e = .returned (.bool true) ∧ J (pre ++ [x]) W' ∧ Two bt bs W W') ∨ (e = .returned (.bool false) ∧ Jx (pre ++ [x]) W'))
    (W : World) (ht : W.cell? ⟨bt, 0, none⟩ = some (.string s)) (hr : W.cell? ⟨bs, 3, none⟩ = some (.int .i64 rel)) (h0 : J [] W) :
    CallsIn F n Tryz.prog 169 #[.func (.yield l) #[] #[], .pointer (some ⟨bt, 0, none⟩), .pointer (some ⟨bs, 0, none⟩)] W fun e W' => (∃ v, e = .returned v) ∧
      ((∃ ys, ys = upto s rel s.size ∧ J ys W') ∨ (∃ pre, (∃ k, k ≤ s.size ∧ pre = upto s rel k) ∧ Jx pre W')) := by
  have hs' : (s.size : Int) ≤ 20000 := by omega
  refine callsIn_of_wp Tryz.func169 rfl hF ?_ hro
  simp only [Tryz.ntmps169, List.size_toArray, List.length_cons, List.length_nil, Nat.reduceAdd, Nat.reduceSub, Array.replicate_succ, Array.replicate_zero, List.push_toArray, List.append_toArray, List.nil_append, List.cons_append]
  gi_wp2
  gi_loopw [4, 9] (fun r i wr => ∃ k : Nat, k ≤ s.size ∧ i = .int .i64 k ∧ r = .bool (st s rel k) ∧ J (upto s rel k) wr ∧ Two bt bs W wr)
    (fun _ i _ => s.size - (intOf i).toNat)
  case atStart => exact ⟨0, Nat.zero_le _, rfl, rfl, h0, Two.refl _ _ _⟩
  case round =>
    obtain ⟨k, hk, rfl, rfl, hJs, hnx⟩ := hrel
    have htw : wr.cell? ⟨bt, 0, none⟩ = some (.string s) := (hnx.cellT 0).trans ht
    by_cases hlt : k < s.size
    · obtain ⟨fn, tmps, assign, body, hy, hR⟩ := hY _ (item s rel k) wr hJs (by rw [upto_length]; exact hlt)
      unfold encP item at hy
      rw [byte_getD s k hlt] at hy
      dsimp only at hy
      have hlt' : (k : Int) < (s.size : Int) := by omega
      have HJ : Hid (J (upto s rel k) wr ∧ Two bt bs W wr) := ⟨hJs, hnx⟩
      clear hJs hnx
      gi_wp2
      refine hR.mono ?_
      rintro e W3 (⟨rfl, hJ3, hk3⟩ | ⟨rfl, hJx3⟩)
      · have hr3 : W3.cell? ⟨bs, 3, none⟩ = some (.int .i64 rel) := (hk3.cellS 3).trans ((HJ.out.2.cellS 3).trans hr)
        have HK : Hid (J (upto s rel k ++ [item s rel k]) W3 ∧ Two bt bs wr W3) := ⟨hJ3, hk3⟩
        clear hJ3 hk3 hy hR
        cases hst : st s rel k
        · gi_wp2
          go_roundw
          case rel => exact ⟨k + 1, by omega, by simp, by simp [st, hst, byt_get], by rw [upto_succ]; exact HK.out.1, HJ.out.2.trans HK.out.2⟩
          case measure => simp [intOf]; omega
        · gi_wp2
          go_roundw
          case rel => exact ⟨k + 1, by omega, by simp, by simp [st, hst], by rw [upto_succ]; exact HK.out.1, HJ.out.2.trans HK.out.2⟩
          case measure => simp [intOf]; omega
      · gi_wp2
        refine bodyPost_ret (results_none rfl _ _ _) rfl ?_
        exact ⟨⟨_, rfl⟩, .inr ⟨_, ⟨k + 1, by omega, (upto_succ _ _ _).symm⟩, hJx3⟩⟩
    · obtain rfl : k = s.size := by omega
      gi_wp2
      go_end0
      exact ⟨⟨_, rfl⟩, .inl ⟨_, rfl, hJs⟩⟩
end Go.Proofs.YtkaolpnbddjdpaaGreatDoor
namespace Go.Proofs.YtkaolpnbddjdpaaGreatDoor
open Go.ChangeShapes Go.WideShapes Go.ChangeAt Go.RowKit Go.Shelf
attribute [local go_sem] Oper.semAt_some
set_option maxHeartbeats 1000000 in
theorem scan_in (F : Fence) (n : Nat) (hF : F.fn 141) (hro : F.round = none) (a b c d : Int) (s : ByteArray) (w : World) :
    CallsIn F n Tryz.prog 141 #[.agg #[.int .i64 a, .int .i64 b, .int .i64 c, .int .i64 d], .string s] w fun e w' => e = .returned (.func (.func 169) #[] #[.pointer (some ⟨w.heap.size + 1, 0, none⟩), .pointer (some ⟨w.heap.size, 0, none⟩)]) ∧ w' = (w.alloc (.cells #[.int .i64 a, .int .i64 b, .int .i64 c, .int .i64 d] 24)).alloc (.cells #[.string s] 9) := by
  refine callsIn_of_wp Tryz.func141 rfl hF ?_ hro
  simp only [Tryz.ntmps141, List.size_toArray, List.length_cons, List.length_nil, Nat.reduceAdd, Nat.reduceSub, Array.replicate_succ, Array.replicate_zero, List.push_toArray, List.append_toArray, List.nil_append, List.cons_append]
  gi_wp2
  go_ret
  exact ⟨rfl, rfl⟩
theorem scan_stops (F : Fence) (n : Nat) (hF : F.fn 169) (hro : F.round = none) (hn : 1 ≤ n) (bt bs : Nat) (s : ByteArray) (rel : Int) (hs : s.size ≤ 20000) (w : World) (hbt : bt < w.heap.size) (hbs : bs < w.heap.size)
    (ht : w.cell? ⟨bt, 0, none⟩ = some (.string s)) (hr : w.cell? ⟨bs, 3, none⟩ = some (.int .i64 rel)) :
    SeqStopsK F n Tryz.prog 169 #[.pointer (some ⟨bt, 0, none⟩), .pointer (some ⟨bs, 0, none⟩)] encP (Two bt bs) (fun ys => ys = upto s rel s.size) (fun pre => ∃ k, k ≤ s.size ∧ pre = upto s rel k) s.size w := fun l J Jx W hW _ _ hY h0 =>
  scan1_in F n hF hro hn l bt bs s rel hs J Jx hY W ((hW.cell (p := ⟨bt, 0, none⟩) hbt).trans ht) ((hW.cell (p := ⟨bs, 3, none⟩) hbs).trans hr) h0
/-- A loop that collects bytes in a box: the box E holds a slice that owns the bytes xs; the blocks of L lie as they lay; nothing below n₀ has turned. -/
structure EI (n₀ E : Nat) (L : List (Nat × Obj)) (w W : World) (v : Value) (xs : List Int) : Prop where
  box : Boxed W E 22 v
  row : W.ownsRow n₀ 5 1 v xs.length (xs.map (Value.int .u8))
  fix : ∀ p ∈ L, W.heap[p.1]? = some p.2
  bel : Below n₀ w W
  hn : n₀ ≤ E
  cl : ∀ p ∈ L, (∃ c t, p.2 = .cells c t ∧ t ≠ 5) ∧ p.1 ≠ E
  w0 : n₀ ≤ w.heap.size
theorem EI.lt {n₀ E : Nat} {L : List (Nat × Obj)} {w W : World} {v : Value} {xs : List Int} (h : EI n₀ E L w W v xs) {p : Nat × Obj} (hp : p ∈ L) : p.1 < W.heap.size := (Array.getElem?_eq_some_iff.1 (h.fix p hp)).1
theorem EI.sz {n₀ E : Nat} {L : List (Nat × Obj)} {w W : World} {v : Value} {xs : List Int} (h : EI n₀ E L w W v xs) : n₀ ≤ W.heap.size := Nat.le_trans h.w0 h.bel.size
theorem EI.not_row {n₀ E : Nat} {L : List (Nat × Obj)} {w W : World} {v : Value} {xs : List Int} (h : EI n₀ E L w W v xs) {p : Nat × Obj} (hp : p ∈ L) : some p.1 ≠ v.ownBlock := by
  intro e
  rcases h.row.2 with ⟨rfl, _⟩ | ⟨g, cap, cur, rfl, _, hgb, _⟩
  · simp [Value.ownBlock] at e
  · obtain rfl : p.1 = g := by simpa [Value.ownBlock] using e
    obtain ⟨⟨c, t, e1, e2⟩, _⟩ := h.cl p hp
    have := h.fix p hp
    rw [hgb, e1] at this
    cases this
    exact e2 rfl
/-- What keeps all that lay there keeps it. -/
theorem EI.below {n₀ E : Nat} {L : List (Nat × Obj)} {w W W' : World} {v : Value} {xs : List Int} (h : EI n₀ E L w W v xs) (hb : Below W.heap.size W W') : EI n₀ E L w W' v xs := by
  have hg : W.grownBy W' none := ⟨hb.os, hb.tape, hb.output, hb.size, fun k hk _ => hb.block k hk⟩
  have hrk : W'.ownsRow n₀ 5 1 v xs.length (xs.map (Value.int .u8)) := by
    refine h.row.kept hg ?_
    rcases h.row.2 with ⟨rfl, _⟩ | ⟨g, cap, cur, rfl, _, hgb, _⟩
    · exact .inl rfl
    · exact .inr (by simp [Value.ownBlock])
  exact ⟨h.box.kept hg (by simp), hrk, fun p hp => (hb.block p.1 (h.lt hp)).trans (h.fix p hp), h.bel.trans (hb.mono h.sz), h.hn, h.cl, h.w0⟩
theorem EI.app {n₀ E : Nat} {L : List (Nat × Obj)} {w W w1 : World} {v v' : Value} {xs : List Int} {x : Int} {tmp : Obj} (h : EI n₀ E L w W v xs)
    (hown' : w1.ownsRow n₀ 5 1 v' (xs.length + 1) (xs.map (Value.int .u8) ++ [.int .u8 x])) (hgrow : (W.alloc tmp).grownBy w1 v.ownBlock) :
    Boxed w1 E 22 v ∧ EI n₀ E L w (w1.setCell ⟨E, 0, none⟩ v') v' (xs ++ [x]) ∧ KeepsOthers W (w1.setCell ⟨E, 0, none⟩ v') ∧ ∀ p ∈ L, w1.heap[p.1]? = some p.2 := by
  obtain ⟨hv1, hv2, hr2, hk2, hb2⟩ := h.box.appended (by decide) h.row h.sz h.hn hown' hgrow
  have hfx : ∀ p ∈ L, w1.heap[p.1]? = some p.2 := fun p hp => by
    rw [hgrow.block p.1 (by have := h.lt hp; simp; omega) (h.not_row hp), Below.heap_alloc W tmp p.1 (h.lt hp)]
    exact h.fix p hp
  refine ⟨hv1, ⟨hv2, by simpa using hr2, fun p hp => ?_, h.bel.trans hb2, h.hn, h.cl, h.w0⟩, hk2, hfx⟩
  have h2 : (w1.setCell ⟨E, 0, none⟩ v').heap[p.1]? = w1.heap[p.1]? := Below.heap_setCell w1 ⟨E, 0, none⟩ v' p.1 (h.cl p hp).2
  rw [h2]
  exact hfx p hp
/-- It speaks of cells alone, and of nothing beyond. -/
theorem EI.own {β : Type} {n₀ E B : Nat} {w : World} (L : β → List (Nat × Obj)) (f : β → List Int) (hB : n₀ ≤ B) : OwnFrom B (fun (s : β) W => ∃ v, EI n₀ E (L s) w W v (f s)) := by
  rintro s W W' row ⟨v, h⟩ hg hr
  have hnc : ∀ {b : Nat} {c : Array Value} {t : TypeId}, W.heap[b]? = some (.cells c t) → some b ≠ row := by
    intro b c t hb e
    obtain ⟨_, o, ho, hc⟩ := hr b e.symm
    rw [hb] at ho
    cases ho
    simp [Obj.isCells] at hc
  refine ⟨v, h.box.kept hg (hnc h.box), h.row.kept hg ?_, fun p hp => ?_, h.bel.grown hg h.sz (fun k e => Nat.le_trans hB (hr k e).1), h.hn, h.cl, h.w0⟩
  · rcases h.row.2 with ⟨rfl, _⟩ | ⟨g, cap, cur, rfl, _, hgb, _⟩
    · exact .inl rfl
    · exact .inr (fun e => hnc hgb (by simpa [Value.ownBlock] using e))
  · obtain ⟨⟨c, t, e1, _⟩, _⟩ := h.cl p hp
    have hf := h.fix p hp
    exact (hg.block p.1 (h.lt hp) (hnc (by rw [hf, e1]))).trans hf
theorem info5 : (Tryz.prog.info? 5).map (fun i => (i.zero, i.size, i.bytes)) = some (some (.int .u8 0), 1, 1) := by kernel_rfl
theorem conv_row {W : World} {n₀ : Nat} {v : Value} {xs : List Int} (h : W.ownsRow n₀ 5 1 v xs.length (xs.map (Value.int .u8))) : (convert 22 9 v).run Tryz.prog W = .ok (.string (strOfNums xs)) W := by
  rcases h.2 with ⟨rfl, e⟩ | ⟨g, cap, cur, rfl, _, hgb, _, _, hcs, htk⟩
  · have : xs = [] := List.length_eq_zero_iff.1 e
    subst this
    exact run_convert_bytes_nil W 22 5 Tryz.underlying22 Tryz.underlying5 0 0 9 Tryz.underlying9
  · refine run_convert_bytes_arg W 22 5 Tryz.underlying22 Tryz.underlying5 g 0 xs.length cap xs rfl (fun i hi => ?_) 9 Tryz.underlying9
    have h1 : (cur.toList.take (xs.length * 1))[i]? = (xs.map (Value.int .u8))[i]? := by rw [htk]
    rw [List.getElem?_take_of_lt (by omega)] at h1
    simp [World.cell?, hgb, List.getElem?_eq_getElem hi] at h1 ⊢
    rw [h1]
theorem cell_one_at (w : World) (x : Value) (t : TypeId) (g : Nat) (hg : g = w.heap.size) : ∀ j u, [x][j]? = some u → (w.alloc (.cells #[x] t)).cell? ((⟨g, 0, none⟩ : Addr).add j) = some u := by
  subst hg
  exact cell_one_new w x t
theorem keepsOthers_of_below {W W' : World} (h : Below W.heap.size W W') : KeepsOthers W W' := ⟨h.size, fun k _ hk _ => (h.block k (Array.getElem?_eq_some_iff.1 hk).1).trans hk⟩
end Go.Proofs.YtkaolpnbddjdpaaGreatDoor
namespace Go.Proofs.YtkaolpnbddjdpaaGreatDoor
open Go.ChangeShapes Go.WideShapes Go.ChangeAt Go.RowKit Go.Shelf
attribute [local go_sem] Oper.semAt_some
/-- Is the number one of the four? -/
def ownB (a b c d x : Int) : Bool := (x == a) || ((x == b) || ((x == c) || (x == d)))
set_option maxHeartbeats 400000 in
theorem isMark_any (a b c d x : Int) (w : World) (h0 : 0 ≤ x) (h1 : x ≤ 255) : Calls Tryz.prog 142 #[.agg #[.int .i64 a, .int .i64 b, .int .i64 c, .int .i64 d], .int .u8 x] w fun e w' => e = .returned (.bool (ownB a b c d x)) ∧ Below w.heap.size w w' := by
  go_enter Tryz.func142, Tryz.ntmps142
  go_wp2
  all_goals
    go_ret
    refine ⟨ret_bool ?_, (Below.refl _ _).alloc (Nat.le_refl _) _⟩
    go_light
    simp_all [ownB]
end Go.Proofs.YtkaolpnbddjdpaaGreatDoor
