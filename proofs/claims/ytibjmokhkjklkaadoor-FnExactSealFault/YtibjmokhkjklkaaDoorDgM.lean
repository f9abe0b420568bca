/- The map of digits, and their record's cells. -/
import Derived.Test.YtibjmokhkjklkaaDoorHxP
import Derived.Maps.RangeWalk
import Derived.Maps.Views
namespace Go.Proofs.YtibjmokhkjklkaaDoor
open Go.ChangeShapes Go.WideShapes Go.ChangeAt Go.RowKit
open Go.Maps (Keyed)
/-- How an element of the map reads. -/
def rdU : Value → Option (DataW Int × List MemPlace)
  | .int .u8 a => some (.held a, [])
  | _ => none
theorem rdU_mk (a : Int) : rdU (.int .u8 a) = some (.held a, []) := rfl
theorem rdU_inv {v : Value} {y : DataW Int × List MemPlace} (h : rdU v = some y) : ∃ a, v = .int .u8 a ∧ y = (.held a, []) := by
  unfold rdU at h
  split at h
  · cases h
    exact ⟨_, rfl, rfl⟩
  · cases h
def kyU (p : Int × Int) : Lit × DataW Int := (.int .i32 p.1, .held p.2)
def mapU (l : List (Int × Int)) : DataW Int := .map (l.map kyU)
theorem i32_keyed : Keyed Tryd.prog 21 := Maps.int_keyed Tryd.underlying21
theorem i32_key {n : Int} (h : -2147483648 ≤ n ∧ n ≤ 2147483647) : keyOf Tryd.prog 21 (.int .i32 n) = some (.int .i32 n) :=
  Maps.keyOf_int_mk Tryd.underlying21 (by
    have h1 : IntKind.min .i32 = -2147483648 := by decide
    have h2 : IntKind.max .i32 = 2147483647 := by decide
    simp only [Lit.wf, h1, h2, Bool.and_eq_true, decide_eq_true_eq]
    exact h)
def insU (s : Int × Int) : List (Int × Int) → List (Int × Int)
  | [] => [s]
  | y :: r => if s.1 < y.1 then s :: y :: r else y :: insU s r
theorem ins_mapU (s : Int × Int) : ∀ l : List (Int × Int), DataW.insert (kyU s) (l.map kyU) = (insU s l).map kyU
  | [] => rfl
  | y :: r => by
    simp only [List.map_cons, DataW.insert, insU]
    have hb : (kyU s).1.before (kyU y).1 = decide (s.1 < y.1) := rfl
    rw [hb, ins_mapU s r]
    by_cases h : s.1 < y.1 <;> simp [h]
theorem same_keyU (a b : Int) : Lit.sameKey (.int .i32 a) (.int .i32 b) = decide (a = b) := by simp [Lit.sameKey]
theorem put_mapU (s : Int × Int) (l : List (Int × Int)) : (mapU l).put (.int .i32 s.1) (.held s.2) = mapU (insU s (l.filter fun x => decide (x.1 ≠ s.1))) := by
  have : (l.map kyU).filter (fun p => !p.1.sameKey (.int .i32 s.1)) = (l.filter fun x => decide (x.1 ≠ s.1)).map kyU := by
    rw [List.filter_map]
    congr 1
    apply List.filter_congr
    intro x _
    simp [kyU, same_keyU]
  show DataW.map (DataW.insert (kyU s) ((l.map kyU).filter _)) = _
  rw [this, ins_mapU]
  rfl
theorem at_mapU (n : Int) (l : List (Int × Int)) (z : DataW Int) : (mapU l).atKey (.int .i32 n) z = match l.find? (fun x => decide (x.1 = n)) with | some s => .held s.2 | none => z := by
  unfold mapU DataW.atKey
  dsimp only
  rw [List.find?_map]
  have : ((fun p : Lit × DataW Int => p.1.sameKey (.int .i32 n)) ∘ kyU) = fun x => decide (x.1 = n) := by
    funext x
    simp [kyU, same_keyU]
  rw [this]
  cases l.find? (fun x => decide (x.1 = n)) <;> rfl
theorem insU_last {s : Int × Int} : ∀ {l : List (Int × Int)}, (∀ x ∈ l, x.1 < s.1) → insU s (l.filter fun x => decide (x.1 ≠ s.1)) = l ++ [s]
  | [], _ => rfl
  | y :: r, h => by
    have hy := h y (by simp)
    have e : decide (y.1 ≠ s.1) = true := by simp; omega
    rw [List.filter_cons_of_pos (by simpa using e)]
    simp only [insU]
    rw [if_neg (by omega), insU_last (fun x hx => h x (by simp [hx]))]
    rfl
/-- The first k digits and their values. -/
def dgs (k : Nat) : List (Int × Int) := (List.range k).map fun j => (hexD j, (j : Int))
theorem dgs_succ (k : Nat) : dgs (k + 1) = dgs k ++ [(hexD k, (k : Int))] := by unfold dgs; rw [List.range_succ, List.map_append]; rfl
theorem dgs_put (k : Nat) : (mapU (dgs k)).put (.int .i32 (hexD k)) (.held (k : Int)) = mapU (dgs (k + 1)) := by
  rw [put_mapU (hexD k, (k : Int)), insU_last (fun x hx => ?_), dgs_succ]
  unfold dgs at hx
  obtain ⟨j, hj, rfl⟩ := List.mem_map.1 hx
  exact hexD_mono (List.mem_range.1 hj)
theorem run_makeU (w : World) : (Instr.makeMap 83 none).run Tryd.prog w = .ok (.map (some w.heap.size)) (w.alloc (.map #[] 0)) := by
  simp [Instr.makeMap, Result.andThen]
/-- The cells of a record that begins with the digits'. -/
def digF (d s : Int) (k : Nat) (m : Value) (r : Nat → Value) (i : Nat) : Value := if i = 0 then .int .u32 d else if i = 1 then .int .i32 s else if i = 2 then .int .u32 0 else if i = 19 then m else if 20 ≤ i then r i else if i - 3 < k then .int .u8 (hexD (i - 3)) else .int .u8 0
theorem digF_let {d s : Int} {k : Nat} {m : Value} {r : Nat → Value} {j : Nat} (hj : j < 16) (hk : j < k) : digF d s k m r (3 + j) = .int .u8 (hexD j) := by
  unfold digF
  rw [if_neg (by omega), if_neg (by omega), if_neg (by omega), if_neg (by omega), if_neg (by omega), if_pos (by omega)]
  congr 2
  omega
theorem digF_set {d s : Int} {k : Nat} {m : Value} {r : Nat → Value} (hk : k < 16) (i : Nat) : (if i = 3 + k then Value.int .u8 (hexD k) else digF d s k m r i) = digF d s (k + 1) m r i := by
  unfold digF
  repeat' split
  all_goals first | rfl | omega | (congr 2; omega) | (exfalso; omega)
theorem digF_map {d s : Int} {k : Nat} {m m' : Value} {r : Nat → Value} (i : Nat) : (if i = 19 then m' else digF d s k m r i) = digF d s k m' r i := by
  unfold digF
  repeat' split
  all_goals first | rfl | omega
theorem digF_done {d d' s : Int} {k : Nat} {m : Value} {r : Nat → Value} (i : Nat) : (if i = 0 then Value.int .u32 d' else digF d s k m r i) = digF d' s k m r i := by
  unfold digF
  repeat' split
  all_goals first | rfl | omega
theorem digF_lock {d s s' : Int} {k : Nat} {m : Value} {r : Nat → Value} (i : Nat) : (if i = 1 then Value.int .i32 s' else digF d s k m r i) = digF d s' k m r i := by
  unfold digF
  repeat' split
  all_goals first | rfl | omega
end Go.Proofs.YtibjmokhkjklkaaDoor
