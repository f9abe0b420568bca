/- Texts of ours put together: EtQ, DgM. -/
import Derived.Test.YtibjmokhkjklkaaDoorG02
import Derived.Test.YtibjmokhkjklkaaDoorG03
import Derived.Maps.RangeWalk
import Derived.Maps.Views
namespace Go.Proofs.YtibjmokhkjklkaaDoor
open Go.ChangeShapes Go.WideShapes Go.ChangeAt Go.RowKit
/-- The word of a text that is taken. -/
def takeT (a : ByteArray) : ByteArray := if a.size = 0 then ⟨#[45]⟩ else ⟨(hexB a.data.toList).toArray⟩
theorem takeT_size {a : ByteArray} (h : a.size ≤ 4000) : (takeT a).size ≤ 8000 := by
  unfold takeT
  split
  · decide
  · have e : (⟨(hexB a.data.toList).toArray⟩ : ByteArray).size = (hexB a.data.toList).length := by simp [ByteArray.size]
    have e2 : a.data.toList.length = a.size := rfl
    rw [e]
    unfold hexB
    rw [List.length_map, hexZ_len, e2]
    omega
/-- The words of an event. -/
def evR (e : EvR) : List ByteArray := if e.kind = 1 then [evW 1, e.a] else if e.kind = 2 then [evW 2, e.a, e.b, e.c] else if e.kind = 3 then [evW 3, takeT e.a] else [evW 4]
theorem evR_len (e : EvR) : 0 < (evR e).length ∧ (evR e).length ≤ 4 := by
  unfold evR
  repeat' split
  all_goals simp
theorem evR_flat (rs : List EvR) : (rs.map evR).flatten.length ≤ 4 * rs.length := by
  induction rs with
  | nil => simp
  | cons a r ih =>
    have := (evR_len a).2
    simp only [List.map_cons, List.flatten_cons, List.length_append, List.length_cons]
    omega
theorem nm12 {t : ByteArray} (h : nameB t = true) : t.size ≤ 12 := by
  simp only [nameB, Bool.and_eq_true, decide_eq_true_eq] at h
  omega
/-- The text of an event, as the model tells it. -/
def evX (e : EvR) : ByteArray := if e.kind = 1 then (⟨#[112, 97, 114, 116, 110, 101, 114, 32]⟩ : ByteArray) ++ e.a else if e.kind = 2 then (⟨#[99, 114, 111, 115, 115, 32]⟩ : ByteArray) ++ e.a ++ (⟨#[32]⟩ : ByteArray) ++ e.b ++ (⟨#[32]⟩ : ByteArray) ++ e.c else if e.kind = 3 then (⟨#[116, 97, 107, 101, 32]⟩ : ByteArray) ++ takeT e.a else ⟨#[110, 101, 120, 116]⟩
theorem evX_size {e : EvR} (h : evB e = true) : (evX e).size ≤ 9000 := by
  have e8 : (⟨#[112, 97, 114, 116, 110, 101, 114, 32]⟩ : ByteArray).size = 8 := rfl
  have e6 : (⟨#[99, 114, 111, 115, 115, 32]⟩ : ByteArray).size = 6 := rfl
  have e1 : (⟨#[32]⟩ : ByteArray).size = 1 := rfl
  have e5 : (⟨#[116, 97, 107, 101, 32]⟩ : ByteArray).size = 5 := rfl
  have e4 : (⟨#[110, 101, 120, 116]⟩ : ByteArray).size = 4 := rfl
  unfold evX
  rcases (evB_iff.1 h).ok with ⟨k, n, _⟩ | ⟨k, n1, n2, n3⟩ | ⟨k, n, _⟩ | ⟨k, _⟩
  · rw [if_pos k, ByteArray.size_append, e8]
    have := nm12 n
    omega
  · rw [if_neg (by omega), if_pos k]
    simp only [ByteArray.size_append, e6, e1]
    have := nm12 n1
    have := nm12 n2
    have := nm12 n3
    omega
  · rw [if_neg (by omega), if_neg (by omega), if_pos k, ByteArray.size_append, e5]
    have := takeT_size n
    omega
  · rw [if_neg (by omega), if_neg (by omega), if_neg (by omega), e4]
    omega
end Go.Proofs.YtibjmokhkjklkaaDoor
namespace Go.Proofs.YtibjmokhkjklkaaDoor
open Go.ChangeShapes Go.WideShapes Go.ChangeAt Go.RowKit
open Go.Maps (Keyed)
/-- How an element of the map reads. -/
def rdU : Value → Option (DataW Int × List MemPlace)
  | .int .u8 a => some (.held a, [])
  | _ => none
theorem rdU_mk (a : Int) : rdU (.int .u8 a) = some (.held a, []) := rfl
theorem rdU_inv {v : Value} {y : DataW Int × List MemPlace} (h : rdU v = some y) : ∃ a, v = .int .u8 a ∧ y = (.held a, []) := by
  unfold rdU at h
  split at h
  · cases h
    exact ⟨_, rfl, rfl⟩
  · cases h
def kyU (p : Int × Int) : Lit × DataW Int := (.int .i32 p.1, .held p.2)
def mapU (l : List (Int × Int)) : DataW Int := .map (l.map kyU)
theorem i32_keyed : Keyed Tryd.prog 21 := Maps.int_keyed Tryd.underlying21
theorem i32_key {n : Int} (h : -2147483648 ≤ n ∧ n ≤ 2147483647) : keyOf Tryd.prog 21 (.int .i32 n) = some (.int .i32 n) :=
  Maps.keyOf_int_mk Tryd.underlying21 (by
    have h1 : IntKind.min .i32 = -2147483648 := by decide
    have h2 : IntKind.max .i32 = 2147483647 := by decide
    simp only [Lit.wf, h1, h2, Bool.and_eq_true, decide_eq_true_eq]
    exact h)
def insU (s : Int × Int) : List (Int × Int) → List (Int × Int)
  | [] => [s]
  | y :: r => if s.1 < y.1 then s :: y :: r else y :: insU s r
theorem ins_mapU (s : Int × Int) : ∀ l : List (Int × Int), DataW.insert (kyU s) (l.map kyU) = (insU s l).map kyU
  | [] => rfl
  | y :: r => by
    simp only [List.map_cons, DataW.insert, insU]
    have hb : (kyU s).1.before (kyU y).1 = decide (s.1 < y.1) := rfl
    rw [hb, ins_mapU s r]
    by_cases h : s.1 < y.1 <;> simp [h]
theorem same_keyU (a b : Int) : Lit.sameKey (.int .i32 a) (.int .i32 b) = decide (a = b) := by simp [Lit.sameKey]
theorem put_mapU (s : Int × Int) (l : List (Int × Int)) : (mapU l).put (.int .i32 s.1) (.held s.2) = mapU (insU s (l.filter fun x => decide (x.1 ≠ s.1))) := by
  have : (l.map kyU).filter (fun p => !p.1.sameKey (.int .i32 s.1)) = (l.filter fun x => decide (x.1 ≠ s.1)).map kyU := by
    rw [List.filter_map]
    congr 1
    apply List.filter_congr
    intro x _
    simp [kyU, same_keyU]
  show DataW.map (DataW.insert (kyU s) ((l.map kyU).filter _)) = _
  rw [this, ins_mapU]
  rfl
theorem at_mapU (n : Int) (l : List (Int × Int)) (z : DataW Int) : (mapU l).atKey (.int .i32 n) z = match l.find? (fun x => decide (x.1 = n)) with | some s => .held s.2 | none => z := by
  unfold mapU DataW.atKey
  dsimp only
  rw [List.find?_map]
  have : ((fun p : Lit × DataW Int => p.1.sameKey (.int .i32 n)) ∘ kyU) = fun x => decide (x.1 = n) := by
    funext x
    simp [kyU, same_keyU]
  rw [this]
  cases l.find? (fun x => decide (x.1 = n)) <;> rfl
theorem insU_last {s : Int × Int} : ∀ {l : List (Int × Int)}, (∀ x ∈ l, x.1 < s.1) → insU s (l.filter fun x => decide (x.1 ≠ s.1)) = l ++ [s]
  | [], _ => rfl
  | y :: r, h => by
    have hy := h y (by simp)
    have e : decide (y.1 ≠ s.1) = true := by simp; omega
    rw [List.filter_cons_of_pos (by simpa using e)]
    simp only [insU]
    rw [if_neg (by omega), insU_last (fun x hx => h x (by simp [hx]))]
    rfl
/-- The first k digits and their values. -/
def dgs (k : Nat) : List (Int × Int) := (List.range k).map fun j => (hexD j, (j : Int))
theorem dgs_succ (k : Nat) : dgs (k + 1) = dgs k ++ [(hexD k, (k : Int))] := by unfold dgs; rw [List.range_succ, List.map_append]; rfl
theorem dgs_put (k : Nat) : (mapU (dgs k)).put (.int .i32 (hexD k)) (.held (k : Int)) = mapU (dgs (k + 1)) := by
  rw [put_mapU (hexD k, (k : Int)), insU_last (fun x hx => ?_), dgs_succ]
  unfold dgs at hx
  obtain ⟨j, hj, rfl⟩ := List.mem_map.1 hx
  exact hexD_mono (List.mem_range.1 hj)
theorem run_makeU (w : World) : (Instr.makeMap 83 none).run Tryd.prog w = .ok (.map (some w.heap.size)) (w.alloc (.map #[] 0)) := by
  simp [Instr.makeMap, Result.andThen]
/-- The cells of a record that begins with the digits'. -/
def digF (d s : Int) (k : Nat) (m : Value) (r : Nat → Value) (i : Nat) : Value := if i = 0 then .int .u32 d else if i = 1 then .int .i32 s else if i = 2 then .int .u32 0 else if i = 19 then m else if 20 ≤ i then r i else if i - 3 < k then .int .u8 (hexD (i - 3)) else .int .u8 0
theorem digF_let {d s : Int} {k : Nat} {m : Value} {r : Nat → Value} {j : Nat} (hj : j < 16) (hk : j < k) : digF d s k m r (3 + j) = .int .u8 (hexD j) := by
  unfold digF
  rw [if_neg (by omega), if_neg (by omega), if_neg (by omega), if_neg (by omega), if_neg (by omega), if_pos (by omega)]
  congr 2
  omega
theorem digF_set {d s : Int} {k : Nat} {m : Value} {r : Nat → Value} (hk : k < 16) (i : Nat) : (if i = 3 + k then Value.int .u8 (hexD k) else digF d s k m r i) = digF d s (k + 1) m r i := by
  unfold digF
  repeat' split
  all_goals first | rfl | omega | (congr 2; omega) | (exfalso; omega)
theorem digF_map {d s : Int} {k : Nat} {m m' : Value} {r : Nat → Value} (i : Nat) : (if i = 19 then m' else digF d s k m r i) = digF d s k m' r i := by
  unfold digF
  repeat' split
  all_goals first | rfl | omega
theorem digF_done {d d' s : Int} {k : Nat} {m : Value} {r : Nat → Value} (i : Nat) : (if i = 0 then Value.int .u32 d' else digF d s k m r i) = digF d' s k m r i := by
  unfold digF
  repeat' split
  all_goals first | rfl | omega
theorem digF_lock {d s s' : Int} {k : Nat} {m : Value} {r : Nat → Value} (i : Nat) : (if i = 1 then Value.int .i32 s' else digF d s k m r i) = digF d s' k m r i := by
  unfold digF
  repeat' split
  all_goals first | rfl | omega
end Go.Proofs.YtibjmokhkjklkaaDoor
