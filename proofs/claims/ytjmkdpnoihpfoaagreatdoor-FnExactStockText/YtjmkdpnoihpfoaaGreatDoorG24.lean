/- Texts of ours put together: MapS. -/
import Derived.Test.YtjmkdpnoihpfoaaGreatDoorG20
import Derived.Maps.RangeWalk
import Derived.Maps.Views
import Derived.StringKeys
namespace Go.Proofs.YtjmkdpnoihpfoaaGreatDoor
open Go.ChangeShapes Go.WideShapes Go.ChangeAt Go.RowKit
open Go.Maps (Keyed)
/-- How an element of the map reads. -/
def rdZ : Value → Option (DataW Int × List MemPlace)
  | .int .i64 a => some (.held a, [])
  | _ => none
theorem rdZ_mk (a : Int) : rdZ (.int .i64 a) = some (.held a, []) := rfl
theorem rdZ_inv {v : Value} {y : DataW Int × List MemPlace} (h : rdZ v = some y) : ∃ a, v = .int .i64 a ∧ y = (.held a, []) := by
  unfold rdZ at h
  split at h
  · cases h
    exact ⟨_, rfl, rfl⟩
  · cases h
def stKey (s : Stk) : Lit × DataW Int := (.string s.item.data.toList, .held s.hand)
def mapS (l : List Stk) : DataW Int := .map (l.map stKey)
theorem str_keyed : Keyed Tryz.prog 9 := Maps.string_keyed Tryz.underlying9
theorem str_key {s : ByteArray} (h : s.size ≤ maxLen) : keyOf Tryz.prog 9 (.string s) = some (.string s.data.toList) := WideMaps.keyOf_string_mk Tryz.underlying9 h
theorem bb_less : ∀ a b : List UInt8, bytesBefore a b = Op.bytesLess a b
  | [], [] => rfl
  | [], _ :: _ => rfl
  | _ :: _, [] => rfl
  | a :: x, b :: y => by simp [bytesBefore, Op.bytesLess, bb_less x y]
/-- Put in its place. -/
def insS (s : Stk) : List Stk → List Stk
  | [] => [s]
  | y :: r => if befS s y = true then s :: y :: r else y :: insS s r
theorem ins_mapS (s : Stk) : ∀ l : List Stk, DataW.insert (stKey s) (l.map stKey) = (insS s l).map stKey
  | [] => rfl
  | y :: r => by
    simp only [List.map_cons, DataW.insert, insS]
    have hb : (stKey s).1.before (stKey y).1 = befS s y := by
      show bytesBefore _ _ = Op.bytesLess _ _
      rw [bb_less, ByteArray.toList_eq, ByteArray.toList_eq]
    rw [hb, ins_mapS s r]
    cases befS s y <;> simp
/-- Of that name? -/
def nmS (t : ByteArray) (x : Stk) : Bool := x.item.toList == t.toList
theorem same_keyS (a t : ByteArray) : Lit.sameKey (.string a.data.toList) (.string t.data.toList) = (a.toList == t.toList) := by
  rw [ByteArray.toList_eq, ByteArray.toList_eq]
  rfl
theorem put_mapS (t : ByteArray) (z : Int) (l : List Stk) : (mapS l).put (.string t.data.toList) (.held z) = mapS (insS ⟨t, z⟩ (l.filter fun x => !nmS t x)) := by
  have : (l.map stKey).filter (fun p => !p.1.sameKey (.string t.data.toList)) = (l.filter fun x => !nmS t x).map stKey := by
    rw [List.filter_map]
    congr 1
    apply List.filter_congr
    intro x _
    show (!Lit.sameKey (.string x.item.data.toList) (.string t.data.toList)) = _
    rw [same_keyS]
    rfl
  show DataW.map (DataW.insert (stKey ⟨t, z⟩) ((l.map stKey).filter _)) = _
  rw [this, ins_mapS]
  rfl
theorem at_mapS (t : ByteArray) (l : List Stk) (z : DataW Int) : (mapS l).atKey (.string t.data.toList) z = match findS t l with | some s => .held s.hand | none => z := by
  unfold mapS DataW.atKey
  dsimp only
  rw [List.find?_map]
  have : ((fun p : Lit × DataW Int => p.1.sameKey (.string t.data.toList)) ∘ stKey) = fun x => x.item.toList == t.toList := by
    funext x
    show Lit.sameKey (.string x.item.data.toList) (.string t.data.toList) = _
    rw [same_keyS]
  rw [this]
  unfold findS
  cases l.find? (fun x => x.item.toList == t.toList) <;> rfl
/-- The items rise. -/
def RiseS (l : List Stk) : Prop := l.Pairwise fun a b => befS a b = true
theorem befS_nm {x s : Stk} (h : befS x s = true) : nmS s.item x = false := by
  unfold nmS
  cases e : x.item.toList == s.item.toList with
  | false => rfl
  | true =>
    rw [beq_iff_eq] at e
    have : Op.bytesLess x.item.toList s.item.toList = true := h
    rw [e, bl_irrefl] at this
    cases this
/-- Where all stand below it, it stands at the end. -/
theorem insS_last {s : Stk} : ∀ {l : List Stk}, (∀ x ∈ l, befS x s = true) → insS s (l.filter fun x => !nmS s.item x) = l ++ [s]
  | [], _ => rfl
  | y :: r, h => by
    have hy := h y (by simp)
    rw [List.filter_cons_of_pos (by rw [befS_nm hy]; rfl)]
    simp only [insS]
    have hn : befS s y = false := bl_asymm hy
    rw [if_neg (by rw [hn]; simp), insS_last (fun x hx => h x (by simp [hx]))]
    rfl
section
variable {w : World} {b n : Nat} {l : List Stk}
theorem zeroI64 (w : World) : (zeroValue 2).run Tryz.prog w = .ok (.int .i64 0) w := by kernel_rfl
/-- Looked up: what stands there, or nought. -/
theorem lookS {t : ByteArray} (h : w.ownsMap Tryz.prog 9 rdZ b n (mapS l)) (ht : t.size ≤ maxLen) :
    (Instr.lookup 69 (.map (some b)) (.string t) false).run Tryz.prog w = .ok (.int .i64 (((findS t l).map Stk.hand).getD 0)) w := by
  obtain ⟨es, clock, hb, F, _, hD⟩ := h
  rcases Maps.fit_look false str_keyed Tryz.underlying69 (zeroI64 w) hb F (str_key ht) with ⟨hrun, _, hat⟩ | ⟨e0, y, _, _, hrun, hR, hat, _⟩
  · have := hat .nil
    rw [← hD, at_mapS] at this
    cases hf : findS t l with
    | none => rw [hrun]; rfl
    | some s => rw [hf] at this; cases this
  · obtain ⟨z, hv, rfl⟩ := rdZ_inv hR
    have := hat .nil
    rw [← hD, at_mapS] at this
    cases hf : findS t l with
    | none => rw [hf] at this; cases this
    | some s =>
      rw [hf] at this
      cases this
      rw [hrun, hv]
      rfl
end
end Go.Proofs.YtjmkdpnoihpfoaaGreatDoor
