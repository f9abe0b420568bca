/- Texts of ours put together: MapS, BhH. -/
import Derived.Test.YtamlhbjcokkmeaaGreatDoorG15
import Derived.Maps.RangeWalk
import Derived.Maps.Views
import Derived.StringKeys
import Derived.Test.YtamlhbjcokkmeaaGreatDoorG31
namespace Go.Proofs.YtamlhbjcokkmeaaGreatDoor
open Go.ChangeShapes Go.WideShapes Go.ChangeAt Go.RowKit
open Go.Maps (Keyed)
/-- How an element of the map reads. -/
def rdZ : Value → Option (DataW Int × List MemPlace)
  | .int .i64 a => some (.held a, [])
  | _ => none
theorem rdZ_mk (a : Int) : rdZ (.int .i64 a) = some (.held a, []) := rfl
theorem rdZ_inv {v : Value} {y : DataW Int × List MemPlace} (h : rdZ v = some y) : ∃ a, v = .int .i64 a ∧ y = (.held a, []) := by
  unfold rdZ at h
  split at h
  · cases h
    exact ⟨_, rfl, rfl⟩
  · cases h
def stKey (s : Stk) : Lit × DataW Int := (.string s.item.data.toList, .held s.hand)
def mapS (l : List Stk) : DataW Int := .map (l.map stKey)
theorem str_keyed : Keyed Tryz.prog 9 := Maps.string_keyed Tryz.underlying9
theorem str_key {s : ByteArray} (h : s.size ≤ maxLen) : keyOf Tryz.prog 9 (.string s) = some (.string s.data.toList) := WideMaps.keyOf_string_mk Tryz.underlying9 h
theorem bb_less : ∀ a b : List UInt8, bytesBefore a b = Op.bytesLess a b
  | [], [] => rfl
  | [], _ :: _ => rfl
  | _ :: _, [] => rfl
  | a :: x, b :: y => by simp [bytesBefore, Op.bytesLess, bb_less x y]
/-- Put in its place. -/
def insS (s : Stk) : List Stk → List Stk
  | [] => [s]
  | y :: r => if befS s y = true then s :: y :: r else y :: insS s r
theorem ins_mapS (s : Stk) : ∀ l : List Stk, DataW.insert (stKey s) (l.map stKey) = (insS s l).map stKey
  | [] => rfl
  | y :: r => by
    simp only [List.map_cons, DataW.insert, insS]
    have hb : (stKey s).1.before (stKey y).1 = befS s y := by
      show bytesBefore _ _ = Op.bytesLess _ _
      rw [bb_less, ByteArray.toList_eq, ByteArray.toList_eq]
    rw [hb, ins_mapS s r]
    cases befS s y <;> simp
/-- Of that name? -/
def nmS (t : ByteArray) (x : Stk) : Bool := x.item.toList == t.toList
theorem same_keyS (a t : ByteArray) : Lit.sameKey (.string a.data.toList) (.string t.data.toList) = (a.toList == t.toList) := by
  rw [ByteArray.toList_eq, ByteArray.toList_eq]
  rfl
theorem put_mapS (t : ByteArray) (z : Int) (l : List Stk) : (mapS l).put (.string t.data.toList) (.held z) = mapS (insS ⟨t, z⟩ (l.filter fun x => !nmS t x)) := by
  have : (l.map stKey).filter (fun p => !p.1.sameKey (.string t.data.toList)) = (l.filter fun x => !nmS t x).map stKey := by
    rw [List.filter_map]
    congr 1
    apply List.filter_congr
    intro x _
    show (!Lit.sameKey (.string x.item.data.toList) (.string t.data.toList)) = _
    rw [same_keyS]
    rfl
  show DataW.map (DataW.insert (stKey ⟨t, z⟩) ((l.map stKey).filter _)) = _
  rw [this, ins_mapS]
  rfl
theorem at_mapS (t : ByteArray) (l : List Stk) (z : DataW Int) : (mapS l).atKey (.string t.data.toList) z = match findS t l with | some s => .held s.hand | none => z := by
  unfold mapS DataW.atKey
  dsimp only
  rw [List.find?_map]
  have : ((fun p : Lit × DataW Int => p.1.sameKey (.string t.data.toList)) ∘ stKey) = fun x => x.item.toList == t.toList := by
    funext x
    show Lit.sameKey (.string x.item.data.toList) (.string t.data.toList) = _
    rw [same_keyS]
  rw [this]
  unfold findS
  cases l.find? (fun x => x.item.toList == t.toList) <;> rfl
/-- The items rise. -/
def RiseS (l : List Stk) : Prop := l.Pairwise fun a b => befS a b = true
theorem befS_nm {x s : Stk} (h : befS x s = true) : nmS s.item x = false := by
  unfold nmS
  cases e : x.item.toList == s.item.toList with
  | false => rfl
  | true =>
    rw [beq_iff_eq] at e
    have : Op.bytesLess x.item.toList s.item.toList = true := h
    rw [e, bl_irrefl] at this
    cases this
/-- Where all stand below it, it stands at the end. -/
theorem insS_last {s : Stk} : ∀ {l : List Stk}, (∀ x ∈ l, befS x s = true) → insS s (l.filter fun x => !nmS s.item x) = l ++ [s]
  | [], _ => rfl
  | y :: r, h => by
    have hy := h y (by simp)
    rw [List.filter_cons_of_pos (by rw [befS_nm hy]; rfl)]
    simp only [insS]
    have hn : befS s y = false := bl_asymm hy
    rw [if_neg (by rw [hn]; simp), insS_last (fun x hx => h x (by simp [hx]))]
    rfl
section
variable {w : World} {b n : Nat} {l : List Stk}
theorem zeroI64 (w : World) : (zeroValue 2).run Tryz.prog w = .ok (.int .i64 0) w := by kernel_rfl
/-- Looked up: what stands there, or nought. -/
theorem lookS {t : ByteArray} (h : w.ownsMap Tryz.prog 9 rdZ b n (mapS l)) (ht : t.size ≤ maxLen) :
    (Instr.lookup 122 (.map (some b)) (.string t) false).run Tryz.prog w = .ok (.int .i64 (((findS t l).map Stk.hand).getD 0)) w := by
  obtain ⟨es, clock, hb, F, _, hD⟩ := h
  rcases Maps.fit_look false str_keyed Tryz.underlying122 (zeroI64 w) hb F (str_key ht) with ⟨hrun, _, hat⟩ | ⟨e0, y, _, _, hrun, hR, hat, _⟩
  · have := hat .nil
    rw [← hD, at_mapS] at this
    cases hf : findS t l with
    | none => rw [hrun]; rfl
    | some s => rw [hf] at this; cases this
  · obtain ⟨z, hv, rfl⟩ := rdZ_inv hR
    have := hat .nil
    rw [← hD, at_mapS] at this
    cases hf : findS t l with
    | none => rw [hf] at this; cases this
    | some s =>
      rw [hf] at this
      cases this
      rw [hrun, hv]
      rfl
end
end Go.Proofs.YtamlhbjcokkmeaaGreatDoor
namespace Go.Proofs.YtamlhbjcokkmeaaGreatDoor
open Go.ChangeShapes Go.WideShapes Go.ChangeAt Go.RowKit
theorem run_makeS (n : Int) (w : World) : (Instr.makeMap 122 (some (.int .i64 n))).run Tryz.prog w = .ok (.map (some w.heap.size)) (w.alloc (.map #[] 0)) := by
  simp [Instr.makeMap, run_underlying Tryz.underlying122, asInt, asIntOf, Result.andThen]
theorem grown_belowS {a b : World} {j B : Nat} (h : a.grownBy b (some j)) (hB : B ≤ j) (hs : B ≤ a.heap.size) : Below B a b :=
  ⟨h.os, h.tape, h.output, h.size, fun k hk => h.block k (by omega) (by simp; omega)⟩
set_option maxRecDepth 100000 in
set_option maxHeartbeats 4000000 in
theorem handsOf_any (v : Value) (rs : List Stk) (w : World) (h : RowSt w v rs) (hl : rs.length ≤ 100) (hr : RiseS rs) (hn : ∀ x ∈ rs, x.item.size ≤ 12) : Calls Tryz.prog 70 #[v] w fun e w' => e = .returned (.map (some w.heap.size)) ∧ w'.ownsMap Tryz.prog 9 rdZ w.heap.size rs.length (mapS rs) ∧ Below w.heap.size w w' := by
  have hlen := h.len
  obtain ⟨A, C, rfl⟩ := h.val
  have hmm := run_makeS
  have H0 : Hid (RowSt w (.slice A rs.length C) rs ∧ RiseS rs ∧ ∀ x ∈ rs, x.item.size ≤ 12) := ⟨h, hr, hn⟩
  clear h hr hn
  go_enter Tryz.func70, Tryz.ntmps70
  go_wp2
  have hb0 : Below w.heap.size w (w.alloc (.map #[] 0)) := (Below.refl _ _).alloc (Nat.le_refl _) _
  have ko : (w.alloc (.map #[] 0)).ownsMap Tryz.prog 9 rdZ w.heap.size 0 (mapS []) := World.ownsMap_made w Tryz.prog 9 rdZ
  have HI : Hid (Below w.heap.size w (w.alloc (.map #[] 0)) ∧ (w.alloc (.map #[] 0)).ownsMap Tryz.prog 9 rdZ w.heap.size 0 (mapS [])) := ⟨hb0, ko⟩
  clear hb0 ko hmm
  go_loopw [12] (fun i wr => ∃ k : Nat, i = .int .i64 (k : Int) ∧ k ≤ rs.length ∧ Below w.heap.size w wr ∧ wr.ownsMap Tryz.prog 9 rdZ w.heap.size k (mapS (rs.take k))) (fun i _ => rs.length - (intOf i).toNat)
  case atStart => exact ⟨0, rfl, by omega, HI.out.1, by simpa using HI.out.2⟩
  case round =>
    obtain ⟨k, rfl, hk, hb, ko⟩ := hrel
    have HE : Hid (Below w.heap.size w wr ∧ wr.ownsMap Tryz.prog 9 rdZ w.heap.size k (mapS (rs.take k))) := ⟨hb, ko⟩
    have hltw := ko.lt
    by_cases hlt : k < rs.length
    · have hlt' : (k : Int) < (rs.length : Int) := by omega
      obtain ⟨b, o, cap', g, e, hs, ⟨q0, q1⟩, _⟩ := (H0.out.1.below hb).at hlt
      simp only [Value.slice.injEq, true_and] at e
      obtain ⟨rfl, rfl⟩ := e
      have HS : Hid (rs[k]? = some g) := hs
      have hg := H0.out.2.2 g (List.mem_of_getElem? hs)
      clear hs
      clear hb ko
      obtain ⟨item, hand⟩ := g
      dsimp only at q0 q1 hg
      have hown : (wr.alloc (.cells #[.string item, .int .i64 hand] 150)).ownsMap Tryz.prog 9 rdZ w.heap.size k (mapS (rs.take k)) := HE.out.2.alloc _
      go_wp2_with (first | (at_mapUpdate; refine wpList_mapUpdate_own _ rfl _ _ _ 122 rfl 9 2 str_keyed Tryz.underlying122 rdZ w.heap.size k _ rfl hown (by unfold maxLen; omega) _ _ _ rfl rfl (str_key (by unfold maxLen; omega)) _ [] (rdZ_mk hand) ?_; intro w1 hown1 hgrow1))
      have hE := HE.out
      have H1 : Hid (Below w.heap.size w w1 ∧ w1.ownsMap Tryz.prog 9 rdZ w.heap.size (k + 1) (mapS (rs.take (k + 1)))) := by
        refine ⟨(hE.1.alloc hE.1.size _).trans (grown_belowS hgrow1 (Nat.le_refl _) (by simp; omega)), ?_⟩
        have e1 := put_mapS item hand (rs.take k)
        have e2 : ∀ x ∈ rs.take k, befS x ⟨item, hand⟩ = true := fun x hx => by
          obtain ⟨i, hi⟩ := List.getElem?_of_mem hx
          have hik : i < k := by
            have := (List.getElem?_eq_some_iff.1 hi).1
            rw [List.length_take] at this
            omega
          rw [List.getElem?_take_of_lt hik] at hi
          obtain ⟨h1, h2⟩ := List.getElem?_eq_some_iff.1 hi
          obtain ⟨h3, h4⟩ := List.getElem?_eq_some_iff.1 HS.out
          have := List.pairwise_iff_getElem.1 H0.out.2.1 i k h1 h3 hik
          rw [h2, h4] at this
          exact this
        rw [insS_last (s := ⟨item, hand⟩) e2] at e1
        rw [e1] at hown1
        have e3 : rs.take (k + 1) = rs.take k ++ [⟨item, hand⟩] := by
          rw [List.take_add_one, HS.out]
          rfl
        rw [e3]
        exact hown1
      clear hown1 hgrow1 hE hown q0 q1
      go_wp2
      go_roundw
      case rel => exact ⟨k + 1, by go_num, by omega, H1.out.1, H1.out.2⟩
      case measure => simp [intOf]; omega
    · obtain rfl : k = rs.length := by omega
      clear hb ko
      go_wp2
      go_ret
      have hE := HE.out
      rw [List.take_length] at hE
      exact ⟨rfl, hE.2, hE.1⟩
theorem RightS.rise' {rs : List Stk} (h : RightS rs) : RiseS rs := h.pair
theorem RightS.small {rs : List Stk} (h : RightS rs) : ∀ x ∈ rs, x.item.size ≤ 12 := fun x hx => (nameB_sizes (h.ok x hx).n).2
end Go.Proofs.YtamlhbjcokkmeaaGreatDoor
