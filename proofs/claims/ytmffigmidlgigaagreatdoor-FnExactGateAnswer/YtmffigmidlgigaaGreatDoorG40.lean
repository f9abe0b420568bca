/- Texts of ours put together: CrM, ItI. -/
import Derived.Test.YtmffigmidlgigaaGreatDoorG31
import Derived.Maps.RangeWalk
import Derived.Maps.Views
import Derived.DeepKeys4
import Derived.Shelf.RegionOpen
import Derived.Deep.QuietTactic
import Derived.BigQuiet
import Derived.BigRegion
namespace Go.Proofs.YtmffigmidlgigaaGreatDoor
open Go.ChangeShapes Go.WideShapes Go.ChangeAt Go.RowKit
open Go.Maps (Keyed)
open Go.MapKept
open Go.ChangeMaps (setBlock heap_setBlock_same heap_setBlock_other)
def kv (k : ByteArray × ByteArray) : Value := .agg #[.string k.1, .string k.2]
def cv (c : Crs) : Value := .agg #[.string c.partner, .string c.theirs, .string c.own]
theorem kv_inj {a b : ByteArray × ByteArray} (h : kv a = kv b) : a = b := by
  simp only [kv, Value.agg.injEq, Array.mk.injEq, List.cons.injEq, Value.string.injEq, and_true] at h
  exact Prod.ext h.1 h.2
theorem laidOut8 : laidOutB Tryz.prog = true := by kernel_rfl
theorem keyTy8 : Tryz.prog.keyType 161 = true := by kernel_rfl
theorem keyCells8 : Tryz.prog.cellsOf 161 = 2 := by kernel_rfl
theorem strCells8 : Tryz.prog.cellsOf 9 = 1 := by kernel_rfl
theorem keyC : Keyed Tryz.prog 161 := Keyed.of_law (deep_law_laid laidOut8 (m := 3) (by omega) (of_decide_eq_true (by kernel_rfl)) (by kernel_rfl) (by kernel_rfl))
theorem typesSize8 : ∃ m, Tryz.prog.types.size = m + 1 := by
  have h : 0 < Tryz.prog.types.size := of_decide_eq_true (by kernel_rfl)
  exact ⟨Tryz.prog.types.size - 1, by omega⟩
/-- A key's sizes. -/
def KS (k : ByteArray × ByteArray) : Prop := k.1.size ≤ maxLen ∧ k.2.size ≤ maxLen
/-- What a key reads as. -/
def klit (k : ByteArray × ByteArray) : Lit := .string (keyBytes [.string k.1.data.toList, .string k.2.data.toList])
theorem key_lit {k : ByteArray × ByteArray} (h : KS k) : keyOf Tryz.prog 161 (kv k) = some (klit k) := by
  obtain ⟨m, hm⟩ := typesSize8
  obtain ⟨h1, h2⟩ := h
  unfold keyOf klit
  simp only [Tryz.underlying161]
  rw [if_pos (by simp [keyTy8, Value.formed, Tryz.underlying161, keyCells8, kv])]
  rw [hm]
  unfold Program.keyLits
  simp only [Tryz.underlying161]
  rw [if_pos ⟨by simp [keyCells8, kv, Value.cells], by simp⟩]
  unfold Program.keyLits
  simp [kv, Value.cells, strCells8, Tryz.underlying9, h1, h2]
theorem key_of {k : ByteArray × ByteArray} (h : KS k) : ∃ l, keyOf Tryz.prog 161 (kv k) = some l := ⟨_, key_lit h⟩
/-- The map in block b leads to each of l by its key. -/
structure MC (w : World) (b : Nat) (kf : Crs → ByteArray × ByteArray) (l : List Crs) : Prop where
  ex : ∃ es clock, w.heap[b]? = some (.map es clock) ∧ es.toList.map (fun e => (e.key, e.val)) = l.map (fun c => (kv (kf c), cv c)) ∧ Stamped es clock
  sizes : ∀ c ∈ l, KS (kf c)
theorem MC.lt {w : World} {b : Nat} {kf : Crs → ByteArray × ByteArray} {l : List Crs} (h : MC w b kf l) : b < w.heap.size := by
  obtain ⟨es, clock, hb, _⟩ := h.ex
  exact (Array.getElem?_eq_some_iff.1 hb).1
theorem MC.of_block {w w' : World} {b : Nat} {kf : Crs → ByteArray × ByteArray} {l : List Crs} (h : MC w b kf l) (hb : w'.heap[b]? = w.heap[b]?) : MC w' b kf l := by
  obtain ⟨es, clock, h1, h2⟩ := h.ex
  exact ⟨⟨es, clock, hb.trans h1, h2⟩, h.sizes⟩
theorem MC.below {w w' : World} {b : Nat} {kf : Crs → ByteArray × ByteArray} {l : List Crs} (h : MC w b kf l) (hb : Below w.heap.size w w') : MC w' b kf l := h.of_block (hb.block b h.lt)
theorem MC.nil {w : World} {b : Nat} (kf : Crs → ByteArray × ByteArray) (h : w.heap[b]? = some (.map #[] 0)) : MC w b kf [] := ⟨⟨#[], 0, h, rfl, stamped_empty 0⟩, fun c hc => by cases hc⟩
theorem es_get {es : Array MapEntry} {l : List Crs} {kf : Crs → ByteArray × ByteArray} (h : es.toList.map (fun e => (e.key, e.val)) = l.map (fun c => (kv (kf c), cv c))) {j : Nat} {e : MapEntry} (he : es.toList[j]? = some e) : ∃ c, l[j]? = some c ∧ e.key = kv (kf c) ∧ e.val = cv c := by
  have h1 := congrArg (fun x => x[j]?) h
  simp only [List.getElem?_map, he, Option.map_some] at h1
  cases hc : l[j]? with
  | none => rw [hc] at h1; cases h1
  | some c =>
    rw [hc] at h1
    simp only [Option.map_some, Option.some.injEq, Prod.mk.injEq] at h1
    exact ⟨c, rfl, h1.1, h1.2⟩
theorem es_keys {es : Array MapEntry} {l : List Crs} {kf : Crs → ByteArray × ByteArray} (h : es.toList.map (fun e => (e.key, e.val)) = l.map (fun c => (kv (kf c), cv c))) (hs : ∀ c ∈ l, KS (kf c)) : ∀ e ∈ es.toList, ∃ k, keyOf Tryz.prog 161 e.key = some k := fun e he => by
  obtain ⟨j, hj⟩ := List.getElem?_of_mem he
  obtain ⟨c, hc, h1, _⟩ := es_get h hj
  rw [h1]
  exact key_of (hs c (List.mem_of_getElem? hc))
theorem es_none {es : Array MapEntry} {l : List Crs} {kf : Crs → ByteArray × ByteArray} (h : es.toList.map (fun e => (e.key, e.val)) = l.map (fun c => (kv (kf c), cv c))) {k : ByteArray × ByteArray} (hk : ∀ e ∈ es.toList, e.key ≠ kv k) : ∀ c ∈ l, kf c ≠ k := fun c hc e => by
  have hm : (kv (kf c), cv c) ∈ es.toList.map (fun e => (e.key, e.val)) := by rw [h]; exact List.mem_map.2 ⟨c, hc, rfl⟩
  obtain ⟨x, hx, he⟩ := List.mem_map.1 hm
  simp only [Prod.mk.injEq] at he
  exact hk x hx (by rw [he.1, e])
theorem MC.look {w : World} {b : Nat} {kf : Crs → ByteArray × ByteArray} {l : List Crs} (h : MC w b kf l) {k : ByteArray × ByteArray} (hk : KS k) {z : Value} (hz : (zeroValue 108).run Tryz.prog w = .ok z w) :
    ((Instr.lookup 145 (.map (some b)) (kv k) true).run Tryz.prog w = .ok (.tuple #[z, .bool false]) w ∧ ∀ c ∈ l, kf c ≠ k) ∨ ∃ c ∈ l, kf c = k ∧ (Instr.lookup 145 (.map (some b)) (kv k) true).run Tryz.prog w = .ok (.tuple #[cv c, .bool true]) w := by
  obtain ⟨es, clock, hb, he, _⟩ := h.ex
  obtain ⟨kl, hkl⟩ := key_of hk
  rcases keyC.find w hkl es.toList (es_keys he h.sizes) with ⟨h1, h2⟩ | ⟨j, e0, h1, h2, h3⟩
  · exact .inl ⟨by simp [Instr.lookup, run_underlying Tryz.underlying145, MapKept.run_getObj_map hb, keyC.check w _ hkl, h1, hz, Result.andThen], es_none he h2⟩
  · obtain ⟨c, hc, e1, e2⟩ := es_get he h2
    refine .inr ⟨c, List.mem_of_getElem? hc, kv_inj (e1.symm.trans h3), ?_⟩
    simp [Instr.lookup, run_underlying Tryz.underlying145, MapKept.run_getObj_map hb, keyC.check w _ hkl, h1, e2, Result.andThen]
/-- Put in its place. -/
def putC (kf : Crs → ByteArray × ByteArray) (c : Crs) : List Crs → List Crs
  | [] => [c]
  | d :: r => if kf d = kf c then c :: r else d :: putC kf c r
theorem putC_new {kf : Crs → ByteArray × ByteArray} {c : Crs} : ∀ {l : List Crs}, (∀ d ∈ l, kf d ≠ kf c) → putC kf c l = l ++ [c]
  | [], _ => rfl
  | d :: r, h => by
    simp only [putC]
    rw [if_neg (h d (by simp)), putC_new fun x hx => h x (by simp [hx])]
    rfl
theorem putC_at {kf : Crs → ByteArray × ByteArray} {c d : Crs} : ∀ {l : List Crs} {j : Nat}, l[j]? = some d → kf d = kf c → (∀ i x, i < j → l[i]? = some x → kf x ≠ kf c) → putC kf c l = l.set j c
  | [], j, h, _, _ => by simp at h
  | x :: r, 0, h, e, _ => by
    simp at h
    subst h
    simp [putC, e]
  | x :: r, j + 1, h, e, hn => by
    simp only [putC]
    rw [if_neg (hn 0 x (by omega) rfl), putC_at (l := r) (j := j) (by simpa using h) e fun i y hi hy => hn (i + 1) y (by omega) (by simpa using hy)]
    rfl
theorem putC_mem {kf : Crs → ByteArray × ByteArray} {c : Crs} : ∀ {l : List Crs}, ∀ x ∈ putC kf c l, x = c ∨ x ∈ l
  | [], x, h => by simpa [putC] using h
  | d :: r, x, h => by
    simp only [putC] at h
    split at h
    · rcases List.mem_cons.1 h with rfl | h
      · exact .inl rfl
      · exact .inr (by simp [h])
    · rcases List.mem_cons.1 h with rfl | h
      · exact .inr (by simp)
      · rcases putC_mem x h with g | g
        · exact .inl g
        · exact .inr (by simp [g])
theorem MC.put {w : World} {b : Nat} {kf : Crs → ByteArray × ByteArray} {l : List Crs} (h : MC w b kf l) (c : Crs) (hk : KS (kf c)) :
    ∃ w', (Instr.mapUpdate 145 (.map (some b)) (kv (kf c)) (cv c)).run Tryz.prog w = .ok () w' ∧ MC w' b kf (putC kf c l) ∧ w.grownBy w' (some b) := by
  obtain ⟨es, clock, hb, he, hS⟩ := h.ex
  obtain ⟨kl, hkl⟩ := key_of hk
  have hsz : ∀ x ∈ putC kf c l, KS (kf x) := fun x hx => by
    rcases putC_mem x hx with rfl | g
    · exact hk
    · exact h.sizes x g
  rcases keyC.find w hkl es.toList (es_keys he h.sizes) with ⟨h1, h2⟩ | ⟨j, e0, h1, h2, h3⟩
  · refine ⟨setBlock w b (.map (es.push ⟨kv (kf c), cv c, clock⟩) (clock + 1)), ?_, ⟨⟨_, _, heap_setBlock_same hb _, ?_, stamped_push hS h2⟩, hsz⟩, ⟨rfl, rfl, rfl, by simp [setBlock], fun i _ hi => heap_setBlock_other hb _ (fun e => hi (by rw [e]))⟩⟩
    · simp [Instr.mapUpdate, run_underlying Tryz.underlying145, MapKept.run_getObj_map hb, keyC.check w false hkl, h1, MapKept.run_setObj_map _ hb, Result.andThen, setBlock]
    · rw [putC_new (es_none he h2)]
      simp [he]
  · have hj : es[j]? = some e0 := by simpa using h2
    have hlist : (es.modify j (fun e' => { e' with key := kv (kf c), val := cv c })).toList = es.toList.set j { e0 with key := kv (kf c), val := cv c } := by rw [Array.toList_modify, Go.ChangeMaps.modify_eq_set _ _ _ _ h2]
    obtain ⟨d, hd, e1, e2⟩ := es_get he h2
    have hdk : kf d = kf c := kv_inj (e1.symm.trans h3)
    refine ⟨setBlock w b (.map (es.modify j (fun e' => { e' with key := kv (kf c), val := cv c })) clock), ?_, ⟨⟨_, _, heap_setBlock_same hb _, ?_, stamped_modify hS _ _ (fun _ _ => rfl) (fun e' _ he' => by rw [hj] at he'; cases he'; exact h3.symm)⟩, hsz⟩, ⟨rfl, rfl, rfl, by simp [setBlock], fun i _ hi => heap_setBlock_other hb _ (fun e => hi (by rw [e]))⟩⟩
    · simp [Instr.mapUpdate, run_underlying Tryz.underlying145, MapKept.run_getObj_map hb, keyC.check w false hkl, h1, hj, h3, keyC.stays w hkl, MapKept.run_setObj_map _ hb, Result.andThen, setBlock]
    · rw [hlist, List.map_set, he, putC_at hd hdk, List.map_set]
      intro i x hi hx e
      have hil : i < es.toList.length := by have := (List.getElem?_eq_some_iff.1 h2).1; omega
      obtain ⟨y, hy, f1, _⟩ := es_get he (List.getElem?_eq_getElem hil)
      rw [hx] at hy
      cases hy
      have hP := ((stamped_iff es clock).1 hS).2.2
      have hjl := (List.getElem?_eq_some_iff.1 h2).1
      have := List.pairwise_iff_getElem.1 hP i j hil hjl hi
      rw [f1, (List.getElem?_eq_some_iff.1 h2).2, h3, e] at this
      exact this rfl
end Go.Proofs.YtmffigmidlgigaaGreatDoor
namespace Go.Proofs.YtmffigmidlgigaaGreatDoor
open Go.ChangeShapes Go.WideShapes Go.ChangeAt Go.RowKit
open Go.Lib (compareBytes)
theorem fl_twoC (w : World) (a b : Obj) : ((w.alloc a).alloc b).heap[w.heap.size]? = some a ∧ ((w.alloc a).alloc b).heap[w.heap.size + 1]? = some b := by
  have e : ((w.alloc a).alloc b).heap = (w.heap.push a).push b := rfl
  rw [e]
  simp only [Array.getElem?_push, Array.size_push]
  refine ⟨?_, ?_⟩
  · rw [if_neg (by omega), if_pos trivial]
  · rw [if_pos trivial]
theorem cell_newC (W : World) (c : Array Value) (t i : Nat) (x : Value) (h : c[i]? = some x) : (W.alloc (.cells c t)).cell? ⟨W.heap.size, i, none⟩ = some x := by
  have e := World.alloc_heap_new W (.cells c t)
  unfold World.cell?
  rw [e]
  exact h
set_option maxRecDepth 100000 in
theorem compareString_anyC (a b : ByteArray) (w : World) : Calls Tryz.prog 124 #[.string a, .string b] w fun e w' => e = .returned (.int .i64 (compareBytes a.data.toList b.data.toList)) ∧ w' = w := by
  go_enter Tryz.func124, Tryz.ntmps124
  go_wp2
  rw [run_callFunc_extern Tryz.func132 (by kernel_rfl) (by kernel_rfl) (by kernel_rfl) (e := Extern.BytealgCompare.compare) (by kernel_rfl), Lib.run_compareString]
  simp only [Result.andThen]
  rw [Oper.upon_value]
  go_wp2
  go_ret
  exact ⟨rfl, rfl⟩
theorem compare_anyC (a b : ByteArray) (w : World) : Calls Tryz.prog 114 #[.string a, .string b] w fun e w' => e = .returned (.int .i64 (compareBytes a.data.toList b.data.toList)) ∧ w' = w := by
  go_enter Tryz.func114, Tryz.ntmps114
  go_wp2_with (go_at_call 124; refine (compareString_anyC _ _ _).mono ?_; rintro e w' ⟨rfl, rfl⟩)
  go_ret
  exact ⟨rfl, rfl⟩
def orZC (x y : Int) : Int := if x = 0 then y else x
set_option maxHeartbeats 1000000 in
/-- cmp.Or of two numbers. -/
theorem or_any (x y : Int) (B : Nat) (w : World) (h0 : w.cell? ⟨B, 0, none⟩ = some (.int .i64 x)) (h1 : w.cell? ⟨B, 1, none⟩ = some (.int .i64 y)) :
    Calls Tryz.prog 113 #[.slice (some ⟨B, 0, none⟩) 2 2] w fun e w' => e = .returned (.int .i64 (orZC x y)) ∧ w' = w := by
  unfold orZC
  go_enter Tryz.func113, Tryz.ntmps113
  go_wp2
  by_cases hx : x = 0
  · by_cases hy : y = 0
    · subst hx hy
      go_loopw [8] (fun i wr => ∃ k : Nat, i = .int .i64 (k : Int) ∧ k ≤ 2 ∧ wr = w) (fun i _ => 2 - (intOf i).toNat)
      case atStart => exact ⟨0, rfl, by omega, rfl⟩
      case round =>
        obtain ⟨k, rfl, hk, rfl⟩ := hrel
        obtain rfl | rfl | rfl : k = 0 ∨ k = 1 ∨ k = 2 := by omega
        · go_wp2
          go_roundw
          case rel => exact ⟨1, by go_num, by omega, trivial⟩
          case measure => simp [intOf]
        · go_wp2
          go_roundw
          case rel => exact ⟨2, by go_num, by omega, trivial⟩
          case measure => simp [intOf]
        · go_wp2
          go_ret
          exact ⟨rfl, rfl⟩
    · subst hx
      go_loopw [8] (fun i wr => ∃ k : Nat, i = .int .i64 (k : Int) ∧ k ≤ 1 ∧ wr = w) (fun i _ => 2 - (intOf i).toNat)
      case atStart => exact ⟨0, rfl, by omega, rfl⟩
      case round =>
        obtain ⟨k, rfl, hk, rfl⟩ := hrel
        obtain rfl | rfl : k = 0 ∨ k = 1 := by omega
        · go_wp2
          go_roundw
          case rel => exact ⟨1, by go_num, by omega, trivial⟩
          case measure => simp [intOf]
        · go_wp2
          go_ret
          exact ⟨rfl, rfl⟩
  · go_loopw [8] (fun i wr => i = .int .i64 0 ∧ wr = w) (fun i _ => 2 - (intOf i).toNat)
    case atStart => exact ⟨rfl, rfl⟩
    case round =>
      obtain ⟨rfl, rfl⟩ := hrel
      go_wp2
      go_ret
      exact ⟨rfl, rfl⟩
set_option maxHeartbeats 1000000 in
theorem theirKey_any (c : Crs) (w : World) : Calls Tryz.prog 106 #[.agg #[.string c.partner, .string c.theirs, .string c.own]] w fun e w' => e = .returned (.agg #[.string c.partner, .string c.theirs]) ∧ Below w.heap.size w w' := by
  obtain ⟨partner, theirs, own⟩ := c
  dsimp only
  go_enter Tryz.func106, Tryz.ntmps106
  go_wp2
  exact bodyPost_ret (v := .agg #[.string partner, .string theirs]) (by simp [results, Tryz.results106, go_sem]) rfl ⟨rfl, ((Below.refl _ _).alloc (Nat.le_refl _) _).alloc (by simp) _⟩
set_option maxHeartbeats 1000000 in
theorem ownKey_any (c : Crs) (w : World) : Calls Tryz.prog 107 #[.agg #[.string c.partner, .string c.theirs, .string c.own]] w fun e w' => e = .returned (.agg #[.string c.partner, .string c.own]) ∧ Below w.heap.size w w' := by
  obtain ⟨partner, theirs, own⟩ := c
  dsimp only
  go_enter Tryz.func107, Tryz.ntmps107
  go_wp2
  exact bodyPost_ret (v := .agg #[.string partner, .string own]) (by simp [results, Tryz.results107, go_sem]) rfl ⟨rfl, ((Below.refl _ _).alloc (Nat.le_refl _) _).alloc (by simp) _⟩
set_option maxHeartbeats 2000000 in
/-- itemKey's compare. -/
theorem kcmp_grows (a b : ByteArray × ByteArray) (w : World) : Calls Tryz.prog 109 #[.agg #[.string a.1, .string a.2], .agg #[.string b.1, .string b.2]] w fun e w' => e = .returned (.int .i64 (kcmp a b)) ∧ ∃ o1 o2 o3, w' = (((w.alloc o1).alloc o2).alloc o3).drew := by
  obtain ⟨a1, a2⟩ := a
  obtain ⟨b1, b2⟩ := b
  dsimp only
  obtain ⟨W0, hW0⟩ : ∃ W0, ((w.alloc (.cells #[.string a1, .string a2] 161)).alloc (.cells #[.string b1, .string b2] 161)) = W0 := ⟨_, rfl⟩
  have HW : Hid (∃ o1 o2, W0 = (w.alloc o1).alloc o2) := ⟨_, _, hW0.symm⟩
  have hB : W0.heap.size = w.heap.size + 2 := by rw [← hW0]; simp
  go_enter Tryz.func109, Tryz.ntmps109
  go_upto_region 1 with fail
  try rw [hW0]
  obtain ⟨k0, k1⟩ := fl_twoC w (.cells #[.string a1, .string a2] 161) (.cells #[.string b1, .string b2] 161)
  rw [hW0] at k0 k1
  have z0 : W0.cell? ⟨w.heap.size, 0, none⟩ = some (.string a1) := by simp [World.cell?, k0]
  have z1 : W0.cell? ⟨w.heap.size, 1, none⟩ = some (.string a2) := by simp [World.cell?, k0]
  have z2 : W0.cell? ⟨w.heap.size + 1, 0, none⟩ = some (.string b1) := by simp [World.cell?, k1]
  have z3 : W0.cell? ⟨w.heap.size + 1, 1, none⟩ = some (.string b2) := by simp [World.cell?, k1]
  clear k0 k1
  clear hW0
  have HN : Hid (∀ x y : Int, (W0.alloc (.cells #[.int .i64 x, .int .i64 y] 3)).drew.cell? ⟨w.heap.size + 2, 0, none⟩ = some (.int .i64 x) ∧ (W0.alloc (.cells #[.int .i64 x, .int .i64 y] 3)).drew.cell? ⟨w.heap.size + 2, 1, none⟩ = some (.int .i64 y)) := fun x y => by
    rw [← hB]
    exact ⟨cell_newC W0 _ _ 0 _ rfl, cell_newC W0 _ _ 1 _ rfl⟩
  go_region_held3 (fun W => W.cell? ⟨w.heap.size, 0, none⟩ = some (.string a1) ∧ W.cell? ⟨w.heap.size, 1, none⟩ = some (.string a2) ∧ W.cell? ⟨w.heap.size + 1, 0, none⟩ = some (.string b1) ∧ W.cell? ⟨w.heap.size + 1, 1, none⟩ = some (.string b2)) (go_keep) (first | (go_at_call 114; refine (compare_anyC _ _ _).mono ?_; rintro e w2 ⟨rfl, rfl⟩) | (go_at_call 113; refine (or_any _ _ _ _ (HN.out _ _).1 (HN.out _ _).2).mono ?_; rintro e w3 ⟨rfl, rfl⟩))
  rename_i hHeld
  clear hHeld
  go_wp2
  go_ret
  obtain ⟨o1, o2, e⟩ := HW.out
  exact ⟨rfl, o1, o2, _, by rw [e]⟩
theorem kcmp_any (a b : ByteArray × ByteArray) (w : World) : Calls Tryz.prog 109 #[.agg #[.string a.1, .string a.2], .agg #[.string b.1, .string b.2]] w fun e w' => e = .returned (.int .i64 (kcmp a b)) ∧ Below w.heap.size w w' :=
  (kcmp_grows a b w).mono fun _ _ ⟨he, o1, o2, o3, hw⟩ => ⟨he, by rw [hw]; exact ((((Below.refl _ _).alloc (Nat.le_refl _) _).alloc (by simp) _).alloc (by simp; omega) _).drew⟩
end Go.Proofs.YtmffigmidlgigaaGreatDoor
