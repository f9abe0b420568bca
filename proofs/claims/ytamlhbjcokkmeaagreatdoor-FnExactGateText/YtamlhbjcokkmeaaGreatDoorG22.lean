/- Texts of ours put together: DgI, BiP. -/
import Derived.Test.YtamlhbjcokkmeaaGreatDoorG19
import Derived.Test.YtamlhbjcokkmeaaGreatDoorG21
import Derived.Test.YtamlhbjcokkmeaaGreatDoorG12
import Derived.Deep.RegionHeld3
import Derived.Test.YtamlhbjcokkmeaaGreatDoorG15
import Derived.Lib.SlicesCompact
import Derived.Sort.Walk0
namespace Go.Proofs.YtamlhbjcokkmeaaGreatDoor
open Go.ChangeShapes Go.WideShapes Go.ChangeAt Go.RowKit
theorem TabOk.drew {w : World} (h : TabOk w) : TabOk w.drew := h.below (Below.refl _ _).drew
theorem undrewD {a b : World} (h : Below a.drew.heap.size a.drew b) : Below a.heap.size a b := (Below.refl _ _).drew.trans h
set_option maxHeartbeats 1000000 in
theorem digitsOf_any (n : Int) (w : World) (h0 : -9223372036854775808 ≤ n) (h1 : n ≤ 9223372036854775807) (ht : TabOk w) : Calls Tryz.prog 27 #[.int .i64 n] w fun e w' => e = .returned (.string (decS n)) ∧ Below w.heap.size w w' := by
  go_enter Tryz.func27, Tryz.ntmps27
  go_wp2_with fail
  refine (fmt_any n _ h0 h1 ht).mono ?_
  rintro e w1 ⟨rfl, hb⟩
  have HB : Hid (Below w.heap.size w w1) := hb
  clear hb
  go_wp2
  go_ret
  exact ⟨rfl, HB.out⟩
end Go.Proofs.YtamlhbjcokkmeaaGreatDoor
namespace Go.Proofs.YtamlhbjcokkmeaaGreatDoor
open Go.ChangeShapes Go.WideShapes Go.ChangeAt Go.RowKit
/-- Strictly rising. -/
def RiseK (l : List (List UInt8)) : Prop := l.Pairwise fun a b => Op.bytesLess a b = true
theorem riseK_ext : ∀ {a b : List (List UInt8)}, RiseK a → RiseK b → (∀ x, x ∈ a ↔ x ∈ b) → a = b
  | [], [], _, _, _ => rfl
  | [], y :: r, _, _, h => by have := (h y).2 (by simp); cases this
  | x :: r, [], _, _, h => by have := (h x).1 (by simp); cases this
  | x :: r, y :: s, ha, hb, h => by
    obtain ⟨h1, h2⟩ := List.pairwise_cons.1 ha
    obtain ⟨k1, k2⟩ := List.pairwise_cons.1 hb
    have e : x = y := by
      rcases List.mem_cons.1 ((h x).1 (by simp)) with e | e
      · exact e
      · rcases List.mem_cons.1 ((h y).2 (by simp)) with e' | e'
        · exact e'.symm
        · have := bl_trans (h1 y e') (k1 x e)
          rw [bl_irrefl] at this
          cases this
    subst e
    refine congrArg (x :: ·) (riseK_ext h2 k2 fun z => ⟨fun hz => ?_, fun hz => ?_⟩)
    · rcases List.mem_cons.1 ((h z).1 (by simp [hz])) with e | e
      · have := h1 z hz
        rw [e, bl_irrefl] at this
        cases this
      · exact e
    · rcases List.mem_cons.1 ((h z).2 (by simp [hz])) with e | e
      · have := k1 z hz
        rw [e, bl_irrefl] at this
        cases this
      · exact e
theorem riseK_len : ∀ {l all : List (List UInt8)}, RiseK l → (∀ x ∈ l, x ∈ all) → l.length ≤ all.length
  | [], _, _, _ => by simp
  | x :: r, all, h, hm => by
    obtain ⟨h1, h2⟩ := List.pairwise_cons.1 h
    have hx := hm x (by simp)
    have := riseK_len (all := all.erase x) h2 fun y hy => by
      refine (List.mem_erase_of_ne fun e => ?_).2 (hm y (by simp [hy]))
      have := h1 y hy
      rw [e, bl_irrefl] at this
      cases this
    rw [List.length_erase_of_mem hx] at this
    have := List.length_pos_of_mem hx
    simp only [List.length_cons]
    omega
/-- What is compacted of a sorted row: rising, and of the same texts. -/
theorem comp_inv {d : Array (List UInt8)} (hs : ∀ i j, i ≤ j → j < d.size → Op.bytesLess d[j]! d[i]! = false) : ∀ m, m ≤ d.size → RiseK (Lib.compactUpTo d m) ∧ ∀ x, x ∈ Lib.compactUpTo d m ↔ ∃ j, j < m ∧ d[j]! = x
  | 0, _ => by simp [Lib.compactUpTo, RiseK]
  | m + 1, hm => by
    obtain ⟨h1, h2⟩ := comp_inv hs m (by omega)
    rw [Lib.compactUpTo_succ]
    have hlast : ∀ x, x ∈ Lib.compactUpTo d m → 0 < m ∧ Op.bytesLess d[m - 1]! x = false := fun x hx => by
      obtain ⟨j, hj, rfl⟩ := (h2 x).1 hx
      exact ⟨by omega, hs j (m - 1) (by omega) (by omega)⟩
    by_cases hk : Lib.keeps d m = true
    · rw [if_pos hk]
      refine ⟨List.pairwise_append.2 ⟨h1, by simp, fun x hx y hy => ?_⟩, fun x => ?_⟩
      · rw [List.mem_singleton.1 hy]
        obtain ⟨h0, h3⟩ := hlast x hx
        have h4 := hs (m - 1) m (by omega) (by omega)
        cases e : Op.bytesLess x d[m]! with
        | true => rfl
        | false =>
          have hne : d[m]! ≠ d[m - 1]! := fun e2 => by
            rw [Lib.keeps_neg h0 e2] at hk
            cases hk
          obtain ⟨j, hj, rfl⟩ := (h2 x).1 hx
          have h5 := hs j m (by omega) (by omega)
          have e3 := bl_tri e h5
          have h6 := hs j (m - 1) (by omega) (by omega)
          rw [e3] at h3
          exact absurd (bl_tri h4 h3) hne
      · simp only [List.mem_append, List.mem_singleton, h2]
        constructor
        · rintro (⟨j, hj, e⟩ | e)
          · exact ⟨j, by omega, e⟩
          · exact ⟨m, by omega, e.symm⟩
        · rintro ⟨j, hj, e⟩
          rcases Nat.lt_or_ge j m with g | g
          · exact .inl ⟨j, g, e⟩
          · obtain rfl : j = m := by omega
            exact .inr e.symm
    · rw [if_neg hk, List.append_nil]
      refine ⟨h1, fun x => ?_⟩
      rw [h2]
      constructor
      · rintro ⟨j, hj, e⟩
        exact ⟨j, by omega, e⟩
      · rintro ⟨j, hj, e⟩
        rcases Nat.lt_or_ge j m with g | g
        · exact ⟨j, g, e⟩
        · obtain rfl : j = m := by omega
          rcases Nat.eq_zero_or_pos j with h0 | h0
          · subst h0
            exact absurd (Lib.keeps_lt_one d 0 (by omega)) hk
          · refine ⟨j - 1, by omega, ?_⟩
            rw [← e]
            by_cases e4 : d[j]! = d[j - 1]!
            · exact e4.symm
            · exact absurd (Lib.keeps_pos e4) hk
/-- The texts of a list, sorted, each once. -/
def uniqK (l : List (List UInt8)) : List (List UInt8) := Lib.compact (l.mergeSort fun x y => decide (x ≤ y))
theorem leK_iff (x y : List UInt8) : decide (x ≤ y) = !Op.bytesLess y x := by
  rw [bytesLess_eq]
  by_cases h : x ≤ y
  · simp [h, List.not_lt.2 h]
  · simp [h, List.not_le.1 h]
theorem uniqK_inv (l : List (List UInt8)) : RiseK (uniqK l) ∧ ∀ x, x ∈ uniqK l ↔ x ∈ l := by
  obtain ⟨s, hs⟩ : ∃ s, s = l.mergeSort fun x y => decide (x ≤ y) := ⟨_, rfl⟩
  have hp : s.Pairwise fun x y => decide (x ≤ y) = true := by
    rw [hs]
    refine List.pairwise_mergeSort (fun a b c h1 h2 => ?_) (fun a b => ?_) l
    · simp only [decide_eq_true_eq] at h1 h2 ⊢
      exact List.le_trans h1 h2
    · simp only [Bool.or_eq_true, decide_eq_true_eq]
      exact List.le_total a b
  have hmem : ∀ x, x ∈ s ↔ x ∈ l := fun x => by rw [hs]; exact (List.mergeSort_perm _ _).mem_iff
  have := comp_inv (d := s.toArray) (fun i j hij hj => by
    have hj' : j < s.length := by simpa using hj
    have e1 : s.toArray[i]! = s[i]'(by omega) := by simp [getElem!_pos, show i < s.length by omega]
    have e2 : s.toArray[j]! = s[j] := by simp [getElem!_pos, hj']
    rw [e1, e2]
    rcases Nat.lt_or_ge i j with g | g
    · have := List.pairwise_iff_getElem.1 hp i j (by omega) hj' g
      rw [leK_iff] at this
      simpa using this
    · obtain rfl : i = j := by omega
      exact bl_irrefl _) s.length (by simp)
  unfold uniqK
  rw [← hs]
  refine ⟨this.1, fun x => ?_⟩
  rw [show Lib.compact s = Lib.compactUpTo s.toArray s.length from rfl, this.2, ← hmem]
  constructor
  · rintro ⟨j, hj, rfl⟩
    have : s.toArray[j]! = s[j] := by simp [getElem!_pos, hj]
    rw [this]
    exact List.getElem_mem hj
  · intro hx
    obtain ⟨j, hj⟩ := List.getElem?_of_mem hx
    obtain ⟨h1, h2⟩ := List.getElem?_eq_some_iff.1 hj
    exact ⟨j, h1, by simp [getElem!_pos, h1, h2]⟩
def keyB (t : ByteArray) : List UInt8 := t.data.toList
theorem keyB_inj {a b : ByteArray} (h : keyB a = keyB b) : a = b := ByteArray.ext (Array.toList_inj.1 h)
def baK (l : List UInt8) : ByteArray := ⟨l.toArray⟩
theorem keyB_baK (l : List UInt8) : keyB (baK l) = l := by simp [keyB, baK]
/-- All the items of a book, as they stand. -/
def allT (b : Bk) : List ByteArray := b.stocks.map Stk.item ++ b.lines.map OLn.item
/-- What BookItems tells. -/
noncomputable def itemsT (b : Bk) : List ByteArray := if bkB b = true then (uniqK ((allT b).map keyB)).map baK else []
theorem itemsT_no {b : Bk} (h : bkB b = false) : itemsT b = [] := by simp [itemsT, h]
theorem itemsT_yes {b : Bk} (h : bkB b = true) : itemsT b = (uniqK ((allT b).map keyB)).map baK := by simp [itemsT, h]
theorem itemsT_of {b : Bk} (h : bkB b = true) {out : List ByteArray} (h1 : RiseK (out.map keyB)) (h2 : ∀ x, x ∈ out.map keyB ↔ x ∈ (allT b).map keyB) : itemsT b = out := by
  obtain ⟨k1, k2⟩ := uniqK_inv ((allT b).map keyB)
  rw [itemsT_yes h, ← riseK_ext h1 k1 fun x => (h2 x).trans (k2 x).symm, List.map_map]
  have : baK ∘ keyB = id := by
    funext t
    exact keyB_inj (keyB_baK _)
  rw [this, List.map_id]
theorem itemsT_len {b : Bk} : (itemsT b).length ≤ 300 := by
  cases h : bkB b with
  | false => rw [itemsT_no h]; simp
  | true =>
    obtain ⟨k1, k2⟩ := uniqK_inv ((allT b).map keyB)
    obtain ⟨r1, r2⟩ := bkB_iff.1 h
    rw [itemsT_yes h, List.length_map]
    have := riseK_len k1 fun x hx => (k2 x).1 hx
    have h1 := r1.len
    have h2 := r2.len
    have hall : ((allT b).map keyB).length = b.stocks.length + b.lines.length := by simp [allT]
    rw [hall] at this
    omega
theorem allT_names {b : Bk} (h : bkB b = true) : ∀ x ∈ allT b, nameB x = true := fun x hx => by
  obtain ⟨r1, r2⟩ := bkB_iff.1 h
  rcases List.mem_append.1 hx with hx | hx
  · obtain ⟨s, hs, rfl⟩ := List.mem_map.1 hx
    exact (r1.ok s hs).n
  · obtain ⟨l, hl, rfl⟩ := List.mem_map.1 hx
    exact (r2.ok l hl).i
end Go.Proofs.YtamlhbjcokkmeaaGreatDoor
