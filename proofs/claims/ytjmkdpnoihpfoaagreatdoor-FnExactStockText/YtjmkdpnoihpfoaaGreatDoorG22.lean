/- Texts of ours put together: StxP. -/
import Derived.Test.YtjmkdpnoihpfoaaGreatDoorG14
import Derived.Test.YtjmkdpnoihpfoaaGreatDoorG18
import Derived.Test.YtjmkdpnoihpfoaaGreatDoorG21
namespace Go.Proofs.YtjmkdpnoihpfoaaGreatDoor
open Go.ChangeShapes Go.WideShapes Go.ChangeAt Go.RowKit
/-- The words of a row of an Item. -/
noncomputable def stW (p : Bk) (i : ByteArray) : List ByteArray := [i, (⟨#[104, 97, 110, 100]⟩ : ByteArray), decS (handT p i), (⟨#[111, 114, 100, 101, 114, 101, 100]⟩ : ByteArray), decS (sumT opnT p ⟨#[]⟩ i), (⟨#[116, 114, 97, 110, 115, 105, 116]⟩ : ByteArray), decS (sumT trnT p ⟨#[]⟩ i)]
theorem stW_len (p : Bk) (i : ByteArray) : (stW p i).length = 7 := rfl
/-- What StockText tells. -/
noncomputable def stkT (p : Bk) : ByteArray := txB ((itemsT p).map (stW p))
theorem stkT_no {p : Bk} (h : bkB p = false) : stkT p = ⟨#[]⟩ := by unfold stkT; rw [itemsT_no h]; rfl
theorem st_app (p : Bk) (t i : ByteArray) : ((((((((t ++ i) ++ (⟨#[32, 104, 97, 110, 100, 32]⟩ : ByteArray)) ++ decS (handT p i)) ++ (⟨#[32, 111, 114, 100, 101, 114, 101, 100, 32]⟩ : ByteArray)) ++ decS (sumT opnT p ⟨#[]⟩ i)) ++ (⟨#[32, 116, 114, 97, 110, 115, 105, 116, 32]⟩ : ByteArray)) ++ decS (sumT trnT p ⟨#[]⟩ i)) ++ (⟨#[10]⟩ : ByteArray)) = t ++ ⟨(rowL (stW p i)).toArray⟩ := by
  unfold rowL stW
  apply ByteArray.ext
  apply Array.toList_inj.1
  simp [Lib.join_cons, Lib.joinTail, ByteArray.data_append, List.append_assoc]
theorem baK_keyB (t : ByteArray) : baK (keyB t) = t := keyB_inj (keyB_baK _)
theorem items_name {p : Bk} (h : bkB p = true) : ∀ x ∈ itemsT p, x.size ≤ 12 := fun x hx => by
  rw [itemsT_yes h] at hx
  obtain ⟨k, hk, rfl⟩ := List.mem_map.1 hx
  obtain ⟨y, hy, rfl⟩ := List.mem_map.1 (((uniqK_inv _).2 k).1 hk)
  rw [baK_keyB]
  exact (nameB_sizes (allT_names h y hy)).2
theorem hand_bd (p : Bk) (i : ByteArray) : 0 ≤ handT p i ∧ handT p i ≤ 1000000000 := by
  unfold handT
  by_cases h : bkB p = true
  · rw [if_pos h]
    cases hf : findS i p.stocks with
    | none => simp
    | some s =>
      have hm : s ∈ p.stocks := List.mem_of_find?_eq_some hf
      have := (bkB_iff.1 h).1.ok s hm
      exact ⟨this.h0, this.h1⟩
  · rw [if_neg h]
    omega
theorem sum_bd (f : OLn → Int) (hf : ∀ l, 0 ≤ f l ∧ f l ≤ 1000000) (p : Bk) (q i : ByteArray) : 0 ≤ sumT f p q i ∧ sumT f p q i ≤ 200000000 := by
  unfold sumT
  by_cases h : bkB p = true
  · rw [if_pos h]
    have h1 := (bkB_iff.1 h).2.len
    have h2 := List.length_filter_le (ofB q i) p.lines
    have h3 := sumL_bound (f := f) (m := 1000000) (by omega) (ls := p.lines.filter (ofB q i)) fun l _ => hf l
    omega
  · rw [if_neg h]
    omega
structure StB (p : Bk) (i : ByteArray) : Prop where
  h0 : -9223372036854775808 ≤ handT p i
  h1 : handT p i ≤ 9223372036854775807
  o0 : -9223372036854775808 ≤ sumT opnT p ⟨#[]⟩ i
  o1 : sumT opnT p ⟨#[]⟩ i ≤ 9223372036854775807
  t0 : -9223372036854775808 ≤ sumT trnT p ⟨#[]⟩ i
  t1 : sumT trnT p ⟨#[]⟩ i ≤ 9223372036854775807
theorem stB (p : Bk) (i : ByteArray) : StB p i := by
  have a := hand_bd p i
  have b := sum_bd opnT opnT_bound p ⟨#[]⟩ i
  have c := sum_bd trnT trnT_bound p ⟨#[]⟩ i
  exact ⟨by omega, by omega, by omega, by omega, by omega, by omega⟩
theorem stRow_len {p : Bk} {i : ByteArray} (h : i.size ≤ 12) : (rowL (stW p i)).length ≤ 200 := by
  have b := stB p i
  have z1 := (decS_long _ b.h0 b.h1).2
  have z2 := (decS_long _ b.o0 b.o1).2
  have z3 := (decS_long _ b.t0 b.t1).2
  have e : ∀ s : ByteArray, s.data.toList.length = s.size := fun s => rfl
  unfold rowL stW
  simp only [List.map_cons, List.map_nil, Lib.join_cons, Lib.joinTail, List.flatten_cons, List.flatten_nil, List.length_append, List.length_cons, List.length_nil, e]
  omega
theorem st_len {p : Bk} : ∀ {l : List ByteArray}, (∀ x ∈ l, x.size ≤ 12) → (txR (l.map (stW p))).length ≤ 200 * l.length
  | [], _ => by simp [txR]
  | a :: r, h => by
    have h1 := st_len (p := p) (l := r) fun l hl => h l (List.mem_cons_of_mem _ hl)
    have h2 := stRow_len (p := p) (h a List.mem_cons_self)
    simp only [List.map_cons, txR, List.flatten_cons, List.length_append, List.length_cons] at *
    omega
theorem stW_flat (p : Bk) : ∀ l : List ByteArray, (l.map (stW p)).flatten.length = 7 * l.length
  | [] => rfl
  | a :: r => by simp only [List.map_cons, List.flatten_cons, List.length_append, stW_len, stW_flat p r, List.length_cons]; omega
end Go.Proofs.YtjmkdpnoihpfoaaGreatDoor
