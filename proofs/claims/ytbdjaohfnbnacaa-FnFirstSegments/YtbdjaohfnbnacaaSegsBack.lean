/- Segments are read back from their texts, one behind the other; the first of them from the beginning of the text of all. -/
import Derived.Test.YtbdjaohfnbnacaaBackA
import Derived.Test.YtbdjaohfnbnacaaReadAll
import Derived.Test.YtbdjaohfnbnacaaTextsG
namespace Go.Proofs.Ytbdjaohfnbnacaa
open Go.ChangeShapes Go.WideShapes Go.ChangeAt Go.RowKit
theorem bsz (t : ByteArray) : t.size = t.data.toList.length := Array.length_toList.symm
theorem rg_tag {tag : ByteArray} {es : List (List ByteArray)} (hg : rightG tag es = true) : tagB tag = true := by
  unfold rightG at hg
  simp only [Bool.and_eq_true] at hg
  exact hg.1
theorem catU_ext (a b c d : Int) (gs : List Seg) (k : Nat) : ∀ n, k ≤ n → ∃ m, catU a b c d gs n = catU a b c d gs k ++ m := by
  intro n
  induction n with
  | zero =>
    intro h
    obtain rfl : k = 0 := by omega
    exact ⟨[], by simp⟩
  | succ n ih =>
    intro h
    rcases Nat.lt_or_ge k (n + 1) with g | g
    · obtain ⟨m, hm⟩ := ih (by omega)
      exact ⟨_, by rw [catU, hm, List.append_assoc]⟩
    · obtain rfl : k = n + 1 := by omega
      exact ⟨[], by simp⟩
theorem catU_take (a b c d : Int) (gs : List Seg) (k : Nat) : ∀ n, n ≤ k → catU a b c d (gs.take k) n = catU a b c d gs n := by
  intro n
  induction n with
  | zero => intro _; rfl
  | succ n ih =>
    intro h
    have e : (gs.take k)[n]? = gs[n]? := List.getElem?_take_of_lt (by omega)
    simp only [catU]
    rw [ih (by omega), e]
theorem allR_back {a b c d : Int} {gs : List Seg} {t : ByteArray} (hr : rightB a b c d = true) (hl : gs.length ≤ 200) (hg : ∀ (i : Nat) (g : Seg), gs[i]? = some g → rightG g.1 g.2 = true) (ht : t.data.toList = catU a b c d gs gs.length) :
    ∀ (n k f : Nat), k + n = gs.length → n < f → allR a b c d t f (catU a b c d gs k).length (gs.take k) = (0, 0, 0, gs) := by
  have hts : t.size = (catU a b c d gs gs.length).length := by rw [← ht]; exact bsz _
  intro n
  induction n with
  | zero =>
    intro k f hk hf
    obtain rfl : k = gs.length := by omega
    rw [← hts, allR_over hf, List.take_length]
  | succ n ih =>
    intro k f hk hf
    obtain ⟨f, rfl⟩ : ∃ f', f = f' + 1 := ⟨f - 1, by omega⟩
    have hkl : k < gs.length := by omega
    have hgk : gs[k]? = some gs[k] := List.getElem?_eq_getElem hkl
    obtain ⟨m, hm⟩ := catU_ext a b c d gs (k + 1) gs.length (by omega)
    have hR := hg k _ hgk
    have hT := text_bytes hr hR
    have hc1 : catU a b c d gs (k + 1) = catU a b c d gs k ++ (textG a b c d gs[k].1 gs[k].2).data.toList := by simp only [catU, hgk, Option.getD_some]
    have hall : t.data.toList = catU a b c d gs k ++ (gs[k].1.data.toList ++ gU a b c d gs[k].2 ++ mB a :: m) := by
      rw [ht, hm, hc1, hT]
      simp
    have hs : (t.extract (catU a b c d gs k).length t.size).data.toList = gs[k].1.data.toList ++ gU a b c d gs[k].2 ++ mB a :: m := by
      have e : (t.extract (catU a b c d gs k).length t.size).data.toList = (t.data.toList.drop (catU a b c d gs k).length) := by
        rw [ByteArray.data_extract, Array.toList_extract, List.extract_eq_take_drop]
        exact List.take_of_length_le (by rw [List.length_drop, bsz]; exact Nat.le_refl _)
      rw [e, hall, List.drop_left]
    have h1 := take_back hr (rg_tag hR) hs
    have h2 := seg_back hr hR (asS_data (gs[k].1.data.toList ++ gU a b c d gs[k].2))
    have hz : (asS (gs[k].1.data.toList ++ gU a b c d gs[k].2)).size + 1 = (textG a b c d gs[k].1 gs[k].2).data.toList.length := by
      rw [hT, bsz, asS_data]
      simp
      omega
    have hne : (catU a b c d gs k).length ≠ t.size := by
      rw [bsz t, hall]
      simp
    simp only [allR]
    rw [if_neg hne, if_neg (by rw [List.length_take]; omega), h1]
    simp only
    rw [h2]
    simp only
    have hn := ih (k + 1) f (by omega) (by omega)
    have e2 : (catU a b c d gs k).length + ((asS (gs[k].1.data.toList ++ gU a b c d gs[k].2)).size + 1) = (catU a b c d gs (k + 1)).length := by
      rw [hz, hc1, List.length_append]
    have e3 : gs.take k ++ [(gs[k].1, gs[k].2)] = gs.take (k + 1) := by
      rw [List.take_add_one, hgk]
      rfl
    rw [e2, e3]
    exact hn
theorem rds_back {a b c d : Int} {gs : List Seg} (h : okGs a b c d gs) : rdsR a b c d (textsG a b c d gs) = (0, 0, 0, gs) := by
  have ht : (textsG a b c d gs).data.toList = catU a b c d gs gs.length := by rw [textsG_yes h]
  have hs : (textsG a b c d gs).size = (catU a b c d gs gs.length).length := by rw [← ht]; exact bsz _
  unfold rdsR
  have h4 := h.2.2.2
  rw [if_neg (by omega), if_pos h.1]
  have hlen : gs.length ≤ (textsG a b c d gs).size := by
    rw [hs]
    have : ∀ n, n ≤ gs.length → n ≤ (catU a b c d gs n).length := by
      intro n
      induction n with
      | zero => intro _; omega
      | succ n ih =>
        intro hn
        have hgk : gs[n]? = some gs[n] := List.getElem?_eq_getElem (by omega)
        have hT := text_bytes h.1 (h.2.2.1 n _ hgk)
        have := ih (by omega)
        simp only [catU, hgk, Option.getD_some, List.length_append]
        rw [hT]
        simp
        omega
    exact this _ (Nat.le_refl _)
  have := allR_back h.1 h.2.1 h.2.2.1 ht gs.length 0 ((textsG a b c d gs).size + 1) (by omega) (by omega)
  simpa [catU] using this
theorem okGs_take {a b c d : Int} {gs : List Seg} (h : okGs a b c d gs) (k : Nat) (hk : k ≤ gs.length) : okGs a b c d (gs.take k) := by
  have hl : (gs.take k).length = k := by rw [List.length_take]; omega
  refine ⟨h.1, by have := h.2.1; omega, fun i g hi => h.2.2.1 i g ?_, ?_⟩
  · have hlt := (List.getElem?_eq_some_iff.1 hi).1
    rw [List.getElem?_take_of_lt (by omega)] at hi
    exact hi
  · rw [hl, catU_take a b c d gs k k (Nat.le_refl _)]
    exact Nat.le_trans (catU_mono a b c d gs k gs.length hk) h.2.2.2
/-- The text of the first is the beginning of the text of all. -/
theorem texts_first {a b c d : Int} {gs : List Seg} (h : okGs a b c d gs) (k : Nat) (hk : k ≤ gs.length) : (textsG a b c d (gs.take k)).size ≤ (textsG a b c d gs).size ∧ (textsG a b c d gs).extract 0 (textsG a b c d (gs.take k)).size = textsG a b c d (gs.take k) := by
  have hl : (gs.take k).length = k := by rw [List.length_take]; omega
  have h1 : (textsG a b c d (gs.take k)).data.toList = catU a b c d gs k := by
    rw [textsG_yes (okGs_take h k hk), hl, catU_take a b c d gs k k (Nat.le_refl _)]
  have h2 : (textsG a b c d gs).data.toList = catU a b c d gs gs.length := by rw [textsG_yes h]
  obtain ⟨m, hm⟩ := catU_ext a b c d gs k gs.length hk
  have s1 : (textsG a b c d (gs.take k)).size = (catU a b c d gs k).length := by rw [← h1]; exact bsz _
  have s2 : (textsG a b c d gs).size = (catU a b c d gs gs.length).length := by rw [← h2]; exact bsz _
  refine ⟨by rw [s1, s2, hm, List.length_append]; omega, ?_⟩
  apply ByteArray.ext
  apply Array.toList_inj.1
  rw [ByteArray.data_extract, Array.toList_extract, List.extract_eq_take_drop, h1, h2, s1, hm]
  simp
theorem textsG_ok {a b c d : Int} {gs : List Seg} (h : (textsG a b c d gs).size ≠ 0) : okGs a b c d gs := by
  apply Classical.byContradiction
  intro hn
  rw [textsG_no hn] at h
  exact h rfl
theorem right_bdX {tag : ByteArray} {es : List (List ByteArray)} (h : rightG tag es = true) : BdX es := by
  intro e he
  obtain ⟨j, hj⟩ := List.mem_iff_getElem?.1 he
  have hb := (rightG_facts h).2.2 j e hj
  unfold elB at hb
  simp only [Bool.and_eq_true, decide_eq_true_eq, List.all_eq_true] at hb
  refine ⟨hb.2.1, fun t ht => ?_⟩
  have := hb.2.2.2 t ht
  unfold partB at this
  simp only [Bool.and_eq_true, decide_eq_true_eq] at this
  exact this.1
theorem OwnL.rowR {n₀ : Nat} {W : World} {v : Value} {ps : List (Value × List Value)} {gs : List Seg} (h : OwnL n₀ W v ps gs) (hR : ∀ (i : Nat) (g : Seg), gs[i]? = some g → rightG g.1 g.2 = true) (hl : gs.length ≤ 200) : RowG W v gs := by
  refine ⟨?_, by omega, fun i g hi => by have := (rightG_facts (hR i g hi)).1; omega⟩
  rcases h.row.2 with ⟨rfl, h0⟩ | ⟨g, cap, cur, rfl, _⟩
  · exact ⟨none, 0, by rw [h0], fun hn => absurd (List.length_eq_zero_iff.1 h0) hn⟩
  · refine ⟨_, _, rfl, fun _ => ⟨g, 0, rfl, fun i e hi => ?_⟩⟩
    have hlt := (List.getElem?_eq_some_iff.1 hi).1
    have hv : ps[i]? = some (ps[i]'(by rw [h.len]; exact hlt)) := List.getElem?_eq_getElem _
    obtain ⟨g1, g2⟩ := cellsL_get hi hv
    have h1 := h.row.cells (g := g) rfl _ _ g1
    have h2 := h.row.cells (g := g) rfl _ _ g2
    have e1 : ∀ i, (⟨g, 0, none⟩ : Addr).add i = ⟨g, 0 + i, none⟩ := fun i => by unfold Addr.add; split <;> simp_all
    rw [e1] at h1 h2
    have hr := hR i e hi
    exact ⟨h1, _, h2, (h.segs i _ e hv hi).rowE (right_bdX hr) (by have := (rightG_facts hr).2.1; omega)⟩
theorem RowG.take {W : World} {A : Option Addr} {C : Nat} {gs : List Seg} (h : RowG W (.slice A gs.length C) gs) (k cap : Nat) (hk : k ≤ gs.length) : RowG W (.slice A k cap) (gs.take k) := by
  have hl : (gs.take k).length = k := by rw [List.length_take]; omega
  obtain ⟨a, c, e, hc⟩ := h.shape
  simp only [Value.slice.injEq, true_and] at e
  obtain ⟨rfl, rfl⟩ := e
  have hget : ∀ (i : Nat) (g : Seg), (gs.take k)[i]? = some g → gs[i]? = some g := fun i g hi => by
    have hlt := (List.getElem?_eq_some_iff.1 hi).1
    rwa [List.getElem?_take_of_lt (by omega)] at hi
  refine ⟨⟨A, cap, by rw [hl], fun hn => ?_⟩, by have := h.len; omega, fun i g hi => h.sizes i g (hget i g hi)⟩
  obtain ⟨b, o, ea, hcell⟩ := hc (fun e => hn (by rw [e]; simp))
  exact ⟨b, o, ea, fun i g hi => hcell i g (hget i g hi)⟩
theorem BdG.take {n : Nat} {gs : List Seg} (h : BdG n gs) (k : Nat) : BdG n (gs.take k) := by
  refine ⟨by have := h.1; rw [List.length_take]; omega, fun i g hi => h.2 i g ?_⟩
  have hlt := (List.getElem?_eq_some_iff.1 hi).1
  rw [List.length_take] at hlt
  rwa [List.getElem?_take_of_lt (by omega)] at hi
end Go.Proofs.Ytbdjaohfnbnacaa
