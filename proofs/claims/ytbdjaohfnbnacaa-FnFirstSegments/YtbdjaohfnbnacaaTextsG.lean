/- The texts of segments, one behind the other; contract of impl.SegmentsText: at every four numbers and every list of segments that reads, as textsG tells; nothing that was there is written. -/
import Derived.Test.YtbdjaohfnbnacaaTextG
import Derived.Test.YtbdjaohfnbnacaaShLen
import Derived.Test.YtbdjaohfnbnacaaRowG
import Derived.Deep.RegionHeld3
namespace Go.Proofs.Ytbdjaohfnbnacaa
open Go.ChangeShapes Go.WideShapes Go.ChangeAt Go.RowKit
/-- The texts of the first k. -/
def catU (a b c d : Int) (gs : List Seg) : Nat → List UInt8
  | 0 => []
  | k + 1 => catU a b c d gs k ++ (textG a b c d (gs[k]?.getD (⟨#[]⟩, [])).1 (gs[k]?.getD (⟨#[]⟩, [])).2).data.toList
def okGs (a b c d : Int) (gs : List Seg) : Prop := rightB a b c d = true ∧ gs.length ≤ 200 ∧ (∀ (i : Nat) (g : Seg), gs[i]? = some g → rightG g.1 g.2 = true) ∧ (catU a b c d gs gs.length).length ≤ 20000
open Classical in
noncomputable def textsG (a b c d : Int) (gs : List Seg) : ByteArray := if okGs a b c d gs then ⟨(catU a b c d gs gs.length).toArray⟩ else ⟨#[]⟩
theorem textsG_no {a b c d : Int} {gs : List Seg} (h : ¬ okGs a b c d gs) : textsG a b c d gs = ⟨#[]⟩ := by
  unfold textsG
  rw [if_neg h]
theorem textsG_yes {a b c d : Int} {gs : List Seg} (h : okGs a b c d gs) : textsG a b c d gs = ⟨(catU a b c d gs gs.length).toArray⟩ := by
  unfold textsG
  rw [if_pos h]
theorem catU_mono (a b c d : Int) (gs : List Seg) (k : Nat) : ∀ n, k ≤ n → (catU a b c d gs k).length ≤ (catU a b c d gs n).length := by
  intro n
  induction n with
  | zero =>
    intro h
    have hk : k = 0 := by omega
    rw [hk]
    exact Nat.le_refl _
  | succ n ih =>
    intro h
    rcases Nat.lt_or_ge k (n + 1) with g | g
    · have := ih (by omega)
      simp only [catU, List.length_append]
      omega
    · have hk : k = n + 1 := by omega
      rw [hk]
      exact Nat.le_refl _
theorem isE_text (a b c d : Int) (tag : ByteArray) (es : List (List ByteArray)) : (textG a b c d tag es).toList.isEmpty = !(rightB a b c d && rightG tag es) := by
  have hl : ∀ x : ByteArray, x.toList = x.data.toList := fun x => by
    simpa using ByteArray.toList_eq x
  rw [hl]
  unfold textG
  split
  · rename_i h
    rw [h]
    simp [textU]
  · rename_i h
    simp only [Bool.not_eq_true] at h
    rw [h]
    rfl
theorem textG_size (a b c d : Int) (tag : ByteArray) (es : List (List ByteArray)) : (textG a b c d tag es).size ≤ 4000 := by
  unfold textG
  split
  · rename_i h
    simp only [Bool.and_eq_true] at h
    have h1 := segU_len (a := a) (b := b) (c := c) (d := d) h.2 _ (Nat.le_refl _)
    have h2 := (rightG_facts h.2).2.1
    have e : (⟨(textU a b c d tag es).toArray⟩ : ByteArray).size = (textU a b c d tag es).length := by simp [ByteArray.size]
    rw [e]
    unfold textU
    rw [List.length_append]
    simp
    omega
  · exact Nat.zero_le _
theorem isB_keep {T e B b : Nat} {bs : List Value} {W W' : World} (h : Lib.IsBuilder T e B b bs W) (hb : Below W.heap.size W W') : Lib.IsBuilder T e B b bs W' := by
  rcases h with h | h
  · exact .inl (builder_keep h hb)
  · exact .inr (builder_keep h hb)
set_option maxHeartbeats 2000000 in
theorem texts_impl (a b c d : Int) (v : Value) (gs : List Seg) (w : World) (h : RowG w v gs) (hG : BdG 1048576 gs) :
    Calls Try.prog 7 #[.agg #[.int .i64 a, .int .i64 b, .int .i64 c, .int .i64 d], v] w fun e w' => e = .returned (.string (textsG a b c d gs)) ∧ Below w.heap.size w w' := by
  obtain ⟨A, cap, rfl⟩ := h.val
  have hl := hG.1
  by_cases h200 : 200 < gs.length
  · have d0 : (200 : Int) < (gs.length : Int) := by omega
    clear h
    go_enter Try.func7, Try.ntmps7
    go_wp2
    go_ret
    exact ⟨ret_str (textsG_no fun h => by have := h.2.1; omega).symm, (Below.refl _ _).alloc (Nat.le_refl _) _⟩
  have d0 : ¬ (200 : Int) < (gs.length : Int) := by omega
  obtain ⟨W0, hW0⟩ : ∃ W0, W0 = w.alloc (.cells #[.int .i64 a, .int .i64 b, .int .i64 c, .int .i64 d] 24) := ⟨_, rfl⟩
  have hs0 : W0.heap.size = w.heap.size + 1 := by rw [hW0]; simp
  have hb0 : Below w.heap.size w W0 := by rw [hW0]; exact (Below.refl _ _).alloc (Nat.le_refl _) _
  have sx0 : W0.heap[w.heap.size]? = some (.cells #[.int .i64 a, .int .i64 b, .int .i64 c, .int .i64 d] 24) := by rw [hW0]; exact World.alloc_heap_new w _
  have hr0 : RowG W0 (.slice A gs.length cap) gs := by rw [hW0]; exact h.below ((Below.refl _ _).alloc (Nat.le_refl _) _)
  have H0 : Hid (Below w.heap.size w W0 ∧ W0.heap[w.heap.size]? = some (.cells #[.int .i64 a, .int .i64 b, .int .i64 c, .int .i64 d] 24) ∧ RowG W0 (.slice A gs.length cap) gs ∧ BdG 1048576 gs) := ⟨hb0, sx0, hr0, hG⟩
  clear hb0 sx0 hr0 hG h
  go_enter Try.func7, Try.ntmps7
  go_wp2_with fail
  rw [← hW0]
  go_loopw [14] (fun i wr => ∃ k : Nat, i = .int .i64 (k : Int) ∧ k ≤ gs.length ∧ (∀ (j : Nat) (g : Seg), j < k → gs[j]? = some g → rightG g.1 g.2 = true) ∧ (0 < k → rightB a b c d = true) ∧ (catU a b c d gs k).length ≤ 20000 ∧ Lib.IsBuilder 48 5 (w.heap.size + 1) (w.heap.size + 1) (Lib.byteCells (catU a b c d gs k)) wr ∧ Below W0.heap.size W0 wr) (fun i _ => gs.length - (intOf i).toNat)
  case atStart =>
    refine ⟨0, rfl, by omega, fun j g hj => by omega, fun h => by omega, by simp [catU], .inl ⟨Nat.le_refl _, .slice none 0 0, ?_, World.ownsRow_nil _ _ _ _, by simp [Value.ownBlock]⟩, (Below.refl _ _).alloc (Nat.le_refl _) _⟩
    rw [← hs0]
    exact World.alloc_heap_new W0 _
  case round =>
    obtain ⟨k, rfl, hk, hA, hRB, hlen, hB, hb⟩ := hrel
    by_cases hlt : k < gs.length
    · have hlt' : (k : Int) < (gs.length : Int) := by omega
      obtain ⟨b1, o1, c1, g, u, e, hs, hc, hd, hS, hsz⟩ := (H0.out.2.2.1.below hb).at hlt
      simp only [Value.slice.injEq, true_and] at e
      obtain ⟨rfl, rfl⟩ := e
      obtain ⟨a2, cap2, rfl⟩ := hS.val
      have hwr := hb.size
      have hbA : Below wr.heap.size wr (wr.alloc (.cells #[.string g.1, .slice a2 g.2.length cap2] 44)) := (Below.refl _ _).alloc (Nat.le_refl _) _
      have sx := (hb.block w.heap.size (by omega)).trans H0.out.2.1
      have sy := (hbA.block w.heap.size (by omega)).trans sx
      have x0 : (wr.alloc (.cells #[.string g.1, .slice a2 g.2.length cap2] 44)).cell? ⟨w.heap.size, 0, none⟩ = some (.int .i64 a) := by simp [World.cell?, sy]
      have x1 : (wr.alloc (.cells #[.string g.1, .slice a2 g.2.length cap2] 44)).cell? ⟨w.heap.size, 1, none⟩ = some (.int .i64 b) := by simp [World.cell?, sy]
      have x2 : (wr.alloc (.cells #[.string g.1, .slice a2 g.2.length cap2] 44)).cell? ⟨w.heap.size, 2, none⟩ = some (.int .i64 c) := by simp [World.cell?, sy]
      have x3 : (wr.alloc (.cells #[.string g.1, .slice a2 g.2.length cap2] 44)).cell? ⟨w.heap.size, 3, none⟩ = some (.int .i64 d) := by simp [World.cell?, sy]
      have HS : Hid (gs[k]? = some g ∧ RowE (wr.alloc (.cells #[.string g.1, .slice a2 g.2.length cap2] 44)) (.slice a2 g.2.length cap2) g.2 ∧ BdE 1048576 g.2) := ⟨hs, hS.below hbA, (H0.out.2.2.2.2 k g hs).2⟩
      have HB : Hid (Lib.IsBuilder 48 5 (w.heap.size + 1) (w.heap.size + 1) (Lib.byteCells (catU a b c d gs k)) wr ∧ Below W0.heap.size W0 wr ∧ (∀ (j : Nat) (g : Seg), j < k → gs[j]? = some g → rightG g.1 g.2 = true) ∧ (0 < k → rightB a b c d = true)) := ⟨hB, hb, hA, hRB⟩
      clear hs hS sx sy hB hb hA hRB
      go_wp2_with fail
      refine (text_seg_impl a b c d g.1 _ g.2 _ HS.out.2.1 HS.out.2.2).mono ?_
      rintro e w2 ⟨rfl, hb2⟩
      have hB2 := isB_keep (isB_keep HB.out.1 hbA) hb2
      have hb2' : Below W0.heap.size W0 w2 := (HB.out.2.1.alloc hwr _).trans (hb2.mono (by simp; omega))
      clear x0 x1 x2 x3 hbA hb2
      have hie := isE_text a b c d g.1 g.2
      have hcat : catU a b c d gs (k + 1) = catU a b c d gs k ++ (textG a b c d g.1 g.2).data.toList := by simp only [catU, HS.out.1, Option.getD_some]
      have hsl : (textG a b c d g.1 g.2).data.toList.length = (textG a b c d g.1 g.2).size := by simp
      cases hok : (rightB a b c d && rightG g.1 g.2)
      · rw [hok] at hie
        have hno : ¬ okGs a b c d gs := fun h => by
          rw [h.1, h.2.2.1 k g HS.out.1] at hok
          cases hok
        have HN : Hid (textsG a b c d gs = ⟨#[]⟩ ∧ Below w.heap.size w w2) := ⟨textsG_no hno, H0.out.1.trans (hb2'.mono (by omega))⟩
        clear hno hcat hok hsl hB2 hb2'
        go_wp2
        go_ret
        exact ⟨ret_str HN.out.1.symm, HN.out.2⟩
      · rw [hok] at hie
        simp only [Bool.and_eq_true] at hok
        have HK : Hid (catU a b c d gs (k + 1) = catU a b c d gs k ++ (textG a b c d g.1 g.2).data.toList ∧ rightB a b c d = true ∧ rightG g.1 g.2 = true ∧ (textG a b c d g.1 g.2).data.toList.length = (textG a b c d g.1 g.2).size) := ⟨hcat, hok.1, hok.2, hsl⟩
        clear hcat hok hsl
        go_wp2_with fail
        refine (len_any _ _ _ _ hB2).mono ?_
        rintro e w3 ⟨rfl, rfl⟩
        rw [byteCells_len]
        have hts := textG_size a b c d g.1 g.2
        by_cases hbig : 20000 < (catU a b c d gs k).length + (textG a b c d g.1 g.2).size
        · have hbig' : (20000 : Int) < ((catU a b c d gs k).length : Int) + ((textG a b c d g.1 g.2).size : Int) := by omega
          have hno : ¬ okGs a b c d gs := fun h => by
            have h1 := catU_mono a b c d gs (k + 1) gs.length hlt
            have h2 := h.2.2.2
            rw [HK.out.1, List.length_append, HK.out.2.2.2] at h1
            omega
          have HN : Hid (textsG a b c d gs = ⟨#[]⟩ ∧ Below w.heap.size w w3) := ⟨textsG_no hno, H0.out.1.trans (hb2'.mono (by omega))⟩
          clear hno hB2 hb2'
          go_wp2
          go_ret
          exact ⟨ret_str HN.out.1.symm, HN.out.2⟩
        · have hbig' : ¬ (20000 : Int) < ((catU a b c d gs k).length : Int) + ((textG a b c d g.1 g.2).size : Int) := by omega
          have hw3 := hb2'.size
          go_wp2_with fail
          refine (writeString_any _ _ _ _ _ hB2 (by rw [byteCells_len]; omega) (by omega)).mono ?_
          rintro e w4 ⟨rfl, hB4, hb4⟩
          rw [byteCells_str, ← byteCells_app, ← HK.out.1] at hB4
          rw [← hs0] at hb4
          have HR : Hid (Lib.IsBuilder 48 5 (w.heap.size + 1) (w.heap.size + 1) (Lib.byteCells (catU a b c d gs (k + 1))) w4 ∧ Below W0.heap.size W0 w4) := ⟨.inr hB4, hb2'.trans hb4⟩
          have hcl : (catU a b c d gs (k + 1)).length ≤ 20000 := by rw [HK.out.1, List.length_append, HK.out.2.2.2]; omega
          clear hB4 hb4 hB2 hb2'
          go_wp2
          go_roundw
          case rel =>
            refine ⟨k + 1, by go_num, by omega, fun j t hj ht => ?_, fun _ => HK.out.2.1, hcl, HR.out.1, HR.out.2⟩
            rcases Nat.lt_or_ge j k with q | q
            · exact HB.out.2.2.1 j t q ht
            · obtain rfl : j = k := by omega
              rw [HS.out.1] at ht
              cases ht
              exact HK.out.2.2.1
          case measure => simp [intOf]; omega
    · obtain rfl : k = gs.length := by omega
      have hlt' : ¬ (gs.length : Int) < (gs.length : Int) := by omega
      have hwr := hb.size
      have HA : Hid ((∀ (j : Nat) (g : Seg), j < gs.length → gs[j]? = some g → rightG g.1 g.2 = true) ∧ (0 < gs.length → rightB a b c d = true)) := ⟨hA, hRB⟩
      clear hA hRB hlt
      go_wp2_with fail
      refine (string_any _ _ _ _ hB (by omega)).mono ?_
      rintro e w2 ⟨rfl, hb2⟩
      rw [← hs0] at hb2
      have HN : Hid (Below w.heap.size w w2) := H0.out.1.trans ((hb.trans hb2).mono (by omega))
      clear hB hb hb2
      go_wp2
      go_ret
      refine ⟨ret_str ?_, HN.out⟩
      by_cases hz : gs.length = 0
      · have hg : gs = [] := List.length_eq_zero_iff.1 hz
        subst hg
        by_cases hok : okGs a b c d []
        · rw [textsG_yes hok]
        · rw [textsG_no hok]
          rfl
      · have hok : okGs a b c d gs := ⟨HA.out.2 (by omega), by omega, fun i g hi => HA.out.1 i g (List.getElem?_eq_some_iff.1 hi).1 hi, hlen⟩
        rw [textsG_yes hok]
end Go.Proofs.Ytbdjaohfnbnacaa
