/- Contract of impl's window.list: what was seen, the numbers rising. -/
import Derived.Test.YtbnjieppcojckaaAskI
import Derived.Test.YtbnjieppcojckaaAppSn
import Derived.Test.YtbnjieppcojckaaShKeys
namespace Go.Proofs.Ytbnjieppcojckaa
open Go.ChangeShapes Go.WideShapes Go.ChangeAt Go.RowKit
theorem keys_map : ∀ l : List Sn, Go.intKeys (mapD l) = l.map Sn.number
  | [] => rfl
  | s :: r => by
    have := keys_map r
    simp only [Go.intKeys, mapD, List.map_cons] at this ⊢
    rw [this]
    rfl
theorem sorted_rise {l : List Sn} (h : Rise l) {ss : List Int} (hp : ss.Perm (l.map Sn.number)) : ss.mergeSort (fun x y => decide (x ≤ y)) = l.map Sn.number := by
  refine List.Perm.eq_of_pairwise (le := fun x y => decide (x ≤ y) = true) (fun a b _ _ h1 h2 => ?_) (List.pairwise_mergeSort (fun a b c h1 h2 => ?_) (fun a b => ?_) ss) ?_ ((List.mergeSort_perm _ _).trans hp)
  · simp at h1 h2
    omega
  · simp at h1 h2 ⊢
    omega
  · simp
    omega
  · rw [List.pairwise_map]
    exact h.imp fun {a b} hab => by simp; omega
theorem keys_row {W : World} {base : Nat} {v : Value} {ss : List Int} {l : List Sn} (h : W.ownsRow base 2 1 v ss.length ((ss.mergeSort (fun x y => decide (x ≤ y))).map encZ)) (hp : ss.Perm (l.map Sn.number)) (hr : Rise l) :
    ∃ A C, v = .slice A l.length C ∧ (l ≠ [] → ∃ g, A = some ⟨g, 0, none⟩ ∧ base ≤ g ∧ ∀ (i : Nat) (s : Sn), l[i]? = some s → W.cell? ⟨g, i, none⟩ = some (.int .i64 s.number)) := by
  have hlen : ss.length = l.length := by rw [hp.length_eq, List.length_map]
  rw [sorted_rise hr hp, hlen] at h
  rcases h.2 with ⟨rfl, h0⟩ | ⟨g, cap, cur, rfl, hb, hh, hc, hm, hs, ht⟩
  · exact ⟨none, 0, by rw [h0], fun hn => absurd (List.eq_nil_of_length_eq_zero h0) hn⟩
  · refine ⟨_, _, rfl, fun _ => ⟨g, rfl, hb, fun i s hi => ?_⟩⟩
    have hlt := (List.getElem?_eq_some_iff.1 hi).1
    have e : (cur.toList.take (l.length * 1))[i]? = some (.int .i64 s.number) := by
      rw [ht, List.getElem?_map, List.getElem?_map, hi]
      rfl
    rw [List.getElem?_take_of_lt (by omega), Array.getElem?_toList] at e
    simp [World.cell?, hh, e]
set_option maxHeartbeats 4000000 in
theorem list_any (low : Int) (b n : Nat) (l : List Sn) (w : World) (h : w.ownsMap Try.prog 2 rdSn b n (mapD l)) (hl : l.length ≤ 40) (hr : Rise l) (hn : ∀ x ∈ l, 1 ≤ x.number ∧ x.number ≤ 999999) : Calls Try.prog 37 #[.agg #[.int .i64 low, .map (some b)]] w fun e w' => ∃ v, e = .returned v ∧ (∃ c, w.heap.size ≤ c ∧ LSn c w' v l) ∧ Below w.heap.size w w' := by
  have b0 : Below w.heap.size w (w.alloc (.cells #[.int .i64 low, .map (some b)] 60)) := (Below.refl _ _).alloc (Nat.le_refl _) _
  have h1 : (w.alloc (.cells #[.int .i64 low, .map (some b)] 60)).ownsMap Try.prog 2 rdSn b n (mapD l) := h.alloc _
  go_enter Try.func37, Try.ntmps37
  go_wp2_with fail
  refine (keys_call _ _).mono ?_
  rintro e w1 ⟨rfl, rfl⟩
  have hC := sorted_call b n (mapD l) rdSn _ h1 (by simp [Maps.size, mapD, maxLen]; omega) (by simp [Maps.size, mapD]; omega)
  simp only [World.size_alloc] at hC
  go_wp2_with fail
  refine hC.mono ?_
  rintro e w2 ⟨v, ss, rfl, hp, hrow, hnil, hb2⟩
  rw [keys_map] at hp
  obtain ⟨A, C, rfl, hA⟩ := keys_row hrow hp hr
  clear hrow hnil hp hC
  have blk2 : w2.heap[w.heap.size]? = some (.cells #[.int .i64 low, .map (some b)] 60) := (hb2.block _ (by omega)).trans (((Below.refl _ (w.alloc (.cells #[.int .i64 low, .map (some b)] 60))).alloc (Nat.le_refl _) _).block _ (by simp) |>.trans (World.alloc_heap_new _ _))
  have hb1 : Below w.heap.size w w2 := (b0.alloc (by simp) _).trans (hb2.mono (by omega))
  have hlt2 := h.lt
  have hown2 : w2.ownsMap Try.prog 2 rdSn b n (mapD l) := by
    obtain ⟨es, clock, q1, q2, q3, q4⟩ := h
    exact ⟨es, clock, (hb1.block b hlt2).trans q1, q2, q3, q4⟩
  have hs2 : w.heap.size < w2.heap.size := (Array.getElem?_eq_some_iff.1 blk2).1
  have HI : Hid (Below w.heap.size w w2 ∧ w2.ownsMap Try.prog 2 rdSn b n (mapD l) ∧ w2.heap[w.heap.size]? = some (.cells #[.int .i64 low, .map (some b)] 60) ∧ (∀ x ∈ l, 1 ≤ x.number ∧ x.number ≤ 999999) ∧ Rise l ∧ (l ≠ [] → ∃ g, A = some ⟨g, 0, none⟩ ∧ w.heap.size + 1 + 1 ≤ g ∧ ∀ (i : Nat) (s : Sn), l[i]? = some s → w2.cell? ⟨g, i, none⟩ = some (.int .i64 s.number))) := ⟨hb1, hown2, blk2, hn, hr, hA⟩
  clear hb1 hown2 blk2 hn hr hA b0 h1 h hb2
  go_wp2
  go_loopw [3, 11] (fun lv i wr => ∃ k : Nat, i = .int .i64 (k : Int) ∧ k ≤ l.length ∧ (∃ A C, lv = .slice A (l.take k).length C) ∧ wr.ownsRow w2.heap.size 34 3 lv (l.take k).length (clSns (l.take k)) ∧ Below w2.heap.size w2 wr) (fun _ i _ => l.length - (RowKit.intOf i).toNat)
  case atStart => exact ⟨0, rfl, by omega, ⟨none, 0, by simp⟩, by simpa [clSns] using World.ownsRow_nil w2 w2.heap.size 34 3, Below.refl _ _⟩
  case round =>
    obtain ⟨k, rfl, hk, ⟨A1, C1, rfl⟩, hR, hb⟩ := hrel
    have HE : Hid (wr.ownsRow w2.heap.size 34 3 (.slice A1 (l.take k).length C1) (l.take k).length (clSns (l.take k)) ∧ Below w2.heap.size w2 wr) := ⟨hR, hb⟩
    by_cases hlt : k < l.length
    · have hlt' : (k : Int) < (l.length : Int) := by omega
      obtain ⟨s, hs⟩ : ∃ s, l[k]? = some s := ⟨_, List.getElem?_eq_getElem hlt⟩
      obtain ⟨g, rfl, hg1, hg2⟩ := HI.out.2.2.2.2.2 (by intro e; rw [e] at hlt; simp at hlt)
      have hc2 := hg2 k s hs
      have hc : wr.cell? ⟨g, k, none⟩ = some (.int .i64 s.number) := (hb.cell (cell_lt hc2)).trans hc2
      have kb := (hb.block _ hs2).trans HI.out.2.2.1
      have y1 : wr.cell? ⟨w.heap.size, 1, none⟩ = some (.map (some b)) := by simp [World.cell?, kb]
      have hown : wr.ownsMap Try.prog 2 rdSn b n (mapD l) := by
        obtain ⟨es, clock, q1, q2, q3, q4⟩ := HI.out.2.1
        exact ⟨es, clock, (hb.block b (Array.getElem?_eq_some_iff.1 q1).1).trans q1, q2, q3, q4⟩
      have hmem := List.mem_of_getElem? hs
      have hnum := HI.out.2.2.2.1 s hmem
      have hL := look_some hown (zeroSeen _) (s := s) (by omega) (rise_find HI.out.2.2.2.2.1 hmem) false
      simp only [Bool.false_eq_true, if_false, sv] at hL
      have HS : Hid (l[k]? = some s) := hs
      clear hs hc2 hg2 kb hown hR hb hmem
      obtain ⟨num, ans, cod⟩ := s
      dsimp only at hc hL hnum
      have hrow : (wr.alloc (.cells #[.int .i64 num, .int .i64 ans, .int .i64 cod] 34)).ownsRow w2.heap.size 34 3 (.slice A1 (l.take k).length C1) (l.take k).length (clSns (l.take k)) := HE.out.1.alloc _
      have hat : AtSn (wr.alloc (.cells #[.int .i64 num, .int .i64 ans, .int .i64 cod] 34)) wr.heap.size 0 ⟨num, ans, cod⟩ := by
        refine ⟨?_, ?_, ?_⟩ <;> simp [go_sem]
      have hsz := HE.out.2.size
      have htk : (l.take k).length ≤ 40 := by rw [List.length_take]; omega
      go_wp2_with (first | (at_builtin; refine wpList_appSn rfl _ _ rfl rfl rfl hrow hat (by omega) (by simp; omega) ?_; rintro v4 w4 hown4 hgrow4 ⟨A4, C4, rfl⟩))
      have e3 : l.take (k + 1) = l.take k ++ [⟨num, ans, cod⟩] := by
        rw [List.take_add_one, HS.out]
        rfl
      have H4 : Hid (w4.ownsRow w2.heap.size 34 3 (.slice A4 (l.take (k + 1)).length C4) (l.take (k + 1)).length (clSns (l.take (k + 1))) ∧ Below w2.heap.size w2 w4) := by
        refine ⟨by rw [e3]; exact hown4, (HE.out.2.alloc hsz _).trans ⟨hgrow4.os, hgrow4.tape, hgrow4.output, hgrow4.size, fun q hq => hgrow4.block q (by simp; omega) (fun e => ?_)⟩⟩
        have := (hrow.lt q e.symm).1
        omega
      have e4 : (l.take (k + 1)).length = k + 1 := by rw [List.length_take]; omega
      have h4 := H4.out
      rw [e4] at h4
      exact ⟨⟨k + 1, by go_num, by omega, ⟨A4, C4, by rw [e4]⟩, by rw [e4]; exact h4.1, h4.2⟩, by simp [RowKit.intOf]; omega⟩
    · obtain rfl : k = l.length := by omega
      clear hR hb
      go_wp2
      go_ret
      have h5 := HE.out.1
      rw [List.take_length] at h5
      obtain ⟨c, hc, hL⟩ := LSn.of_owns h5 (by omega)
      exact ⟨_, rfl, ⟨c, by omega, by rw [List.take_length]; exact hL⟩, HI.out.1.trans (HE.out.2.mono (by omega))⟩
end Go.Proofs.Ytbnjieppcojckaa
