/- Contracts of impl.PartnerAsk and of what it calls: the window's map. -/
import Derived.Test.YtbnjieppcojckaaPnI
import Derived.Test.YtbnjieppcojckaaMapW
namespace Go.Proofs.Ytbnjieppcojckaa
open Go.ChangeShapes Go.WideShapes Go.ChangeAt Go.RowKit
theorem zeroSeen (w : World) : (zeroValue 34).run Try.prog w = .ok (sv ⟨0, 0, 0⟩) w := by kernel_rfl
theorem ret_i64 {a b : Int} (h : a = b) : Ending.returned (.int .i64 a) = .returned (.int .i64 b) := by rw [h]
theorem fl_four (w : World) (a b c d : Obj) : ((((w.alloc a).alloc b).alloc c).alloc d).heap[w.heap.size]? = some a ∧ ((((w.alloc a).alloc b).alloc c).alloc d).heap[w.heap.size + 1]? = some b ∧ ((((w.alloc a).alloc b).alloc c).alloc d).heap[w.heap.size + 2]? = some c ∧ ((((w.alloc a).alloc b).alloc c).alloc d).heap[w.heap.size + 3]? = some d := by
  have e : ((((w.alloc a).alloc b).alloc c).alloc d).heap = (((w.heap.push a).push b).push c).push d := rfl
  rw [e]
  simp only [Array.getElem?_push, Array.size_push]
  refine ⟨?_, ?_, ?_, ?_⟩
  · rw [if_neg (by omega), if_neg (by omega), if_neg (by omega), if_pos trivial]
  · rw [if_neg (by omega), if_neg (by omega), if_pos trivial]
  · rw [if_neg (by omega), if_pos trivial]
  · rw [if_pos trivial]
theorem grown_below {a b : World} {j B : Nat} (h : a.grownBy b (some j)) (hB : B ≤ j) (hs : B ≤ a.heap.size) : Below B a b :=
  ⟨h.os, h.tape, h.output, h.size, fun k hk => h.block k (by omega) (by simp; omega)⟩
theorem grown_none {a b : World} {B : Nat} (h : a.grownBy b none) (hs : B ≤ a.heap.size) : Below B a b :=
  ⟨h.os, h.tape, h.output, h.size, fun k hk => h.block k (by omega) (by simp)⟩
set_option maxHeartbeats 4000000 in
theorem windowOf_any (p : Ptn) (v : Value) (w : World) (h : RPt w v p) (hl : p.seen.length ≤ 32) (hr : Rise p.seen) (hn : ∀ x ∈ p.seen, 1 ≤ x.number ∧ x.number ≤ 999999) : Calls Try.prog 33 #[.agg #[.string p.name, .int .i64 p.low, .int .i64 p.next, v]] w fun e w' => ∃ b, e = .returned (.agg #[.int .i64 p.low, .map (some b)]) ∧ w.heap.size ≤ b ∧ w'.ownsMap Try.prog 2 rdSn b 32 (mapD p.seen) ∧ Below w.heap.size w w' := by
  obtain ⟨name, low, next, rs⟩ := p
  have hlen := h.ls.len
  obtain ⟨A, C, rfl⟩ := h.ls.val
  dsimp only at h hlen hl hr hn ⊢
  have hmm := @run_makeMap Try.prog
  have H0 : Hid (RowSn w (.slice A rs.length C) rs ∧ Rise rs ∧ ∀ x ∈ rs, 1 ≤ x.number ∧ x.number ≤ 999999) := ⟨h.ls, hr, hn⟩
  clear h hr hn
  go_enter Try.func33, Try.ntmps33
  go_wp2
  obtain ⟨W0, hW0⟩ : ∃ W0, ((((w.alloc (.cells #[.string name, .int .i64 low, .int .i64 next, .slice A rs.length C] 30)).alloc (.cells #[.int .i64 0, .map none] 60)).alloc (.map #[] 0)).alloc (.cells #[.int .i64 low, .map (some (w.heap.size + 2))] 60)) = W0 := ⟨_, rfl⟩
  have hb0 : Below w.heap.size w W0 := by rw [← hW0]; exact ((((Below.refl _ _).alloc (Nat.le_refl _) _).alloc (by simp) _).alloc (by simp; omega) _).alloc (by simp; omega) _
  have k1 : W0.heap[w.heap.size + 1]? = some (.cells #[.int .i64 0, .map none] 60) := by rw [← hW0]; exact (fl_four _ _ _ _ _).2.1
  have k3 : W0.heap[w.heap.size + 3]? = some (.cells #[.int .i64 low, .map (some (w.heap.size + 2))] 60) := by rw [← hW0]; exact (fl_four _ _ _ _ _).2.2.2
  have ko : W0.ownsMap Try.prog 2 rdSn (w.heap.size + 2) 0 (mapD []) := by
    rw [← hW0]
    have := World.ownsMap_made ((w.alloc (.cells #[.string name, .int .i64 low, .int .i64 next, .slice A rs.length C] 30)).alloc (.cells #[.int .i64 0, .map none] 60)) Try.prog 2 rdSn
    simp only [World.size_alloc] at this
    exact this.alloc _
  have HI : Hid (Below w.heap.size w W0 ∧ W0.heap[w.heap.size + 1]? = some (.cells #[.int .i64 0, .map none] 60) ∧ W0.heap[w.heap.size + 3]? = some (.cells #[.int .i64 low, .map (some (w.heap.size + 2))] 60) ∧ W0.ownsMap Try.prog 2 rdSn (w.heap.size + 2) 0 (mapD [])) := ⟨hb0, k1, k3, ko⟩
  clear hb0 k1 k3 ko hmm
  try rw [hW0]
  clear hW0
  go_loopw [13] (fun i wr => ∃ k : Nat, i = .int .i64 (k : Int) ∧ k ≤ rs.length ∧ Below w.heap.size w wr ∧ wr.heap[w.heap.size + 1]? = some (.cells #[.int .i64 0, .map none] 60) ∧ wr.heap[w.heap.size + 3]? = some (.cells #[.int .i64 low, .map (some (w.heap.size + 2))] 60) ∧ wr.ownsMap Try.prog 2 rdSn (w.heap.size + 2) k (mapD (rs.take k))) (fun i _ => rs.length - (intOf i).toNat)
  case atStart => exact ⟨0, rfl, by omega, HI.out.1, HI.out.2.1, HI.out.2.2.1, by simpa using HI.out.2.2.2⟩
  case round =>
    obtain ⟨k, rfl, hk, hb, k1, k3, ko⟩ := hrel
    have HE : Hid (Below w.heap.size w wr ∧ wr.heap[w.heap.size + 1]? = some (.cells #[.int .i64 0, .map none] 60) ∧ wr.heap[w.heap.size + 3]? = some (.cells #[.int .i64 low, .map (some (w.heap.size + 2))] 60) ∧ wr.ownsMap Try.prog 2 rdSn (w.heap.size + 2) k (mapD (rs.take k))) := ⟨hb, k1, k3, ko⟩
    have y0 : wr.cell? ⟨w.heap.size + 3, 0, none⟩ = some (.int .i64 low) := by simp [World.cell?, k3]
    have y1 : wr.cell? ⟨w.heap.size + 3, 1, none⟩ = some (.map (some (w.heap.size + 2))) := by simp [World.cell?, k3]
    by_cases hlt : k < rs.length
    · have hlt' : (k : Int) < (rs.length : Int) := by omega
      obtain ⟨b, o, cap', g, e, hs, ⟨q0, q1, q2⟩⟩ := (H0.out.1.below hb).at hlt
      simp only [Value.slice.injEq, true_and] at e
      obtain ⟨rfl, rfl⟩ := e
      have HS : Hid (rs[k]? = some g) := hs
      have hg := H0.out.2.2 g (List.mem_of_getElem? hs)
      clear hs
      have hbl := cell_lt q0
      have hsz : w.heap.size + 3 < wr.heap.size := (Array.getElem?_eq_some_iff.1 k3).1
      clear hb k1 k3 ko
      obtain ⟨num, ans, cod⟩ := g
      dsimp only at q0 q1 q2 hg
      have Y1 : (wr.alloc (.cells #[.int .i64 num, .int .i64 ans, .int .i64 cod] 34)).cell? ⟨w.heap.size + 3, 1, none⟩ = some (.map (some (w.heap.size + 2))) := by rw [← y1]; exact World.cell?_alloc_lt _ _ _ hsz
      have hown : (wr.alloc (.cells #[.int .i64 num, .int .i64 ans, .int .i64 cod] 34)).ownsMap Try.prog 2 rdSn (w.heap.size + 2) k (mapD (rs.take k)) := HE.out.2.2.2.alloc _
      go_wp2_with (first | (at_mapUpdate; refine wpList_mapUpdate_own _ rfl _ _ _ 58 rfl 2 34 i64_keyed Try.underlying58 rdSn (w.heap.size + 2) k _ rfl hown (by unfold maxLen; omega) _ _ _ rfl rfl (i64_key ⟨by omega, by omega⟩) _ [] (rdSn_mk ⟨num, ans, cod⟩) ?_; intro w1 hown1 hgrow1))
      have hE := HE.out
      have hsz1 : (wr.alloc (.cells #[.int .i64 num, .int .i64 ans, .int .i64 cod] 34)).heap.size = wr.heap.size + 1 := by simp
      have blk : ∀ j o, j ≠ w.heap.size + 2 → wr.heap[j]? = some o → w1.heap[j]? = some o := fun j o hj ho => by
        have hlj := (Array.getElem?_eq_some_iff.1 ho).1
        refine (hgrow1.block j (by omega) (by simp; omega)).trans ?_
        exact ((Below.refl _ wr).alloc (Nat.le_refl _) _).block j hlj |>.trans ho
      have H1 : Hid (Below w.heap.size w w1 ∧ w1.heap[w.heap.size + 1]? = some (.cells #[.int .i64 0, .map none] 60) ∧ w1.heap[w.heap.size + 3]? = some (.cells #[.int .i64 low, .map (some (w.heap.size + 2))] 60) ∧ w1.ownsMap Try.prog 2 rdSn (w.heap.size + 2) (k + 1) (mapD (rs.take (k + 1)))) := by
        refine ⟨(hE.1.alloc hE.1.size _).trans (grown_below hgrow1 (by omega) (by omega)), blk _ _ (by omega) hE.2.1, blk _ _ (by omega) hE.2.2.1, ?_⟩
        have e1 := put_map ⟨num, ans, cod⟩ (rs.take k)
        have e2 : ∀ x ∈ rs.take k, x.number < num := fun x hx => by
          obtain ⟨i, hi⟩ := List.getElem?_of_mem hx
          have hik : i < k := by
            have := (List.getElem?_eq_some_iff.1 hi).1
            rw [List.length_take] at this
            omega
          rw [List.getElem?_take_of_lt hik] at hi
          obtain ⟨h1, h2⟩ := List.getElem?_eq_some_iff.1 hi
          obtain ⟨h3, h4⟩ := List.getElem?_eq_some_iff.1 HS.out
          have := List.pairwise_iff_getElem.1 H0.out.2.1 i k h1 h3 hik
          rw [h2, h4] at this
          exact this
        rw [ins_last e2] at e1
        dsimp only at e1
        rw [e1] at hown1
        have e3 : rs.take (k + 1) = rs.take k ++ [⟨num, ans, cod⟩] := by
          rw [List.take_add_one, HS.out]
          rfl
        rw [e3]
        exact hown1
      clear hown1 hgrow1 blk hE hsz1 Y1 y0 y1 hown q0 q1 q2
      go_wp2
      go_roundw
      case rel => exact ⟨k + 1, by go_num, by omega, H1.out.1, H1.out.2.1, H1.out.2.2.1, H1.out.2.2.2⟩
      case measure => simp [intOf]; omega
    · obtain rfl : k = rs.length := by omega
      have z0 : wr.cell? ⟨w.heap.size + 1, 0, none⟩ = some (.int .i64 0) := by simp [World.cell?, k1]
      have z1 : wr.cell? ⟨w.heap.size + 1, 1, none⟩ = some (.map none) := by simp [World.cell?, k1]
      have zf : ∀ o, wr.frozen? ⟨w.heap.size + 1, o, none⟩ = false := fun o => by simp [World.frozen?, k1]
      clear hb k1 k3 ko
      go_wp2
      have hE := HE.out
      refine bodyPost_ret (v := .agg #[.int .i64 low, .map (some (w.heap.size + 2))]) (by simp [results, Try.results33, go_sem, z0, z1]) rfl ⟨w.heap.size + 2, rfl, by omega, ?_, (hE.1.setCell (show w.heap.size ≤ w.heap.size + 1 by omega) _).setCell (show w.heap.size ≤ w.heap.size + 1 by omega) _⟩
      obtain ⟨es, clock, h1, h2, h3, h4⟩ := hE.2.2.2
      rw [List.take_length] at h4
      refine ⟨es, clock, ?_, h2, by omega, h4⟩
      rw [Below.heap_setCell _ _ _ _ (show w.heap.size + 2 ≠ w.heap.size + 1 by omega), Below.heap_setCell _ _ _ _ (show w.heap.size + 2 ≠ w.heap.size + 1 by omega)]
      exact h1
/-- What kindOf tells. -/
def kndZ (low : Int) (l : List Sn) (k : Int) : Int := if k < low then 3 else if (l.find? fun x => decide (x.number = k)).isSome then 2 else 1
set_option maxHeartbeats 4000000 in
theorem kindOf_any (low : Int) (b : Nat) (l : List Sn) (k : Int) (n : Nat) (w : World) (h : w.ownsMap Try.prog 2 rdSn b n (mapD l)) (hk : 1 ≤ k ∧ k ≤ 999999) : Calls Try.prog 34 #[.agg #[.int .i64 low, .map (some b)], .int .i64 k] w fun e w' => e = .returned (.int .i64 (kndZ low l k)) ∧ Below w.heap.size w w' := by
  have b0 : Below w.heap.size w (w.alloc (.cells #[.int .i64 low, .map (some b)] 60)) := (Below.refl _ _).alloc (Nat.le_refl _) _
  have h1 : (w.alloc (.cells #[.int .i64 low, .map (some b)] 60)).ownsMap Try.prog 2 rdSn b n (mapD l) := h.alloc _
  by_cases hlt : k < low
  · have HK : Hid (kndZ low l k = 3) := by simp [Hid, kndZ, hlt]
    go_enter Try.func34, Try.ntmps34
    go_wp2
    go_ret
    exact ⟨ret_i64 HK.out.symm, b0⟩
  · cases hf : l.find? (fun x => decide (x.number = k)) with
    | none =>
      have hL := look_none h1 (zeroSeen _) (k := k) (by omega) hf true
      have HK : Hid (kndZ low l k = 1) := by simp [Hid, kndZ, hlt, hf]
      clear hf h h1
      simp only [if_true, sv] at hL
      go_enter Try.func34, Try.ntmps34
      go_wp2
      go_ret
      exact ⟨ret_i64 HK.out.symm, b0.alloc (by simp) _⟩
    | some s =>
      obtain rfl : s.number = k := by simpa using List.find?_some hf
      have hL := look_some h1 (zeroSeen _) (by omega) hf true
      have HK : Hid (kndZ low l s.number = 2) := by simp [Hid, kndZ, hlt, hf]
      clear hf h h1
      simp only [if_true, sv] at hL
      go_enter Try.func34, Try.ntmps34
      go_wp2
      go_ret
      exact ⟨ret_i64 HK.out.symm, b0.alloc (by simp) _⟩
/-- What PartnerAsk tells. -/
def askZ (p : Ptn) (k : Int) : Int := if ptnB p && ctlB k then kndZ p.low p.seen k else 0
theorem ptnB_parts {p : Ptn} (h : ptnB p = true) : p.name.size ≤ 12 ∧ (1 ≤ p.low ∧ p.low ≤ 999999) ∧ (1 ≤ p.next ∧ p.next ≤ 999999) ∧ p.seen.length ≤ 32 ∧ Rise p.seen ∧ ∀ x ∈ p.seen, p.low ≤ x.number ∧ x.number < p.low + 32 ∧ x.number ≤ 999999 ∧ 1 ≤ x.answer ∧ x.answer ≤ 999999 ∧ 0 ≤ x.code ∧ x.code ≤ 13 := by
  simp only [ptnB, Bool.and_eq_true] at h
  obtain ⟨h1, h2, h3, h4⟩ := h
  obtain ⟨h5, h6⟩ := seenB_rise h4
  have h7 := seenB_len h4 (by omega)
  refine ⟨?_, ctlB_iff.1 h2, ctlB_iff.1 h3, by omega, h5, h6⟩
  simp only [nameB, Bool.and_eq_true, decide_eq_true_eq] at h1
  omega
set_option maxHeartbeats 4000000 in
theorem ptAsk_impl (p : Ptn) (v : Value) (k : Int) (w : World) (h : RPt w v p) : Calls Try.prog 13 #[.agg #[.string p.name, .int .i64 p.low, .int .i64 p.next, v], .int .i64 k] w fun e w' => e = .returned (.int .i64 (askZ p k)) ∧ Below w.heap.size w w' := by
  obtain ⟨A, C, hv⟩ := h.ls.val
  subst hv
  have b0 : Below w.heap.size w (w.alloc (.cells #[.string p.name, .int .i64 p.low, .int .i64 p.next, .slice A p.seen.length C] 30)) := (Below.refl _ _).alloc (Nat.le_refl _) _
  have h0 := h.below b0
  have z0 : (w.alloc (.cells #[.string p.name, .int .i64 p.low, .int .i64 p.next, .slice A p.seen.length C] 30)).heap[w.heap.size]? = some (.cells #[.string p.name, .int .i64 p.low, .int .i64 p.next, .slice A p.seen.length C] 30) := World.alloc_heap_new _ _
  go_enter Try.func13, Try.ntmps13
  go_wp2_with fail
  refine (ptRight_impl p _ _ h0).mono ?_
  rintro e w1 ⟨rfl, hb1⟩
  have HA : Hid (Below w.heap.size w w1 ∧ RPt w1 (.slice A p.seen.length C) p) := ⟨b0.trans (hb1.mono (by simp)), h0.below hb1⟩
  have blk := (hb1.block w.heap.size (by simp)).trans z0
  have x0 : w1.cell? ⟨w.heap.size, 0, none⟩ = some (.string p.name) := by simp [World.cell?, blk]
  have x1 : w1.cell? ⟨w.heap.size, 1, none⟩ = some (.int .i64 p.low) := by simp [World.cell?, blk]
  have x2 : w1.cell? ⟨w.heap.size, 2, none⟩ = some (.int .i64 p.next) := by simp [World.cell?, blk]
  have x3 : w1.cell? ⟨w.heap.size, 3, none⟩ = some (.slice A p.seen.length C) := by simp [World.cell?, blk]
  clear hb1 h h0 b0 z0 blk
  cases hr : ptnB p
  · go_wp2
    go_ret
    exact ⟨ret_i64 (by simp [askZ, hr]), HA.out.1⟩
  go_wp2_with fail
  refine (isControl_any k _).mono ?_
  rintro e w2 ⟨rfl, rfl⟩
  cases hc : ctlB k
  · go_wp2
    go_ret
    exact ⟨ret_i64 (by simp [askZ, hc]), HA.out.1⟩
  have HK : Hid (askZ p k = kndZ p.low p.seen k) := by simp [Hid, askZ, hr, hc]
  obtain ⟨_, g1, g2, g3, g4, g5⟩ := ptnB_parts hr
  go_wp2_with fail
  refine (windowOf_any p _ _ HA.out.2 g3 g4 (fun x hx => by have := g5 x hx; omega)).mono ?_
  rintro e w3 ⟨b, rfl, hb, ho, hb3⟩
  have HB : Hid (Below w.heap.size w w3 ∧ w3.ownsMap Try.prog 2 rdSn b 32 (mapD p.seen)) := ⟨HA.out.1.trans (hb3.mono HA.out.1.size), ho⟩
  clear hb3 ho x0 x1 x2 x3
  go_wp2_with fail
  refine (kindOf_any p.low b p.seen k 32 _ HB.out.2 (ctlB_iff.1 hc)).mono ?_
  rintro e w4 ⟨rfl, hb4⟩
  have HC : Hid (Below w.heap.size w w4) := HB.out.1.trans (hb4.mono HB.out.1.size)
  clear hb4
  go_wp2
  go_ret
  exact ⟨ret_i64 HK.out.symm, HC.out⟩
end Go.Proofs.Ytbnjieppcojckaa
