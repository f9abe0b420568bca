/- Texts of ours put together: IxUa, PartF, PartS, PsA. -/
import Derived.Test.YtkaolpnbddjdpaaGreatDoorG06
import Derived.Test.YtkaolpnbddjdpaaGreatDoorG00
import Derived.Test.YtkaolpnbddjdpaaGreatDoorG13
import Derived.Test.YtkaolpnbddjdpaaGreatDoorG03
namespace Go.Proofs.YtkaolpnbddjdpaaGreatDoor
open Go.ChangeShapes Go.WideShapes Go.ChangeAt Go.RowKit
theorem undrewG {W W' : World} {r : Option Nat} (h : W.drew.grownBy W' r) : W.grownBy W' r := ⟨h.os, h.tape, h.output, h.size, h.block⟩
theorem newsS {W : World} {b o n c : Nat} {ss : List ByteArray} (h : RowS W (.slice (some ⟨b, o, none⟩) n c) ss) : ∀ j u, (ss.map Value.string)[j]? = some u → W.cell? ((⟨b, o, none⟩ : Addr).add j) = some u := by
  intro j u hu
  rw [List.getElem?_map] at hu
  obtain ⟨s, hs, rfl⟩ := Option.map_eq_some_iff.1 hu
  have hj := (List.getElem?_eq_some_iff.1 hs).1
  obtain ⟨b', o', c', s', e, hs', hc, _⟩ := h.at hj
  simp only [Value.slice.injEq, Option.some.injEq, Addr.mk.injEq] at e
  obtain ⟨⟨rfl, rfl, _⟩, _⟩ := e
  rw [hs] at hs'
  cases hs'
  have e1 : (⟨b, o, none⟩ : Addr).add j = ⟨b, o + j, none⟩ := by unfold Addr.add; split <;> simp_all
  rw [e1]
  exact hc
set_option maxRecDepth 20000 in
set_option maxHeartbeats 4000000 in
theorem l03Seg_any (tag : ByteArray) (v : Value) (ws : List ByteArray) (w : World) (h : RowS w v ws) (hl : ws.length ≤ 10) :
    Calls Tryz.prog 63 #[.string tag, v] w fun e w' => ∃ u vals, e = .returned (.agg #[.string tag, u]) ∧ OwnV w.heap.size w' u vals (ws.map fun t => [t]) ∧ Below w.heap.size w w' := by
  obtain ⟨A, C, rfl⟩ := h.val
  have HR : Hid (RowS w (.slice A ws.length C) ws) := h
  clear h
  obtain ⟨j0, hj0i, hi0, hi1, hi2⟩ := info_parts infoElm
  go_enter Tryz.func63, Tryz.ntmps63
  go_wp2_with fail
  go_loopw [6] (fun i wr => ∃ (k : Nat) (u : Value) (vals : List Value), i = .int .i64 (k : Int) ∧ k ≤ ws.length ∧ GB w.heap.size (w.heap.size + 1) w wr tag u vals ((ws.take k).map fun t => [t])) (fun i _ => ws.length - (intOf i).toNat)
  case atStart =>
    have b0 : Below w.heap.size w ((w.alloc (.cells #[.string ⟨#[]⟩, .slice none 0 0] 90)).alloc (.cells #[.string tag, .slice none 0 0] 90)) := ((Below.refl _ _).alloc (Nat.le_refl _) _).alloc (by simp) _
    exact ⟨0, .slice none 0 0, [], rfl, by omega, ⟨(Below.heap_alloc _ _ _ (by simp)).trans (World.alloc_heap_new w _), heap_new2 w _ _, ⟨rfl, World.ownsRow_nil _ _ _ _, fun i u e hu => by simp at hu, fun i j u x _ hu => by simp at hu⟩, b0, Nat.le_refl _, Nat.lt_succ_self _⟩⟩
  case round =>
    obtain ⟨k, u, vals, rfl, hk, hG⟩ := hrel
    obtain ⟨Au, Nu, Cu, hu⟩ := row_slice hG.own.row
    subst hu
    obtain ⟨c0, c1⟩ := hG.cells
    have hlw := hG.lt
    by_cases hlt : k < ws.length
    · have hlt' : (k : Int) < (ws.length : Int) := by omega
      obtain ⟨b, o, cap', t, e, hs, hc, hsz⟩ := (HR.out.below hG.bel).at hlt
      simp only [Value.slice.injEq, true_and] at e
      obtain ⟨rfl, rfl⟩ := e
      have hel : ((ws.take k).map fun t => [t]).length = k := by rw [List.length_map, List.length_take]; omega
      have hNu : Nu = k := by have := row_n' hG.own.row; omega
      subst hNu
      have hmx : Nu + 1 ≤ maxLen := by unfold maxLen; omega
      have bA : Below wr.heap.size wr (wr.alloc (.cells #[.string t] 9)) := (Below.refl _ _).alloc (Nat.le_refl _) _
      have bB : Below (wr.alloc (.cells #[.string t] 9)).heap.size (wr.alloc (.cells #[.string t] 9)) ((wr.alloc (.cells #[.string t] 9)).alloc (.cells #[.slice (some ⟨wr.heap.size, 0, none⟩) 1 1] 141)) := (Below.refl _ _).alloc (Nat.le_refl _) _
      have GA := hG.below bA
      have GBB := GA.below bB
      obtain ⟨d0, d1⟩ := GA.cells
      obtain ⟨f0, f1⟩ := GBB.cells
      have rowN : ((wr.alloc (.cells #[.string t] 9)).alloc (.cells #[.slice (some ⟨wr.heap.size, 0, none⟩) 1 1] 141)).ownsRow (w.heap.size + 1 + 1) 141 1 (.slice Au Nu Cu) Nu vals := by have := GBB.own.row; rwa [hel] at this
      have HG : Hid (GB w.heap.size (w.heap.size + 1) w wr tag (.slice Au Nu Cu) vals ((ws.take Nu).map fun t => [t]) ∧ ws[Nu]? = some t ∧ (wr.alloc (.cells #[.string t] 9)).ownsRow wr.heap.size 9 1 (.slice (some ⟨wr.heap.size, 0, none⟩) 1 1) 1 [.string t]) := ⟨hG, hs, ⟨rfl, .inr ⟨wr.heap.size, 1, #[.string t], rfl, Nat.le_refl _, World.alloc_heap_new wr _, Nat.le_refl _, by unfold maxLen; omega, rfl, rfl⟩⟩⟩
      clear hG hs GA GBB
      go_wp2_with fail
      go_region_law (first | (refine step_append_lies _ (by rfl) _ _ _ (by rfl) (w.heap.size + 1 + 1) 141 j0 _ 1 24 Tryz.underlying88 hj0i hi0 hi1 hi2 rfl (by omega) (.slice Au Nu Cu) Nu vals (by rfl) (by first | exact rowN | exact rowN.drew) ⟨wr.heap.size + 1, 0, none⟩ 1 1 [.slice (some ⟨wr.heap.size, 0, none⟩) 1 1] (by rfl) (by rfl) (World.news_of_block (cs := #[.slice (some ⟨wr.heap.size, 0, none⟩) 1 1]) (t := 141) (fr := (0, 0)) (heap_new2 wr (.cells #[.string t] 9) (.cells #[.slice (some ⟨wr.heap.size, 0, none⟩) 1 1] 141))) (by simp [Value.oneCell']) (by omega) hmx (by omega) (by simp; omega) (wr.heap.size + 1 + 1) (by simp) ?_; intro gg cap w4 hown4 hgrow hat4 hlt4; obtain ⟨⟨z0, z1⟩, hG4⟩ := HG.out.1.push (x := .slice (some ⟨wr.heap.size, 0, none⟩) 1 1) (e := [t]) (W2 := wr.alloc (.cells #[.string t] 9)) (W3 := (wr.alloc (.cells #[.string t] 9)).alloc (.cells #[.slice (some ⟨wr.heap.size, 0, none⟩) 1 1] 141)) ((Below.refl _ _).alloc (Nat.le_refl _) _) (by simpa using HG.out.2.2) (by simp) ((Below.refl _ _).alloc (Nat.le_refl _) _) (by rw [hel]; exact hown4) (by first | exact hgrow | exact undrewG hgrow); have l4 : w.heap.size + 1 < w4.heap.size := cell_lt z0; have HG4 : Hid (GB w.heap.size (w.heap.size + 1) w (w4.setCell ⟨w.heap.size + 1, 1, none⟩ (.slice (some ⟨gg, 0, none⟩) (Nu + 1) cap)) tag (.slice (some ⟨gg, 0, none⟩) (Nu + 1) cap) (vals ++ [.slice (some ⟨wr.heap.size, 0, none⟩) 1 1]) ((ws.take Nu).map (fun t => [t]) ++ [[t]])) := hG4; clear hown4 hgrow hat4 hG4; try dsimp only))
      all_goals
        go_wp2
        go_roundw
        case rel =>
          refine ⟨Nu + 1, .slice (some ⟨gg, 0, none⟩) (Nu + 1) cap, vals ++ [.slice (some ⟨wr.heap.size, 0, none⟩) 1 1], by go_num, by omega, ?_⟩
          have e1 : (ws.take (Nu + 1)).map (fun t => [t]) = (ws.take Nu).map (fun t => [t]) ++ [[t]] := by
            rw [List.take_add_one, HG.out.2.1]
            simp
          rw [e1]
          exact HG4.out
        case measure => simp [intOf]; omega
    · obtain rfl : k = ws.length := by omega
      have hr := hG.r
      have r0 : wr.cell? ⟨w.heap.size, 0, none⟩ = some (.string ⟨#[]⟩) := by simp [World.cell?, hr]
      have r1 : wr.cell? ⟨w.heap.size, 1, none⟩ = some (.slice none 0 0) := by simp [World.cell?, hr]
      have rz : ∀ o, wr.frozen? ⟨w.heap.size, o, none⟩ = false := fun o => by simp [World.frozen?, hr]
      have hO := hG.own
      rw [List.take_length] at hO
      have HF : Hid (OwnV (w.heap.size + 1 + 1) wr (.slice Au Nu Cu) vals (ws.map fun t => [t]) ∧ Below w.heap.size w wr) := ⟨hO, hG.bel⟩
      clear hG hr hO
      go_wp2
      exact bodyPost_ret (v := .agg #[.string tag, .slice Au Nu Cu]) (by simp [results, Tryz.results63, go_sem, r0, r1]) rfl ⟨_, vals, rfl, ((HF.out.1.set (by omega) _ _).set (by omega) _ _).mono (by omega), (HF.out.2.setCell (Nat.le_refl _) _).setCell (Nat.le_refl _) _⟩
end Go.Proofs.YtkaolpnbddjdpaaGreatDoor
namespace Go.Proofs.YtkaolpnbddjdpaaGreatDoor
open Go.ChangeShapes Go.WideShapes Go.ChangeAt Go.RowKit
/-- The part of that place of the element of that place. -/
def partF (es : List (List ByteArray)) (el part : Int) : ByteArray :=
  if 0 ≤ el ∧ el < es.length then
    if 0 ≤ part ∧ part < (es[el.toNat]?.getD []).length then (es[el.toNat]?.getD [])[part.toNat]?.getD ⟨#[]⟩ else ⟨#[]⟩
  else ⟨#[]⟩
end Go.Proofs.YtkaolpnbddjdpaaGreatDoor
namespace Go.Proofs.YtkaolpnbddjdpaaGreatDoor
open Go.ChangeShapes Go.WideShapes Go.ChangeAt Go.RowKit
set_option maxHeartbeats 2000000 in
theorem part_spec (tag : ByteArray) (v : Value) (es : List (List ByteArray)) (el part : Int) (w : World) (h : RowE w v es) (hE : BdE 1048576 es) :
    Calls Tryz.prog 116 #[.agg #[.string tag, v], .int .i64 el, .int .i64 part] w fun e w' => e = .returned (.string (partF es el part)) ∧ Below w.heap.size w w' := by
  have hlen := hE.1
  obtain ⟨a, cap, rfl⟩ := h.val
  have H : Hid (RowE w (.slice a es.length cap) es ∧ BdE 1048576 es) := ⟨h, hE⟩
  clear h hE
  unfold partF
  by_cases h1 : 0 ≤ el ∧ el < es.length
  · rw [if_pos h1]
    obtain ⟨h10, h11⟩ := h1
    obtain ⟨k, rfl⟩ := Int.eq_ofNat_of_zero_le h10
    have hk : k < es.length := by omega
    obtain ⟨b, o, c1, s, u, e, hs, hc, hS⟩ := (H.out.1.below ((Below.refl _ _).alloc (Nat.le_refl _) (.cells #[.string tag, .slice a es.length cap] 90))).at hk
    simp only [Value.slice.injEq, true_and] at e
    obtain ⟨rfl, rfl⟩ := e
    have hsl := (H.out.2.2 k s hs).1
    rw [Int.toNat_natCast, hs, Option.getD_some]
    obtain ⟨a2, cap2, rfl⟩ := hS.val
    have HS : Hid (RowS (w.alloc (.cells #[.string tag, .slice (some ⟨b, o, none⟩) es.length cap] 90)) (.slice a2 s.length cap2) s ∧ BdS 1048576 s) := ⟨hS, H.out.2.2 k s hs⟩
    clear hS hs
    have n1 : ¬ (k : Int) < 0 := by omega
    have n1' : decide ((k : Int) < 0) = false := by simp
    have n3 : ¬ (es.length : Int) ≤ (k : Int) := by omega
    have n3' : decide ((es.length : Int) ≤ (k : Int)) = false := by simp; omega
    by_cases h2 : 0 ≤ part ∧ part < (s.length : Int)
    · rw [if_pos h2]
      obtain ⟨h20, h21⟩ := h2
      obtain ⟨p, rfl⟩ := Int.eq_ofNat_of_zero_le h20
      have hp : p < s.length := by omega
      obtain ⟨b2, o2, c2, t, e2, ht, hc2, hsz⟩ := HS.out.1.at hp
      simp only [Value.slice.injEq, true_and] at e2
      obtain ⟨rfl, rfl⟩ := e2
      have htl := HS.out.2.2 p t ht
      rw [Int.toNat_natCast, ht, Option.getD_some]
      clear ht
      have n2 : ¬ (p : Int) < 0 := by omega
      have n2' : decide ((p : Int) < 0) = false := by simp
      have n4 : decide ((s.length : Int) ≤ (p : Int)) = false := by simp; omega
      go_enter Tryz.func116, Tryz.ntmps116
      go_wp2_with fail
      first
        | (go_quiet (fail); go_wp2)
        | go_wp2
      go_ret
      exact ⟨rfl, by first | exact below_drewN ((Below.refl _ _).alloc (Nat.le_refl _) _) _ | exact (Below.refl _ _).alloc (Nat.le_refl _) _⟩
    · rw [if_neg h2]
      by_cases h20 : part < 0
      · have n2 : decide (part < 0) = true := by simpa using h20
        go_enter Tryz.func116, Tryz.ntmps116
        (go_wp2_with fail; first | (go_quiet (fail); go_wp2) | go_wp2)
        go_ret
        exact ⟨rfl, by first | exact below_drewN ((Below.refl _ _).alloc (Nat.le_refl _) _) _ | exact (Below.refl _ _).alloc (Nat.le_refl _) _⟩
      · have h21 : (s.length : Int) ≤ part := by omega
        have n2 : decide (part < 0) = false := by simp; omega
        have n4 : decide ((s.length : Int) ≤ part) = true := by simpa using h21
        go_enter Tryz.func116, Tryz.ntmps116
        (go_wp2_with fail; first | (go_quiet (fail); go_wp2) | go_wp2)
        go_ret
        exact ⟨rfl, by first | exact below_drewN ((Below.refl _ _).alloc (Nat.le_refl _) _) _ | exact (Below.refl _ _).alloc (Nat.le_refl _) _⟩
  · rw [if_neg h1]
    by_cases h20 : el < 0
    · have n2 : decide (el < 0) = true := by simpa using h20
      go_enter Tryz.func116, Tryz.ntmps116
      (go_wp2_with fail; first | (go_quiet (fail); go_wp2) | go_wp2)
      go_ret
      exact ⟨rfl, by first | exact below_drewN ((Below.refl _ _).alloc (Nat.le_refl _) _) _ | exact (Below.refl _ _).alloc (Nat.le_refl _) _⟩
    · have h21 : (es.length : Int) ≤ el := by omega
      have n2 : decide (el < 0) = false := by simp; omega
      have n4 : decide ((es.length : Int) ≤ el) = true := by simpa using h21
      go_enter Tryz.func116, Tryz.ntmps116
      (go_wp2_with fail; first | (go_quiet (fail); go_wp2) | go_wp2)
      go_ret
      exact ⟨rfl, by first | exact below_drewN ((Below.refl _ _).alloc (Nat.le_refl _) _) _ | exact (Below.refl _ _).alloc (Nat.le_refl _) _⟩
end Go.Proofs.YtkaolpnbddjdpaaGreatDoor
namespace Go.Proofs.YtkaolpnbddjdpaaGreatDoor
open Go.ChangeShapes Go.WideShapes Go.ChangeAt Go.RowKit
theorem l05Has_any (k : Int) (w : World) : Calls Tryz.prog 93 #[.int .i64 k] w fun e w' => e = .returned (.bool (hasO k)) ∧ w' = w := by
  have hv : hasO k = ((k == 2) || (k == 3) || (k == 4)) := by
    simp [hasO, Bool.or_assoc]
    rfl
  rw [hv]
  go_enter Tryz.func93, Tryz.ntmps93
  cases h1 : (k == 2) <;> cases h2 : (k == 3) <;> cases h3 : (k == 4)
  all_goals
    go_wp2
    go_ret
    exact ⟨rfl, rfl⟩
theorem l05Own_any (k : Int) (w : World) : Calls Tryz.prog 96 #[.int .i64 k] w fun e w' => e = .returned (.bool (oncB k)) ∧ w' = w := by
  have hv : oncB k = ((k == 1) || (k == 5) || (k == 6)) := by
    simp [oncB, Bool.or_assoc]
    rfl
  rw [hv]
  go_enter Tryz.func96, Tryz.ntmps96
  cases h1 : (k == 1) <;> cases h2 : (k == 5) <;> cases h3 : (k == 6)
  all_goals
    go_wp2
    go_ret
    exact ⟨rfl, rfl⟩
theorem l05Numbered_any (k : Int) (w : World) : Calls Tryz.prog 95 #[.int .i64 k] w fun e w' => e = .returned (.bool (risB k)) ∧ w' = w := by
  by_cases h1 : 1 ≤ k
  · by_cases h2 : k ≤ 4
    · have hv : risB k = true := by simp [risB]; omega
      rw [hv]
      go_enter Tryz.func95, Tryz.ntmps95
      go_wp2
      go_ret
      exact ⟨rfl, rfl⟩
    · have hv : risB k = false := by simp [risB]; omega
      rw [hv]
      go_enter Tryz.func95, Tryz.ntmps95
      go_wp2
      go_ret
      exact ⟨rfl, rfl⟩
  · have hv : risB k = false := by simp [risB]; omega
    rw [hv]
    go_enter Tryz.func95, Tryz.ntmps95
    go_wp2
    go_ret
    exact ⟨rfl, rfl⟩
/-- A text that tells a number, or a missing one. -/
def NumM (t : ByteArray) (n : Int) : Prop := (numT t.data.toList = some n) ∨ (t = eT ∧ n = 0)
set_option maxRecDepth 20000 in
set_option maxHeartbeats 16000000 in
theorem l01Num_eT (w : World) : Calls Tryz.prog 152 #[.string eT] w fun e w' => (∃ b, e = .returned (.tuple #[.int .i64 0, .bool b])) ∧ Below w.heap.size w w' := by
  unfold eT
  go_enter Tryz.func152, Tryz.ntmps152
  go_wp2
  go_ret2
  exact ⟨⟨_, rfl⟩, Below.refl _ _⟩
theorem l01Num_of (t : ByteArray) (n : Int) (w : World) (hz : t.size ≤ 281474976710656) (hn : NumM t n) (h0 : -1000000000000 < n) (h1 : n < 1000000000000) : Calls Tryz.prog 152 #[.string t] w fun e w' => (∃ b, e = .returned (.tuple #[.int .i64 n, .bool b])) ∧ Below w.heap.size w w' := by
  rcases hn with h | ⟨rfl, rfl⟩
  · refine (l01Num_any t w hz).mono ?_
    rintro e w' ⟨m, b, rfl, hL, hb⟩
    rcases hL with ⟨_, q⟩ | ⟨_, q⟩
    · rw [h] at q
      cases q
      exact ⟨⟨_, rfl⟩, hb⟩
    · have := q n h
      omega
  · exact l01Num_eT w
def NumE (es : List (List ByteArray)) (i n : Int) : Prop := NumM (partF es i 0) n ∧ -1000000000000 < n ∧ n < 1000000000000
theorem partF_bd {es : List (List ByteArray)} (hE : BdE 1048576 es) (i j : Int) : (partF es i j).size ≤ 1048576 := by
  unfold partF
  split
  · split
    · cases he : es[i.toNat]? with
      | none => exact Nat.zero_le _
      | some e =>
        rw [Option.getD_some]
        cases ht : e[j.toNat]? with
        | none => exact Nat.zero_le _
        | some t => exact (hE.2 _ e he).2 _ t ht
    · exact Nat.zero_le _
  · exact Nat.zero_le _
set_option maxRecDepth 20000 in
set_option maxHeartbeats 16000000 in
theorem l05Num_any (tag : ByteArray) (v : Value) (es : List (List ByteArray)) (i n : Int) (w : World) (h : RowE w v es) (hE : BdE 1048576 es) (hn : NumE es i n) :
    Calls Tryz.prog 117 #[.agg #[.string tag, v], .int .i64 i] w fun e w' => e = .returned (.int .i64 n) ∧ Below w.heap.size w w' := by
  obtain ⟨A, C, rfl⟩ := h.val
  have bA : Below w.heap.size w (w.alloc (.cells #[.string tag, .slice A es.length C] 90)) := (Below.refl _ _).alloc (Nat.le_refl _) _
  have H : Hid (RowE (w.alloc (.cells #[.string tag, .slice A es.length C] 90)) (.slice A es.length C) es ∧ Below w.heap.size w (w.alloc (.cells #[.string tag, .slice A es.length C] 90)) ∧ BdE 1048576 es ∧ NumE es i n) := ⟨h.below bA, bA, hE, hn⟩
  clear h bA hE hn
  go_enter Tryz.func117, Tryz.ntmps117
  go_wp2_with fail
  refine (part_spec tag _ es i 0 _ H.out.1 H.out.2.2.1).mono ?_
  rintro e w1 ⟨rfl, hb1⟩
  have H1 : Hid (Below w.heap.size w w1) := H.out.2.1.trans (hb1.mono (by simp))
  clear hb1
  go_wp2_with fail
  refine (l01Num_of _ n _ (by have := partF_bd H.out.2.2.1 i 0; omega) H.out.2.2.2.1 H.out.2.2.2.2.1 H.out.2.2.2.2.2).mono ?_
  rintro e w2 ⟨⟨b, rfl⟩, hb2⟩
  have H2 : Hid (Below w.heap.size w w2) := H1.out.trans (hb2.mono H1.out.size)
  clear hb2
  go_wp2
  go_ret
  exact ⟨rfl, H2.out⟩
end Go.Proofs.YtkaolpnbddjdpaaGreatDoor
