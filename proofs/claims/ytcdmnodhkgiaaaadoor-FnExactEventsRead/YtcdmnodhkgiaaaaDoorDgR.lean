/- Contracts of the scribe's readers. -/
import Derived.Test.YtcdmnodhkgiaaaaDoorDgU
import Derived.Test.YtcdmnodhkgiaaaaDoorShClone
import Derived.Test.YtcdmnodhkgiaaaaDoorEvP
import Derived.Deep.RegionHeld3
import Derived.Deep.RegionLaw
namespace Go.Proofs.YtcdmnodhkgiaaaaDoor
open Go.ChangeShapes Go.WideShapes Go.ChangeAt Go.RowKit
/-- An event's value. -/
def evV (k : Int) (a b c : ByteArray) : Value := .agg #[.int .i64 k, .string a, .string b, .string c]
theorem set4_new {W : World} {B t : Nat} {z0 z1 z2 z3 : Value} (v0 v1 v2 v3 : Value) (hb : W.heap[B]? = some (.cells #[z0, z1, z2, z3] t)) : ((((W.setCell ⟨B, 0, none⟩ v0).setCell ⟨B, 1, none⟩ v1).setCell ⟨B, 2, none⟩ v2).setCell ⟨B, 3, none⟩ v3).heap[B]? = some (.cells #[v0, v1, v2, v3] t) :=
  heap_setCell_same _ B 3 _ t v3 (heap_setCell_same _ B 2 _ t v2 (heap_setCell_same _ B 1 _ t v1 (heap_setCell_same W B 0 _ t v0 hb)))
theorem set4_bel {n B : Nat} {w W : World} (hb : Below n w W) (hB : n ≤ B) (v0 v1 v2 v3 : Value) : Below n w ((((W.setCell ⟨B, 0, none⟩ v0).setCell ⟨B, 1, none⟩ v1).setCell ⟨B, 2, none⟩ v2).setCell ⟨B, 3, none⟩ v3) :=
  (((hb.setCell hB _).setCell hB _).setCell hB _).setCell hB _
theorem keep4 {W : World} {B b o : Nat} {v v0 v1 v2 v3 : Value} (h : W.cell? ⟨b, o, none⟩ = some v) (hb : b ≠ B) : ((((W.setCell ⟨B, 0, none⟩ v0).setCell ⟨B, 1, none⟩ v1).setCell ⟨B, 2, none⟩ v2).setCell ⟨B, 3, none⟩ v3).cell? ⟨b, o, none⟩ = some v := by
  have hn : ∀ i, (⟨B, i, none⟩ : Addr) ≠ ⟨b, o, none⟩ := fun i e => hb (by cases e; rfl)
  exact (World.cell?_setCell_other _ _ _ _ (hn 3)).trans ((World.cell?_setCell_other _ _ _ _ (hn 2)).trans ((World.cell?_setCell_other _ _ _ _ (hn 1)).trans ((World.cell?_setCell_other _ _ _ _ (hn 0)).trans h)))
theorem undrewR {n : Nat} {a b : World} (h : Below n a.drew b) : Below n a b := ⟨h.os, h.tape, h.output, h.size, h.block⟩
/-- What the readers tell of words. -/
def rdP : List ByteArray → Value
  | [a] => evV 1 a ⟨#[]⟩ ⟨#[]⟩
  | _ => evV 0 ⟨#[]⟩ ⟨#[]⟩ ⟨#[]⟩
theorem rdP_ne {ws : List ByteArray} (h : ws.length ≠ 1) : rdP ws = evV 0 ⟨#[]⟩ ⟨#[]⟩ ⟨#[]⟩ := by
  match ws, h with
  | [], _ => rfl
  | [_], h => exact absurd rfl h
  | _ :: _ :: _, _ => rfl
def rdC : List ByteArray → Value
  | [x, y, z] => evV 2 x y z
  | _ => evV 0 ⟨#[]⟩ ⟨#[]⟩ ⟨#[]⟩
theorem rdC_ne {ws : List ByteArray} (h : ws.length ≠ 3) : rdC ws = evV 0 ⟨#[]⟩ ⟨#[]⟩ ⟨#[]⟩ := by
  match ws, h with
  | [], _ => rfl
  | [_], _ => rfl
  | [_, _], _ => rfl
  | [_, _, _], h => exact absurd rfl h
  | _ :: _ :: _ :: _ :: _, _ => rfl
set_option maxHeartbeats 1000000 in
theorem readNext_any (B n C : Nat) (p : Option Addr) (hn : n ≤ 30000) (w : World) :
    Calls Tryd.prog 38 #[.pointer (some ⟨B, 0, none⟩), .slice p n C] w fun e w' => e = .returned (if n = 0 then evV 4 ⟨#[]⟩ ⟨#[]⟩ ⟨#[]⟩ else evV 0 ⟨#[]⟩ ⟨#[]⟩ ⟨#[]⟩) ∧ Below w.heap.size w w' := by
  have hB : ∀ ob, Below w.heap.size w (w.alloc ob) := fun ob => (Below.refl _ _).alloc (Nat.le_refl _) ob
  by_cases h0 : n = 0
  · subst h0
    go_enter Tryd.func38, Tryd.ntmps38
    go_wp2
    refine bodyPost_ret (v := evV 4 ⟨#[]⟩ ⟨#[]⟩ ⟨#[]⟩) (by simp [results, Tryd.results38, go_sem, evV]; try rfl) rfl ?_
    exact ⟨rfl, hB _⟩
  · rw [if_neg h0]
    have h1 : ((n : Int) != 0) = true := by simp; omega
    go_enter Tryd.func38, Tryd.ntmps38
    go_wp2
    refine bodyPost_ret (v := evV 0 ⟨#[]⟩ ⟨#[]⟩ ⟨#[]⟩) (by simp [results, Tryd.results38, go_sem, evV]; try rfl) rfl ?_
    exact ⟨rfl, hB _⟩
set_option maxHeartbeats 1000000 in
theorem readPartner_any (B b o C : Nat) (ws : List ByteArray) (hn : ws.length ≤ 30000) (w : World) (hc : ∀ j t, ws[j]? = some t → w.cell? ⟨b, o + j, none⟩ = some (.string t)) (hs : ∀ t ∈ ws, t.size ≤ 20000) :
    Calls Tryd.prog 35 #[.pointer (some ⟨B, 0, none⟩), .slice (some ⟨b, o, none⟩) ws.length C] w fun e w' => e = .returned (rdP ws) ∧ Below w.heap.size w w' := by
  by_cases h1 : ws.length = 1
  · obtain ⟨a, rfl⟩ : ∃ a, ws = [a] := List.length_eq_one_iff.1 h1
    have c0 : w.cell? ⟨b, o, none⟩ = some (.string a) := hc 0 a rfl
    have lt : b < w.heap.size := World.block_lt_of_cell? _ _ c0
    obtain ⟨W0, hW0⟩ : ∃ W0, w.alloc (.cells #[.int .i64 0, .string ⟨#[]⟩, .string ⟨#[]⟩, .string ⟨#[]⟩] 39) = W0 := ⟨_, rfl⟩
    have hb0 : Below w.heap.size w W0 := by rw [← hW0]; exact (Below.refl _ _).alloc (Nat.le_refl _) _
    have hx0 : W0.heap[w.heap.size]? = some (.cells #[.int .i64 0, .string ⟨#[]⟩, .string ⟨#[]⟩, .string ⟨#[]⟩] 39) := by rw [← hW0]; exact World.alloc_heap_new _ _
    have hs0 : W0.heap.size = w.heap.size + 1 := by rw [← hW0]; simp
    have k0 : W0.cell? ⟨b, o, none⟩ = some (.string a) := by rw [← c0]; unfold World.cell?; rw [hb0.block b lt]
    have Q := clone_any a W0 (by have := hs a (by simp); omega)
    clear hc hs h1 hn
    go_enter Tryd.func35, Tryd.ntmps35
    go_upto_region 3 with fail
    try rw [hW0]
    clear hW0 c0
    go_wp2_with fail
    refine Q.mono ?_
    rintro e w1 ⟨rfl, hb⟩
    have hx1 : w1.heap[w.heap.size]? = some (.cells #[.int .i64 0, .string ⟨#[]⟩, .string ⟨#[]⟩, .string ⟨#[]⟩] 39) := (hb.block _ (by omega)).trans hx0
    have H : Hid (Below w.heap.size w w1) := hb0.trans (hb.mono (by omega))
    have f1 : ∀ o, w1.frozen? ⟨w.heap.size, o, none⟩ = false := fun o => by simp [World.frozen?, hx1]
    have d0 : w1.cell? ⟨w.heap.size, 0, none⟩ = some (.int .i64 0) := by simp [World.cell?, hx1]
    have d1 : w1.cell? ⟨w.heap.size, 1, none⟩ = some (.string ⟨#[]⟩) := by simp [World.cell?, hx1]
    have d2 : w1.cell? ⟨w.heap.size, 2, none⟩ = some (.string ⟨#[]⟩) := by simp [World.cell?, hx1]
    have d3 : w1.cell? ⟨w.heap.size, 3, none⟩ = some (.string ⟨#[]⟩) := by simp [World.cell?, hx1]
    have HX : Hid (w1.heap[w.heap.size]? = some (.cells #[.int .i64 0, .string ⟨#[]⟩, .string ⟨#[]⟩, .string ⟨#[]⟩] 39)) := hx1
    clear hb Q hb0 hx0 hs0 k0 hx1
    go_wp2
    have h4 := set4_new (.int .i64 1) (.string a) (.string ⟨#[]⟩) (.string ⟨#[]⟩) HX.out
    have hB4 := set4_bel H.out (Nat.le_refl _) (.int .i64 1) (.string a) (.string ⟨#[]⟩) (.string ⟨#[]⟩)
    revert h4 hB4
    generalize (((w1.setCell ⟨w.heap.size, 0, none⟩ (.int .i64 1)).setCell ⟨w.heap.size, 1, none⟩ (.string a)).setCell ⟨w.heap.size, 2, none⟩ (.string ⟨#[]⟩)).setCell ⟨w.heap.size, 3, none⟩ (.string ⟨#[]⟩) = W4
    intro h4 hB4
    have e0 : W4.cell? ⟨w.heap.size, 0, none⟩ = some (.int .i64 1) := by simp [World.cell?, h4]
    have e1 : W4.cell? ⟨w.heap.size, 1, none⟩ = some (.string a) := by simp [World.cell?, h4]
    have e2 : W4.cell? ⟨w.heap.size, 2, none⟩ = some (.string ⟨#[]⟩) := by simp [World.cell?, h4]
    have e3 : W4.cell? ⟨w.heap.size, 3, none⟩ = some (.string ⟨#[]⟩) := by simp [World.cell?, h4]
    refine bodyPost_ret (v := evV 1 a ⟨#[]⟩ ⟨#[]⟩) (by simp [results, Tryd.results35, go_sem, evV, e0, e1, e2, e3]; try rfl) rfl ?_
    exact ⟨rfl, hB4⟩
  · rw [rdP_ne h1]
    generalize ws.length = n at h1 hn
    have h2 : ((n : Int) != 1) = true := by simp; omega
    have hB : ∀ ob, Below w.heap.size w (w.alloc ob) := fun ob => (Below.refl _ _).alloc (Nat.le_refl _) ob
    clear hc hs
    go_enter Tryd.func35, Tryd.ntmps35
    go_wp2
    refine bodyPost_ret (v := evV 0 ⟨#[]⟩ ⟨#[]⟩ ⟨#[]⟩) (by simp [results, Tryd.results35, go_sem, evV]; try rfl) rfl ?_
    exact ⟨rfl, hB _⟩
set_option maxHeartbeats 1000000 in
theorem readCross_any (B b o C : Nat) (ws : List ByteArray) (hn : ws.length ≤ 30000) (w : World) (hc : ∀ j t, ws[j]? = some t → w.cell? ⟨b, o + j, none⟩ = some (.string t)) (hs : ∀ t ∈ ws, t.size ≤ 20000) :
    Calls Tryd.prog 36 #[.pointer (some ⟨B, 0, none⟩), .slice (some ⟨b, o, none⟩) ws.length C] w fun e w' => e = .returned (rdC ws) ∧ Below w.heap.size w w' := by
  by_cases h1 : ws.length = 3
  · obtain ⟨x, y, z, rfl⟩ : ∃ x y z, ws = [x, y, z] := by
      match ws, h1 with
      | [x, y, z], _ => exact ⟨x, y, z, rfl⟩
    have c0 : w.cell? ⟨b, o, none⟩ = some (.string x) := hc 0 x rfl
    have c1 : w.cell? ⟨b, o + 1, none⟩ = some (.string y) := hc 1 y rfl
    have c2 : w.cell? ⟨b, o + 2, none⟩ = some (.string z) := hc 2 z rfl
    have lt : b < w.heap.size := World.block_lt_of_cell? _ _ c0
    have s0 := hs x (by simp)
    have s1 := hs y (by simp)
    have s2 := hs z (by simp)
    obtain ⟨W0, hW0⟩ : ∃ W0, w.alloc (.cells #[.int .i64 0, .string ⟨#[]⟩, .string ⟨#[]⟩, .string ⟨#[]⟩] 39) = W0 := ⟨_, rfl⟩
    have hb0 : Below w.heap.size w W0 := by rw [← hW0]; exact (Below.refl _ _).alloc (Nat.le_refl _) _
    have hx0 : W0.heap[w.heap.size]? = some (.cells #[.int .i64 0, .string ⟨#[]⟩, .string ⟨#[]⟩, .string ⟨#[]⟩] 39) := by rw [← hW0]; exact World.alloc_heap_new _ _
    have hs0 : W0.heap.size = w.heap.size + 1 := by rw [← hW0]; simp
    have k0 : W0.cell? ⟨b, o, none⟩ = some (.string x) := by rw [← c0]; unfold World.cell?; rw [hb0.block b lt]
    have k1 : W0.cell? ⟨b, o + 1, none⟩ = some (.string y) := by rw [← c1]; unfold World.cell?; rw [hb0.block b lt]
    have k2 : W0.cell? ⟨b, o + 2, none⟩ = some (.string z) := by rw [← c2]; unfold World.cell?; rw [hb0.block b lt]
    have lt0 : b < W0.heap.size := by omega
    have Q := clone_any x W0 (by omega)
    clear hc hs h1 hn
    go_enter Tryd.func36, Tryd.ntmps36
    go_upto_region 3 with fail
    try rw [hW0]
    clear hW0 c0 c1 c2
    have HC : Hid (∀ W, Below W0.heap.size W0 W → W.cell? ⟨b, o, none⟩ = some (.string x) ∧ W.cell? ⟨b, o + 1, none⟩ = some (.string y) ∧ W.cell? ⟨b, o + 2, none⟩ = some (.string z)) := fun W hW => by
      refine ⟨?_, ?_, ?_⟩
      · rw [← k0]; unfold World.cell?; rw [hW.block b lt0]
      · rw [← k1]; unfold World.cell?; rw [hW.block b lt0]
      · rw [← k2]; unfold World.cell?; rw [hW.block b lt0]
    have HR : Hid (∀ W, Below W0.heap.size W0 W → (∀ o, W.frozen? ⟨w.heap.size, o, none⟩ = false) ∧ W.cell? ⟨w.heap.size, 0, none⟩ = some (.int .i64 0) ∧ W.cell? ⟨w.heap.size, 1, none⟩ = some (.string ⟨#[]⟩) ∧ W.cell? ⟨w.heap.size, 2, none⟩ = some (.string ⟨#[]⟩) ∧ W.cell? ⟨w.heap.size, 3, none⟩ = some (.string ⟨#[]⟩)) := fun W hW => by
      have hx1 := (hW.block w.heap.size (by omega)).trans hx0
      exact ⟨fun o => by simp [World.frozen?, hx1], by simp [World.cell?, hx1], by simp [World.cell?, hx1], by simp [World.cell?, hx1], by simp [World.cell?, hx1]⟩
    have hne : b ≠ w.heap.size := by omega
    go_region_held3 (fun W => W.cell? ⟨b, o, none⟩ = some (.string x) ∧ W.cell? ⟨b, o + 1, none⟩ = some (.string y) ∧ W.cell? ⟨b, o + 2, none⟩ = some (.string z)) (first | go_keep | exact ⟨keep4 g0 hne, keep4 g1 hne, keep4 g2 hne⟩) (first | (go_at_call_of 51 (Value.string x); refine (clone_any _ _ (by omega)).mono ?_; rintro e wa ⟨rfl, hba⟩; have ba : Below W0.heap.size W0 wa := (by first | exact hba | exact undrewR hba); obtain ⟨a0, a1, a2⟩ := HC.out wa ba; clear hba; try dsimp only) | (go_at_call_of 51 (Value.string y); refine (clone_any _ _ (by omega)).mono ?_; rintro e wb ⟨rfl, hbb⟩; have bb : Below W0.heap.size W0 wb := ba.trans ((by first | exact hbb | exact undrewR hbb : Below wa.heap.size wa wb).mono ba.size); obtain ⟨b0, b1, b2⟩ := HC.out wb bb; clear hbb; try dsimp only) | (go_at_call_of 51 (Value.string z); refine (clone_any _ _ (by omega)).mono ?_; rintro e wc ⟨rfl, hbc⟩; have bc : Below W0.heap.size W0 wc := bb.trans ((by first | exact hbc | exact undrewR hbc : Below wb.heap.size wb wc).mono bb.size); obtain ⟨g0, g1, g2⟩ := HC.out wc bc; obtain ⟨f1, d0, d1, d2, d3⟩ := HR.out wc bc; clear hbc; try dsimp only))
    rename_i hHeld
    clear hHeld
    have hb : Below W0.heap.size W0 wc := bc
    have hx1 : wc.heap[w.heap.size]? = some (.cells #[.int .i64 0, .string ⟨#[]⟩, .string ⟨#[]⟩, .string ⟨#[]⟩] 39) := (hb.block _ (by omega)).trans hx0
    have H : Hid (Below w.heap.size w wc) := hb0.trans (hb.mono (by omega))
    have f1 : ∀ o, wc.frozen? ⟨w.heap.size, o, none⟩ = false := fun o => by simp [World.frozen?, hx1]
    have d0 : wc.cell? ⟨w.heap.size, 0, none⟩ = some (.int .i64 0) := by simp [World.cell?, hx1]
    have d1 : wc.cell? ⟨w.heap.size, 1, none⟩ = some (.string ⟨#[]⟩) := by simp [World.cell?, hx1]
    have d2 : wc.cell? ⟨w.heap.size, 2, none⟩ = some (.string ⟨#[]⟩) := by simp [World.cell?, hx1]
    have d3 : wc.cell? ⟨w.heap.size, 3, none⟩ = some (.string ⟨#[]⟩) := by simp [World.cell?, hx1]
    have HX : Hid (wc.heap[w.heap.size]? = some (.cells #[.int .i64 0, .string ⟨#[]⟩, .string ⟨#[]⟩, .string ⟨#[]⟩] 39)) := hx1
    clear hb Q hb0 hx0 hs0 hx1
    go_wp2
    have h4 := set4_new (.int .i64 2) (.string x) (.string y) (.string z) HX.out
    have hB4 := set4_bel H.out (Nat.le_refl _) (.int .i64 2) (.string x) (.string y) (.string z)
    revert h4 hB4
    generalize (((wc.setCell ⟨w.heap.size, 0, none⟩ (.int .i64 2)).setCell ⟨w.heap.size, 1, none⟩ (.string x)).setCell ⟨w.heap.size, 2, none⟩ (.string y)).setCell ⟨w.heap.size, 3, none⟩ (.string z) = W4
    intro h4 hB4
    have e0 : W4.cell? ⟨w.heap.size, 0, none⟩ = some (.int .i64 2) := by simp [World.cell?, h4]
    have e1 : W4.cell? ⟨w.heap.size, 1, none⟩ = some (.string x) := by simp [World.cell?, h4]
    have e2 : W4.cell? ⟨w.heap.size, 2, none⟩ = some (.string y) := by simp [World.cell?, h4]
    have e3 : W4.cell? ⟨w.heap.size, 3, none⟩ = some (.string z) := by simp [World.cell?, h4]
    refine bodyPost_ret (v := evV 2 x y z) (by simp [results, Tryd.results36, go_sem, evV, e0, e1, e2, e3]; try rfl) rfl ?_
    exact ⟨rfl, hB4⟩
  · rw [rdC_ne h1]
    generalize ws.length = n at h1 hn
    have h2 : ((n : Int) != 3) = true := by simp; omega
    have hB : ∀ ob, Below w.heap.size w (w.alloc ob) := fun ob => (Below.refl _ _).alloc (Nat.le_refl _) ob
    clear hc hs
    go_enter Tryd.func36, Tryd.ntmps36
    go_wp2
    refine bodyPost_ret (v := evV 0 ⟨#[]⟩ ⟨#[]⟩ ⟨#[]⟩) (by simp [results, Tryd.results36, go_sem, evV]; try rfl) rfl ?_
    exact ⟨rfl, hB _⟩
def rdT : List ByteArray → Value
  | [a] => if a.size = 0 then evV 0 ⟨#[]⟩ ⟨#[]⟩ ⟨#[]⟩ else if a = ⟨#[45]⟩ then evV 3 ⟨#[]⟩ ⟨#[]⟩ ⟨#[]⟩ else if a.size % 2 = 0 ∧ allX a.data.toList = true then evV 3 ⟨(decB a.data.toList).toArray⟩ ⟨#[]⟩ ⟨#[]⟩ else evV 0 ⟨#[]⟩ ⟨#[]⟩ ⟨#[]⟩
  | _ => evV 0 ⟨#[]⟩ ⟨#[]⟩ ⟨#[]⟩
theorem rdT_ne {ws : List ByteArray} (h : ws.length ≠ 1) : rdT ws = evV 0 ⟨#[]⟩ ⟨#[]⟩ ⟨#[]⟩ := by
  match ws, h with
  | [], _ => rfl
  | [_], h => exact absurd rfl h
  | _ :: _ :: _, _ => rfl
theorem undrewG {a b : World} {o : Option Nat} (h : a.drew.grownBy b o) : a.grownBy b o := ⟨h.os, h.tape, h.output, h.size, h.block⟩
theorem set4_dg {T nn t : Nat} {r : Nat → Value} {B : Nat} {w W : World} {cs : Array Value} (h : Dgt true T nn r B W) (hg : w.grownBy W (some B)) (hx : W.heap[w.heap.size]? = some (.cells cs t)) (hB : B < w.heap.size) (v0 v1 v2 v3 : Value) : Dgt true T nn r B ((((W.setCell ⟨w.heap.size, 0, none⟩ v0).setCell ⟨w.heap.size, 1, none⟩ v1).setCell ⟨w.heap.size, 2, none⟩ v2).setCell ⟨w.heap.size, 3, none⟩ v3) ∧ w.grownBy ((((W.setCell ⟨w.heap.size, 0, none⟩ v0).setCell ⟨w.heap.size, 1, none⟩ v1).setCell ⟨w.heap.size, 2, none⟩ v2).setCell ⟨w.heap.size, 3, none⟩ v3) (some B) := by
  have e : ∀ k, k ≠ w.heap.size → ((((W.setCell ⟨w.heap.size, 0, none⟩ v0).setCell ⟨w.heap.size, 1, none⟩ v1).setCell ⟨w.heap.size, 2, none⟩ v2).setCell ⟨w.heap.size, 3, none⟩ v3).heap[k]? = W.heap[k]? := fun k hk => (heap_setCell_other _ _ k _ hk).trans ((heap_setCell_other _ _ k _ hk).trans ((heap_setCell_other _ _ k _ hk).trans (heap_setCell_other _ _ k _ hk)))
  have hb : Below w.heap.size W ((((W.setCell ⟨w.heap.size, 0, none⟩ v0).setCell ⟨w.heap.size, 1, none⟩ v1).setCell ⟨w.heap.size, 2, none⟩ v2).setCell ⟨w.heap.size, 3, none⟩ v3) := set4_bel (Below.refl _ _) (Nat.le_refl _) v0 v1 v2 v3
  refine ⟨?_, ⟨hb.os.trans hg.os, hb.tape.trans hg.tape, hb.output.trans hg.output, Nat.le_trans hg.size hb.size, fun k hk hn => (hb.block k hk).trans (hg.block k hk hn)⟩⟩
  rcases h with h1 | ⟨m, hne, h1, hm⟩
  · exact .new (h1.of_block (e B (by omega)))
  · refine .made m hne (h1.of_block (e B (by omega))) fun e2 => omap_of (hm e2) (e m fun em => ?_)
    obtain ⟨es, c, e1, _⟩ := hm e2
    rw [em, hx] at e1
    cases e1
theorem take_end {T nn : Nat} {r : Nat → Value} {B : Nat} {w : World} (h : Dgt true T nn r B w) (ob : Obj) : Dgt true T nn r B (w.alloc ob) ∧ w.grownBy (w.alloc ob) (some B) := by
  have hB : Below w.heap.size w (w.alloc ob) := (Below.refl _ _).alloc (Nat.le_refl _) ob
  exact ⟨h.below hB, ⟨hB.os, hB.tape, hB.output, hB.size, fun k hk _ => hB.block k hk⟩⟩
set_option maxHeartbeats 1000000 in
theorem readTake_any {nn : Nat} {r : Nat → Value} (hnn : 20 ≤ nn) (B b o C : Nat) (ws : List ByteArray) (hn : ws.length ≤ 30000) (w : World) (hc : ∀ j t, ws[j]? = some t → w.cell? ⟨b, o + j, none⟩ = some (.string t)) (hs : ∀ t ∈ ws, t.size ≤ 20000) (hd : Dgt true 80 nn r B w) (hBw : B < w.heap.size) (hbB : b ≠ B) :
    Calls Tryd.prog 37 #[.pointer (some ⟨B, 0, none⟩), .slice (some ⟨b, o, none⟩) ws.length C] w fun e w' => e = .returned (rdT ws) ∧ Dgt true 80 nn r B w' ∧ w.grownBy w' (some B) := by
  by_cases h1 : ws.length = 1
  · obtain ⟨a, rfl⟩ : ∃ a, ws = [a] := List.length_eq_one_iff.1 h1
    have c0 : w.cell? ⟨b, o, none⟩ = some (.string a) := hc 0 a rfl
    have lt : b < w.heap.size := World.block_lt_of_cell? _ _ c0
    have hsz := hs a (by simp)
    obtain ⟨W0, hW0⟩ : ∃ W0, w.alloc (.cells #[.int .i64 0, .string ⟨#[]⟩, .string ⟨#[]⟩, .string ⟨#[]⟩] 39) = W0 := ⟨_, rfl⟩
    have hb0 : Below w.heap.size w W0 := by rw [← hW0]; exact (Below.refl _ _).alloc (Nat.le_refl _) _
    have hx0 : W0.heap[w.heap.size]? = some (.cells #[.int .i64 0, .string ⟨#[]⟩, .string ⟨#[]⟩, .string ⟨#[]⟩] 39) := by rw [← hW0]; exact World.alloc_heap_new _ _
    have hs0 : W0.heap.size = w.heap.size + 1 := by rw [← hW0]; simp
    have k0 : W0.cell? ⟨b, o, none⟩ = some (.string a) := by rw [← c0]; unfold World.cell?; rw [hb0.block b lt]
    have HD0 : Hid (Dgt true 80 nn r B W0) := hd.below hb0
    have HG0 : Hid (w.grownBy W0 (some B)) := ⟨hb0.os, hb0.tape, hb0.output, hb0.size, fun k hk _ => hb0.block k hk⟩
    have HX : Hid (W0.heap[w.heap.size]? = some (.cells #[.int .i64 0, .string ⟨#[]⟩, .string ⟨#[]⟩, .string ⟨#[]⟩] 39)) := hx0
    have hB0 : B < W0.heap.size := by omega
    clear hc hs h1 hn hd hx0
    by_cases h0 : a.size = 0
    · have HE : Hid (rdT [a] = evV 0 ⟨#[]⟩ ⟨#[]⟩ ⟨#[]⟩) := if_pos h0
      obtain rfl : a = ⟨#[]⟩ := ByteArray.ext (Array.eq_empty_of_size_eq_zero h0)
      have f1 : ∀ o, W0.frozen? ⟨w.heap.size, o, none⟩ = false := fun o => by simp [World.frozen?, HX.out]
      have d0 : W0.cell? ⟨w.heap.size, 0, none⟩ = some (.int .i64 0) := by simp [World.cell?, HX.out]
      have d1 : W0.cell? ⟨w.heap.size, 1, none⟩ = some (.string ⟨#[]⟩) := by simp [World.cell?, HX.out]
      have d2 : W0.cell? ⟨w.heap.size, 2, none⟩ = some (.string ⟨#[]⟩) := by simp [World.cell?, HX.out]
      have d3 : W0.cell? ⟨w.heap.size, 3, none⟩ = some (.string ⟨#[]⟩) := by simp [World.cell?, HX.out]
      clear c0 hb0 hs0 h0 hsz
      go_enter Tryd.func37, Tryd.ntmps37
      go_wp2
      have h4 := set4_new (.int .i64 0) (.string ⟨#[]⟩) (.string ⟨#[]⟩) (.string ⟨#[]⟩) HX.out
      have hB4 := set4_dg (T := 80) (nn := nn) (r := r) HD0.out HG0.out HX.out hBw (.int .i64 0) (.string ⟨#[]⟩) (.string ⟨#[]⟩) (.string ⟨#[]⟩)
      revert h4 hB4
      generalize (((W0.setCell ⟨w.heap.size, 0, none⟩ (.int .i64 0)).setCell ⟨w.heap.size, 1, none⟩ (.string ⟨#[]⟩)).setCell ⟨w.heap.size, 2, none⟩ (.string ⟨#[]⟩)).setCell ⟨w.heap.size, 3, none⟩ (.string ⟨#[]⟩) = W4
      intro h4 hB4
      have e0 : W4.cell? ⟨w.heap.size, 0, none⟩ = some (.int .i64 0) := by simp [World.cell?, h4]
      have e1 : W4.cell? ⟨w.heap.size, 1, none⟩ = some (.string ⟨#[]⟩) := by simp [World.cell?, h4]
      have e2 : W4.cell? ⟨w.heap.size, 2, none⟩ = some (.string ⟨#[]⟩) := by simp [World.cell?, h4]
      have e3 : W4.cell? ⟨w.heap.size, 3, none⟩ = some (.string ⟨#[]⟩) := by simp [World.cell?, h4]
      refine bodyPost_ret (v := evV 0 ⟨#[]⟩ ⟨#[]⟩ ⟨#[]⟩) (by simp [results, Tryd.results37, go_sem, evV, e0, e1, e2, e3]; try rfl) rfl ?_
      exact ⟨by rw [HE.out], hB4⟩
    by_cases h2 : a = ⟨#[45]⟩
    · subst h2
      have HE : Hid (rdT [⟨#[45]⟩] = evV 3 ⟨#[]⟩ ⟨#[]⟩ ⟨#[]⟩) := rfl
      have f1 : ∀ o, W0.frozen? ⟨w.heap.size, o, none⟩ = false := fun o => by simp [World.frozen?, HX.out]
      have d0 : W0.cell? ⟨w.heap.size, 0, none⟩ = some (.int .i64 0) := by simp [World.cell?, HX.out]
      have d1 : W0.cell? ⟨w.heap.size, 1, none⟩ = some (.string ⟨#[]⟩) := by simp [World.cell?, HX.out]
      have d2 : W0.cell? ⟨w.heap.size, 2, none⟩ = some (.string ⟨#[]⟩) := by simp [World.cell?, HX.out]
      have d3 : W0.cell? ⟨w.heap.size, 3, none⟩ = some (.string ⟨#[]⟩) := by simp [World.cell?, HX.out]
      clear c0 hb0 hs0 h0 hsz
      go_enter Tryd.func37, Tryd.ntmps37
      go_wp2
      have h4 := set4_new (.int .i64 3) (.string ⟨#[]⟩) (.string ⟨#[]⟩) (.string ⟨#[]⟩) HX.out
      have hB4 := set4_dg (T := 80) (nn := nn) (r := r) HD0.out HG0.out HX.out hBw (.int .i64 3) (.string ⟨#[]⟩) (.string ⟨#[]⟩) (.string ⟨#[]⟩)
      revert h4 hB4
      generalize (((W0.setCell ⟨w.heap.size, 0, none⟩ (.int .i64 3)).setCell ⟨w.heap.size, 1, none⟩ (.string ⟨#[]⟩)).setCell ⟨w.heap.size, 2, none⟩ (.string ⟨#[]⟩)).setCell ⟨w.heap.size, 3, none⟩ (.string ⟨#[]⟩) = W4
      intro h4 hB4
      have e0 : W4.cell? ⟨w.heap.size, 0, none⟩ = some (.int .i64 3) := by simp [World.cell?, h4]
      have e1 : W4.cell? ⟨w.heap.size, 1, none⟩ = some (.string ⟨#[]⟩) := by simp [World.cell?, h4]
      have e2 : W4.cell? ⟨w.heap.size, 2, none⟩ = some (.string ⟨#[]⟩) := by simp [World.cell?, h4]
      have e3 : W4.cell? ⟨w.heap.size, 3, none⟩ = some (.string ⟨#[]⟩) := by simp [World.cell?, h4]
      refine bodyPost_ret (v := evV 3 ⟨#[]⟩ ⟨#[]⟩ ⟨#[]⟩) (by simp [results, Tryd.results37, go_sem, evV, e0, e1, e2, e3]; try rfl) rfl ?_
      exact ⟨by rw [HE.out], hB4⟩
    have hne : (a.toList == []) = false ∧ a.toList ≠ [] := nonE fun e => h0 (by rw [e]; rfl)
    obtain ⟨n1, n2⟩ := hne
    have n3 : a.toList ≠ [45] := fun e => h2 (by rw [ByteArray.toList_eq] at e; exact ByteArray.ext (Array.toList_inj.1 e))
    have n4 : (a.toList == [45]) = false := by rw [beq_eq_false_iff_ne]; exact n3
    have Q := unhex_any hnn B a hsz W0 HD0.out hB0
    have QD := unhex_any hnn B a hsz W0.drew (HD0.out.below (Below.refl _ _).drew) hB0
    have HK : Hid (∀ w1, W0.grownBy w1 (some B) → w1.cell? ⟨b, o, none⟩ = some (.string a)) := fun w1 hg => by rw [← k0]; unfold World.cell?; rw [hg.block b (by omega) (by simp [hbB])]
    have HB0 : Hid (Below w.heap.size w W0 ∧ W0.heap.size = w.heap.size + 1) := ⟨hb0, hs0⟩
    by_cases hx : a.size % 2 = 0 ∧ allX a.data.toList = true
    · have HE : Hid (rdT [a] = evV 3 ⟨(decB a.data.toList).toArray⟩ ⟨#[]⟩ ⟨#[]⟩) := (if_neg h0).trans ((if_neg h2).trans (if_pos hx))
      rw [show unhA a = .tuple #[.string ⟨(decB a.data.toList).toArray⟩, .bool true] from if_pos hx] at Q QD
      clear hx h0 h2 c0 hb0 hs0
      go_enter Tryd.func37, Tryd.ntmps37
      go_wp2_with fail
      go_region_held3 (fun W => W.cell? ⟨b, o, none⟩ = some (.string a)) (go_keep) (first | (go_at_call 52; refine Calls.mono (by first | exact Q | exact QD) ?_; rintro e w1 ⟨rfl, hd1, hg1⟩; have hg1 : W0.grownBy w1 (some B) := (by first | exact hg1 | exact undrewG hg1); have ka : w1.cell? ⟨b, o, none⟩ = some (.string a) := HK.out w1 hg1; try dsimp only))
      rename_i hHeld
      clear hHeld ka QD
      have HX : Hid (w1.heap[w.heap.size]? = some (.cells #[.int .i64 0, .string ⟨#[]⟩, .string ⟨#[]⟩, .string ⟨#[]⟩] 39)) := (hg1.block _ (by have := HB0.out.2; omega) (by simp; omega)).trans HX.out
      have HD1 : Hid (Dgt true 80 nn r B w1 ∧ w.grownBy w1 (some B)) := ⟨hd1, gby_trans HG0.out hg1⟩
      have f1 : ∀ o, w1.frozen? ⟨w.heap.size, o, none⟩ = false := fun o => by simp [World.frozen?, HX.out]
      have d0 : w1.cell? ⟨w.heap.size, 0, none⟩ = some (.int .i64 0) := by simp [World.cell?, HX.out]
      have d1 : w1.cell? ⟨w.heap.size, 1, none⟩ = some (.string ⟨#[]⟩) := by simp [World.cell?, HX.out]
      have d2 : w1.cell? ⟨w.heap.size, 2, none⟩ = some (.string ⟨#[]⟩) := by simp [World.cell?, HX.out]
      have d3 : w1.cell? ⟨w.heap.size, 3, none⟩ = some (.string ⟨#[]⟩) := by simp [World.cell?, HX.out]
      clear hd1 hg1 Q
      generalize decB a.data.toList = db at HE
      go_wp2
      have h4 := set4_new (.int .i64 3) (.string ⟨db.toArray⟩) (.string ⟨#[]⟩) (.string ⟨#[]⟩) HX.out
      have hB4 := set4_dg (T := 80) (nn := nn) (r := r) HD1.out.1 HD1.out.2 HX.out hBw (.int .i64 3) (.string ⟨db.toArray⟩) (.string ⟨#[]⟩) (.string ⟨#[]⟩)
      revert h4 hB4
      generalize (((w1.setCell ⟨w.heap.size, 0, none⟩ (.int .i64 3)).setCell ⟨w.heap.size, 1, none⟩ (.string ⟨db.toArray⟩)).setCell ⟨w.heap.size, 2, none⟩ (.string ⟨#[]⟩)).setCell ⟨w.heap.size, 3, none⟩ (.string ⟨#[]⟩) = W4
      intro h4 hB4
      have e0 : W4.cell? ⟨w.heap.size, 0, none⟩ = some (.int .i64 3) := by simp [World.cell?, h4]
      have e1 : W4.cell? ⟨w.heap.size, 1, none⟩ = some (.string ⟨db.toArray⟩) := by simp [World.cell?, h4]
      have e2 : W4.cell? ⟨w.heap.size, 2, none⟩ = some (.string ⟨#[]⟩) := by simp [World.cell?, h4]
      have e3 : W4.cell? ⟨w.heap.size, 3, none⟩ = some (.string ⟨#[]⟩) := by simp [World.cell?, h4]
      refine bodyPost_ret (v := evV 3 ⟨db.toArray⟩ ⟨#[]⟩ ⟨#[]⟩) (by simp [results, Tryd.results37, go_sem, evV, e0, e1, e2, e3]; try rfl) rfl ?_
      exact ⟨by rw [HE.out], hB4⟩
    · have HE : Hid (rdT [a] = evV 0 ⟨#[]⟩ ⟨#[]⟩ ⟨#[]⟩) := (if_neg h0).trans ((if_neg h2).trans (if_neg hx))
      rw [show unhA a = .tuple #[.string ⟨#[]⟩, .bool false] from if_neg hx] at Q QD
      clear hx h0 h2 c0 hb0 hs0
      go_enter Tryd.func37, Tryd.ntmps37
      go_wp2_with fail
      go_region_held3 (fun W => W.cell? ⟨b, o, none⟩ = some (.string a)) (go_keep) (first | (go_at_call 52; refine Calls.mono (by first | exact Q | exact QD) ?_; rintro e w1 ⟨rfl, hd1, hg1⟩; have hg1 : W0.grownBy w1 (some B) := (by first | exact hg1 | exact undrewG hg1); have ka : w1.cell? ⟨b, o, none⟩ = some (.string a) := HK.out w1 hg1; try dsimp only))
      rename_i hHeld
      clear hHeld ka QD
      have HX : Hid (w1.heap[w.heap.size]? = some (.cells #[.int .i64 0, .string ⟨#[]⟩, .string ⟨#[]⟩, .string ⟨#[]⟩] 39)) := (hg1.block _ (by have := HB0.out.2; omega) (by simp; omega)).trans HX.out
      have HD1 : Hid (Dgt true 80 nn r B w1 ∧ w.grownBy w1 (some B)) := ⟨hd1, gby_trans HG0.out hg1⟩
      have f1 : ∀ o, w1.frozen? ⟨w.heap.size, o, none⟩ = false := fun o => by simp [World.frozen?, HX.out]
      have d0 : w1.cell? ⟨w.heap.size, 0, none⟩ = some (.int .i64 0) := by simp [World.cell?, HX.out]
      have d1 : w1.cell? ⟨w.heap.size, 1, none⟩ = some (.string ⟨#[]⟩) := by simp [World.cell?, HX.out]
      have d2 : w1.cell? ⟨w.heap.size, 2, none⟩ = some (.string ⟨#[]⟩) := by simp [World.cell?, HX.out]
      have d3 : w1.cell? ⟨w.heap.size, 3, none⟩ = some (.string ⟨#[]⟩) := by simp [World.cell?, HX.out]
      clear hd1 hg1 Q
      go_wp2
      have h4 := set4_new (.int .i64 0) (.string ⟨#[]⟩) (.string ⟨#[]⟩) (.string ⟨#[]⟩) HX.out
      have hB4 := set4_dg (T := 80) (nn := nn) (r := r) HD1.out.1 HD1.out.2 HX.out hBw (.int .i64 0) (.string ⟨#[]⟩) (.string ⟨#[]⟩) (.string ⟨#[]⟩)
      revert h4 hB4
      generalize (((w1.setCell ⟨w.heap.size, 0, none⟩ (.int .i64 0)).setCell ⟨w.heap.size, 1, none⟩ (.string ⟨#[]⟩)).setCell ⟨w.heap.size, 2, none⟩ (.string ⟨#[]⟩)).setCell ⟨w.heap.size, 3, none⟩ (.string ⟨#[]⟩) = W4
      intro h4 hB4
      have e0 : W4.cell? ⟨w.heap.size, 0, none⟩ = some (.int .i64 0) := by simp [World.cell?, h4]
      have e1 : W4.cell? ⟨w.heap.size, 1, none⟩ = some (.string ⟨#[]⟩) := by simp [World.cell?, h4]
      have e2 : W4.cell? ⟨w.heap.size, 2, none⟩ = some (.string ⟨#[]⟩) := by simp [World.cell?, h4]
      have e3 : W4.cell? ⟨w.heap.size, 3, none⟩ = some (.string ⟨#[]⟩) := by simp [World.cell?, h4]
      refine bodyPost_ret (v := evV 0 ⟨#[]⟩ ⟨#[]⟩ ⟨#[]⟩) (by simp [results, Tryd.results37, go_sem, evV, e0, e1, e2, e3]; try rfl) rfl ?_
      exact ⟨by rw [HE.out], hB4⟩
  · rw [rdT_ne h1]
    generalize ws.length = n at h1 hn
    have h2 : ((n : Int) != 1) = true := by simp; omega
    have hB := fun ob => take_end hd ob
    clear hc hs hd
    go_enter Tryd.func37, Tryd.ntmps37
    go_wp2
    refine bodyPost_ret (v := evV 0 ⟨#[]⟩ ⟨#[]⟩ ⟨#[]⟩) (by simp [results, Tryd.results37, go_sem, evV]; try rfl) rfl ?_
    exact ⟨rfl, hB _⟩
end Go.Proofs.YtcdmnodhkgiaaaaDoor
