/- Contracts of the laws' own copies: a copy reads as what it was made of, and nothing that was there is written. -/
import Derived.Test.YthjddnhdfnhalaaDoorDeepRow
import Derived.Deep.OwnRows
import Derived.Test.YthjddnhdfnhalaaDoorToS
namespace Go.Proofs.YthjddnhdfnhalaaDoor
open Go.ChangeShapes Go.WideShapes Go.ChangeAt Go.RowKit
theorem infoEl : (Tryd.prog.info? 70).map (fun i => (i.zero, i.size, i.bytes)) = some (some (.agg #[.slice none 0 0]), 1, 24) := by kernel_rfl
set_option maxHeartbeats 1000000 in
theorem toEl_any (v : Value) (ss : List ByteArray) (w : World) (h : RowS w v ss) (hn : ss.length ≤ 1048576) :
    Calls Tryd.prog 47 #[.agg #[v]] w fun e w' => ∃ v', e = .returned (.agg #[v']) ∧ OwnS w.heap.size w' v' ss ∧ Below w.heap.size w w' := by
  obtain ⟨a, cap, rfl⟩ := h.val
  have H : Hid (RowS w (.slice a ss.length cap) ss) := h
  clear h
  go_enter Tryd.func47, Tryd.ntmps47
  go_wp2_with fail
  have hb0 : Below w.heap.size w (((w.alloc (.cells #[.slice a ss.length cap] 83)).alloc (.cells #[.slice none 0 0] 70)).alloc (.cells #[.slice none 0 0] 70)) := (((Below.refl _ _).alloc (Nat.le_refl _) _).alloc (by simp) _).alloc (by simp; omega) _
  have h3 := three w (.cells #[.slice a ss.length cap] 83) (.cells #[.slice none 0 0] 70) (.cells #[.slice none 0 0] 70)
  have hs0 : (((w.alloc (.cells #[.slice a ss.length cap] 83)).alloc (.cells #[.slice none 0 0] 70)).alloc (.cells #[.slice none 0 0] 70)).heap.size = w.heap.size + 3 := by simp
  generalize (((w.alloc (.cells #[.slice a ss.length cap] 83)).alloc (.cells #[.slice none 0 0] 70)).alloc (.cells #[.slice none 0 0] 70)) = W0 at hb0 h3 hs0 ⊢
  refine (toS_any _ ss W0 (H.out.below hb0) hn).mono ?_
  rintro e w1 ⟨v', rfl, hO, hb1⟩
  obtain ⟨b, hbb, rfl, hR⟩ := hO
  have f1 : w1.heap[w.heap.size + 1]? = some (.cells #[.slice none 0 0] 70) := (hb1.block (w.heap.size + 1) (by omega)).trans h3.2.1
  have f2 : w1.heap[w.heap.size + 1 + 1]? = some (.cells #[.slice none 0 0] 70) := (hb1.block (w.heap.size + 1 + 1) (by omega)).trans h3.2.2
  have c1 : w1.cell? ⟨w.heap.size + 1, 0, none⟩ = some (.slice none 0 0) := by simp [World.cell?, f1]
  have c2 : w1.cell? ⟨w.heap.size + 1 + 1, 0, none⟩ = some (.slice none 0 0) := by simp [World.cell?, f2]
  have z1 : w1.frozen? ⟨w.heap.size + 1, 0, none⟩ = false := by simp [World.frozen?, f1]
  have z2 : w1.frozen? ⟨w.heap.size + 1 + 1, 0, none⟩ = false := by simp [World.frozen?, f2]
  have HB : Hid (Below w.heap.size w w1 ∧ w1.rowIs b 9 ss.length (fun i => .string (ss[i]?.getD ⟨#[]⟩))) := ⟨hb0.trans (hb1.mono (by omega)), hR⟩
  clear f1 f2 hb0 hb1 hR h3 H
  go_wp2
  exact bodyPost_ret (v := .agg #[.slice (some ⟨b, 0, none⟩) ss.length ss.length]) (by simp [results, Tryd.results47, go_sem, c1]) rfl ⟨_, rfl, ⟨b, by omega, rfl, (HB.out.2.setOther (show b ≠ w.heap.size + 1 + 1 by omega) _).setOther (show b ≠ w.heap.size + 1 by omega) _⟩, (HB.out.1.setCell (show w.heap.size ≤ w.heap.size + 1 + 1 by omega) _).setCell (show w.heap.size ≤ w.heap.size + 1 by omega) _⟩
/-- A list of elements in blocks of its own, not below B. -/
def OwnE (B : Nat) (W : World) (v : Value) (es : List (List ByteArray)) : Prop := ∃ (b : Nat) (f : Nat → Value), B ≤ b ∧ v = .slice (some ⟨b, 0, none⟩) es.length es.length ∧ W.rowIs b 70 es.length f ∧ ∀ (i : Nat) (e : List ByteArray), es[i]? = some e → OwnS (b + 1) W (f i) e
theorem OwnE.below {B : Nat} {W W' : World} {v : Value} {es : List (List ByteArray)} (h : OwnE B W v es) (hb : Below W.heap.size W W') : OwnE B W' v es := by
  obtain ⟨b, f, h1, h2, h3, h4⟩ := h
  exact ⟨b, f, h1, h2, h3.of_block (hb.block b h3.lt), fun i e hi => (h4 i e hi).below hb⟩
theorem OwnE.row {B : Nat} {W : World} {v : Value} {es : List (List ByteArray)} (h : OwnE B W v es) (hE : BdE 1048576 es) : RowE W v es := by
  obtain ⟨b, f, h1, h2, h3, h4⟩ := h
  have hl := hE.1
  refine ⟨⟨_, _, h2, fun _ => ⟨b, 0, rfl, fun i e hi => ⟨f i, ?_, ?_⟩⟩⟩, by omega⟩
  · have := h3.cell (List.getElem?_eq_some_iff.1 hi).1
    rwa [Nat.zero_add]
  · have h5 := hE.2 i e hi
    exact (h4 i e hi).row (Nat.le_trans h5.1 (by omega)) (fun j s hj => Nat.le_trans (h5.2 j s hj) (by omega))
theorem run_make_el (n : Nat) (hn : n ≤ 1048576) (w : World) : (Instr.makeSlice 41 (.int .i64 (n : Int)) (.int .i64 (n : Int))).run Tryd.prog w = .ok (.slice (some ⟨w.heap.size, 0, none⟩) n n) (w.alloc (.cells (madeCells #[.slice none 0 0] n) 70)) := by
  obtain ⟨i0, hi, hz0, hz1, hz2⟩ := info_parts infoEl
  have h := run_make (P := Tryd.prog) w 41 70 i0 (.agg #[.slice none 0 0]) Tryd.underlying41 hi hz0 .i64 .i64 (n : Int) (n : Int) (by omega) (by omega) (by rw [hz2]; omega) (by omega)
  rw [hz1] at h
  simpa [Value.cells] using h
set_option maxHeartbeats 1000000 in
theorem toE_any (v : Value) (es : List (List ByteArray)) (w : World) (h : RowE w v es) (hE : BdE 1048576 es) :
    Calls Tryd.prog 35 #[v] w fun e w' => ∃ v', e = .returned v' ∧ OwnE w.heap.size w' v' es ∧ Below w.heap.size w w' := by
  have hlen := hE.1
  obtain ⟨a, cap, rfl⟩ := h.val
  have H : Hid (RowE w (.slice a es.length cap) es ∧ BdE 1048576 es) := ⟨h, hE⟩
  clear h hE
  have hmk := run_make_el es.length hlen
  go_enter Tryd.func35, Tryd.ntmps35
  go_wp2
  go_loopw [4] (fun i wr => ∃ (k : Nat) (f : Nat → Value), i = .int .i64 (k : Int) ∧ k ≤ es.length ∧ wr.rowIs w.heap.size 70 es.length f ∧ (∀ (j : Nat) (e : List ByteArray), j < k → es[j]? = some e → OwnS (w.heap.size + 1) wr (f j) e) ∧ Below w.heap.size w wr) (fun i _ => es.length - (intOf i).toNat)
  case atStart => exact ⟨0, _, rfl, by omega, (World.rowIs_made w (.slice none 0 0) es.length 70), fun j e hj => by omega, (Below.refl _ _).alloc (Nat.le_refl _) _⟩
  case round =>
    obtain ⟨k, f, rfl, hk, hR, hA, hb⟩ := hrel
    by_cases hlt : k < es.length
    · have hlt' : (k : Int) < (es.length : Int) := by omega
      obtain ⟨b, o, cap', e, u, ee, hs, hc, hS⟩ := (H.out.1.below hb).at hlt
      simp only [Value.slice.injEq, true_and] at ee
      obtain ⟨rfl, rfl⟩ := ee
      have hel := (H.out.2.2 k e hs).1
      have HS : Hid (es[k]? = some e ∧ RowS wr u e ∧ wr.rowIs w.heap.size 70 es.length f ∧ (∀ (j : Nat) (e : List ByteArray), j < k → es[j]? = some e → OwnS (w.heap.size + 1) wr (f j) e) ∧ Below w.heap.size w wr) := ⟨hs, hS, hR, hA, hb⟩
      clear hs hS hR hA hb
      go_wp2_with fail
      refine (toEl_any u e _ HS.out.2.1 hel).mono ?_
      rintro ee w1 ⟨v', rfl, hO, hb1⟩
      have hlt0 := HS.out.2.2.1.lt
      obtain ⟨A', L', C', hv'⟩ : ∃ A' L' C', v' = .slice A' L' C' := by
        obtain ⟨b', _, h2, _⟩ := hO
        exact ⟨_, _, _, h2⟩
      subst hv'
      have hR1 : w1.rowIs w.heap.size 70 es.length f := HS.out.2.2.1.of_block (hb1.block _ hlt0)
      have hfz := hR1.frozen
      have hck := hR1.cell hlt
      have hA1 : ∀ (j : Nat) (e : List ByteArray), j < k → es[j]? = some e → OwnS (w.heap.size + 1) w1 (f j) e := fun j e hj he => (HS.out.2.2.2.1 j e hj he).below hb1
      have H1 : Hid (es[k]? = some e ∧ w1.rowIs w.heap.size 70 es.length f ∧ (∀ (j : Nat) (e : List ByteArray), j < k → es[j]? = some e → OwnS (w.heap.size + 1) w1 (f j) e) ∧ Below w.heap.size w w1 ∧ OwnS (w.heap.size + 1) w1 (.slice A' L' C') e) := ⟨HS.out.1, hR1, hA1, HS.out.2.2.2.2.trans (hb1.mono HS.out.2.2.2.2.size), hO.mono hlt0⟩
      clear HS hR1 hA1 hb1 hO
      go_wp2
      go_roundw
      case rel =>
        refine ⟨k + 1, _, by go_num, by omega, H1.out.2.1.set k _, fun j t hj ht => ?_, H1.out.2.2.2.1.setCell (Nat.le_refl _) _⟩
        by_cases e1 : j = k
        · subst e1
          rw [H1.out.1] at ht
          cases ht
          rw [if_pos rfl]
          exact H1.out.2.2.2.2.set j _
        · rw [if_neg e1]
          exact (H1.out.2.2.1 j t (by omega) ht).set k _
      case measure => simp [intOf]; omega
    · obtain rfl : k = es.length := by omega
      have HS : Hid (wr.rowIs w.heap.size 70 es.length f ∧ (∀ (j : Nat) (e : List ByteArray), j < es.length → es[j]? = some e → OwnS (w.heap.size + 1) wr (f j) e) ∧ Below w.heap.size w wr) := ⟨hR, hA, hb⟩
      clear hR hA hb
      go_wp2
      go_ret
      exact ⟨_, rfl, ⟨w.heap.size, f, Nat.le_refl _, rfl, HS.out.1, fun i e hi => HS.out.2.1 i e (List.getElem?_eq_some_iff.1 hi).1 hi⟩, HS.out.2.2⟩
set_option maxHeartbeats 1000000 in
theorem toG_any (tag : ByteArray) (v : Value) (es : List (List ByteArray)) (w : World) (h : RowE w v es) (hE : BdE 1048576 es) :
    Calls Tryd.prog 20 #[.agg #[.string tag, v]] w fun e w' => ∃ v', e = .returned (.agg #[.string tag, v']) ∧ OwnE w.heap.size w' v' es ∧ Below w.heap.size w w' := by
  obtain ⟨a, cap, rfl⟩ := h.val
  have H : Hid (RowE w (.slice a es.length cap) es ∧ BdE 1048576 es) := ⟨h, hE⟩
  clear h hE
  go_enter Tryd.func20, Tryd.ntmps20
  go_wp2_with fail
  have hb0 : Below w.heap.size w (((w.alloc (.cells #[.string tag, .slice a es.length cap] 40)).alloc (.cells #[.string ⟨#[]⟩, .slice none 0 0] 43)).alloc (.cells #[.string tag, .slice none 0 0] 43)) := (((Below.refl _ _).alloc (Nat.le_refl _) _).alloc (by simp) _).alloc (by simp; omega) _
  have h3 := three w (.cells #[.string tag, .slice a es.length cap] 40) (.cells #[.string ⟨#[]⟩, .slice none 0 0] 43) (.cells #[.string tag, .slice none 0 0] 43)
  have hs0 : (((w.alloc (.cells #[.string tag, .slice a es.length cap] 40)).alloc (.cells #[.string ⟨#[]⟩, .slice none 0 0] 43)).alloc (.cells #[.string tag, .slice none 0 0] 43)).heap.size = w.heap.size + 3 := by simp
  generalize (((w.alloc (.cells #[.string tag, .slice a es.length cap] 40)).alloc (.cells #[.string ⟨#[]⟩, .slice none 0 0] 43)).alloc (.cells #[.string tag, .slice none 0 0] 43)) = W0 at hb0 h3 hs0 ⊢
  refine (toE_any _ es W0 (H.out.1.below hb0) H.out.2).mono ?_
  rintro e w1 ⟨v', rfl, hO, hb1⟩
  obtain ⟨A', L', C', hv'⟩ : ∃ A' L' C', v' = .slice A' L' C' := by
    obtain ⟨b', _, _, h2, _⟩ := hO
    exact ⟨_, _, _, h2⟩
  subst hv'
  have f1 : w1.heap[w.heap.size + 1]? = some (.cells #[.string ⟨#[]⟩, .slice none 0 0] 43) := (hb1.block (w.heap.size + 1) (by omega)).trans h3.2.1
  have f2 : w1.heap[w.heap.size + 1 + 1]? = some (.cells #[.string tag, .slice none 0 0] 43) := (hb1.block (w.heap.size + 1 + 1) (by omega)).trans h3.2.2
  have c1 : w1.cell? ⟨w.heap.size + 1, 0, none⟩ = some (.string ⟨#[]⟩) := by simp [World.cell?, f1]
  have c2 : w1.cell? ⟨w.heap.size + 1, 1, none⟩ = some (.slice none 0 0) := by simp [World.cell?, f1]
  have c3 : w1.cell? ⟨w.heap.size + 1 + 1, 0, none⟩ = some (.string tag) := by simp [World.cell?, f2]
  have c4 : w1.cell? ⟨w.heap.size + 1 + 1, 1, none⟩ = some (.slice none 0 0) := by simp [World.cell?, f2]
  have z1 : ∀ o, w1.frozen? ⟨w.heap.size + 1, o, none⟩ = false := fun o => by simp [World.frozen?, f1]
  have z2 : ∀ o, w1.frozen? ⟨w.heap.size + 1 + 1, o, none⟩ = false := fun o => by simp [World.frozen?, f2]
  have HB : Hid (Below w.heap.size w w1 ∧ OwnE W0.heap.size w1 (.slice A' L' C') es) := ⟨hb0.trans (hb1.mono (by omega)), hO⟩
  clear f1 f2 hb0 hb1 hO h3 H
  go_wp2
  obtain ⟨HB1, b', f, hb', hv', hR', hA'⟩ := HB.out
  simp only [Value.slice.injEq] at hv'
  obtain ⟨rfl, rfl, rfl⟩ := hv'
  have q1 : ∀ {W : World} {x : Value} {i : Nat}, W.rowIs b' 70 es.length f → (W.setCell ⟨w.heap.size + 1 + 1, i, none⟩ x).rowIs b' 70 es.length f := fun h => h.setOther (show b' ≠ w.heap.size + 1 + 1 by omega) _
  have q2 : ∀ {W : World} {x : Value} {i : Nat}, W.rowIs b' 70 es.length f → (W.setCell ⟨w.heap.size + 1, i, none⟩ x).rowIs b' 70 es.length f := fun h => h.setOther (show b' ≠ w.heap.size + 1 by omega) _
  have g1 : ∀ {W : World} {x v : Value} {i : Nat} {ss : List ByteArray}, OwnS (b' + 1) W v ss → OwnS (b' + 1) (W.setCell ⟨w.heap.size + 1 + 1, i, none⟩ x) v ss := fun h => by
    obtain ⟨c, h1, h2, h3⟩ := h
    exact ⟨c, h1, h2, h3.setOther (show c ≠ w.heap.size + 1 + 1 by omega) _⟩
  have g2 : ∀ {W : World} {x v : Value} {i : Nat} {ss : List ByteArray}, OwnS (b' + 1) W v ss → OwnS (b' + 1) (W.setCell ⟨w.heap.size + 1, i, none⟩ x) v ss := fun h => by
    obtain ⟨c, h1, h2, h3⟩ := h
    exact ⟨c, h1, h2, h3.setOther (show c ≠ w.heap.size + 1 by omega) _⟩
  exact bodyPost_ret (v := .agg #[.string tag, .slice (some ⟨b', 0, none⟩) es.length es.length]) (by simp [results, Tryd.results20, go_sem, c1, c2]) rfl ⟨_, rfl, ⟨b', f, by omega, rfl, q2 (q2 (q1 hR')), fun i e hi => g2 (g2 (g1 (hA' i e hi)))⟩, ((HB1.setCell (show w.heap.size ≤ w.heap.size + 1 + 1 by omega) _).setCell (show w.heap.size ≤ w.heap.size + 1 by omega) _).setCell (show w.heap.size ≤ w.heap.size + 1 by omega) _⟩
end Go.Proofs.YthjddnhdfnhalaaDoor
