/- What it is that a value is a list of segments in a world; measure, copy and comparison of such lists. -/
import Derived.Test.YthjddnhdfnhalaaDoorRowG
import Derived.Test.YthjddnhdfnhalaaDoorInfoSg
import Derived.Test.YthjddnhdfnhalaaDoorSzRow
import Derived.Test.YthjddnhdfnhalaaDoorToRow
import Derived.Test.YthjddnhdfnhalaaDoorEqRow
import Derived.Test.YthjddnhdfnhalaaDoorEqGs
import Derived.Deep.RegionHeld3
namespace Go.Proofs.YthjddnhdfnhalaaDoor
open Go.ChangeShapes Go.WideShapes Go.ChangeAt Go.RowKit
set_option maxHeartbeats 1000000 in
theorem szGs_any (v : Value) (gs : List Seg) (left : Int) (w : World) (h : RowG w v gs) (hl : 0 ≤ left ∧ left ≤ 1048576) :
    Calls Tryd.prog 4 #[v, .int .i64 left] w fun e w' => ∃ r : Int, e = .returned (.int .i64 r) ∧ (r = -1 ∨ (0 ≤ r ∧ r ≤ left ∧ BdG left.toNat gs)) ∧ Below w.heap.size w w' := by
  have hlen := h.len
  obtain ⟨a, cap, rfl⟩ := h.val
  have H : Hid (RowG w (.slice a gs.length cap) gs) := h
  clear h
  by_cases hn : left < (gs.length : Int)
  · have hn' : left - (gs.length : Int) < 0 := by omega
    go_enter Tryd.func4, Tryd.ntmps4
    go_wp2
    go_ret
    exact ⟨_, rfl, .inl rfl, Below.refl _ _⟩
  · have hn' : ¬ left - (gs.length : Int) < 0 := by omega
    go_enter Tryd.func4, Tryd.ntmps4
    go_wp2
    go_loopw [1, 5] (fun l i wr => ∃ (k : Nat) (r : Int), l = .int .i64 r ∧ i = .int .i64 (k : Int) ∧ k ≤ gs.length ∧ 0 ≤ r ∧ r ≤ left ∧ (∀ (j : Nat) (g : Seg), j < k → gs[j]? = some g → g.1.size ≤ left.toNat ∧ BdE left.toNat g.2) ∧ Below w.heap.size w wr) (fun _ i _ => gs.length - (intOf i).toNat)
    case atStart => exact ⟨0, _, rfl, rfl, by omega, by omega, by omega, fun j s h => by omega, Below.refl _ _⟩
    case round =>
      obtain ⟨k, r, rfl, rfl, hk, hr0, hr1, hA, hb⟩ := hrel
      have HA : Hid ((∀ (j : Nat) (g : Seg), j < k → gs[j]? = some g → g.1.size ≤ left.toNat ∧ BdE left.toNat g.2) ∧ Below w.heap.size w wr) := ⟨hA, hb⟩
      clear hA hb
      by_cases hlt : k < gs.length
      · have hlt' : (k : Int) < (gs.length : Int) := by omega
        obtain ⟨b, o, cap', g, u, e, hs, hc, hc2, hS, hsz⟩ := (H.out.below HA.out.2).at hlt
        simp only [Value.slice.injEq, true_and] at e
        obtain ⟨rfl, rfl⟩ := e
        obtain ⟨a2, cap2, rfl⟩ := hS.val
        have HS : Hid (gs[k]? = some g ∧ RowE wr (.slice a2 g.2.length cap2) g.2) := ⟨hs, hS⟩
        clear hs hS
        go_wp2_with fail
        refine (szG_any g.1 _ g.2 r _ hsz HS.out.2 ⟨hr0, by omega⟩).mono ?_
        rintro e w2 ⟨r2, rfl, hr2, hb2⟩
        have HB : Hid (Below w.heap.size w w2) := HA.out.2.trans (hb2.mono HA.out.2.size)
        clear hb2
        rcases hr2 with rfl | ⟨g0, g1, g2, g3⟩
        · go_wp2
          go_ret
          exact ⟨_, rfl, .inl rfl, HB.out⟩
        · have H2 : Hid (BdE r.toNat g.2 ∧ g.1.size ≤ r.toNat) := ⟨g3, g2⟩
          have g0' : ¬ r2 < 0 := by omega
          clear g2 g3
          go_wp2
          go_roundw
          case rel =>
            refine ⟨k + 1, _, rfl, by go_num, by omega, by omega, by omega, fun j t hj ht => ?_, HB.out⟩
            rcases Nat.lt_or_ge j k with q | q
            · exact HA.out.1 j t q ht
            · obtain rfl : j = k := by omega
              rw [HS.out.1] at ht
              cases ht
              have := H2.out.2
              exact ⟨by omega, Nat.le_trans H2.out.1.1 (by omega), fun i e hi => (H2.out.1.2 i e hi).mono (by omega)⟩
          case measure => simp [intOf]; omega
      · obtain rfl : k = gs.length := by omega
        go_wp2
        go_ret
        refine ⟨r, rfl, .inr ⟨hr0, hr1, by omega, fun j s hj => HA.out.1 j s ?_ hj⟩, HA.out.2⟩
        exact (List.getElem?_eq_some_iff.1 hj).1
theorem OwnE.set {B : Nat} {W : World} {v : Value} {es : List (List ByteArray)} (h : OwnE (B + 1) W v es) (i : Nat) (x : Value) : OwnE (B + 1) (W.setCell ⟨B, i, none⟩ x) v es := by
  obtain ⟨b, f, h1, h2, h3, h4⟩ := h
  refine ⟨b, f, h1, h2, h3.setOther (show b ≠ B by omega) x, fun j e hj => ?_⟩
  obtain ⟨c, g1, g2, g3⟩ := h4 j e hj
  exact ⟨c, g1, g2, g3.setOther (show c ≠ B by omega) x⟩
theorem OwnE.mono {B C : Nat} {W : World} {v : Value} {es : List (List ByteArray)} (h : OwnE B W v es) (hC : C ≤ B) : OwnE C W v es := by
  obtain ⟨b, f, h1, h2, h3, h4⟩ := h
  exact ⟨b, f, by omega, h2, h3, h4⟩
/-- A list of segments in blocks of its own, not below B. -/
def OwnG (B : Nat) (W : World) (v : Value) (gs : List Seg) : Prop := ∃ (b : Nat) (f : Nat → Value), B ≤ b ∧ v = .slice (some ⟨b, 0, none⟩) gs.length gs.length ∧ W.rowIs b 43 (gs.length * 2) f ∧ ∀ (i : Nat) (g : Seg), gs[i]? = some g → f (i * 2) = .string g.1 ∧ OwnE (b + 1) W (f (i * 2 + 1)) g.2
theorem OwnG.row {B : Nat} {W : World} {v : Value} {gs : List Seg} (h : OwnG B W v gs) (hG : BdG 1048576 gs) : RowG W v gs := by
  obtain ⟨b, f, h1, h2, h3, h4⟩ := h
  have hl := hG.1
  refine ⟨⟨_, _, h2, fun _ => ⟨b, 0, rfl, fun i g hi => ?_⟩⟩, by omega, fun i g hi => Nat.le_trans (hG.2 i g hi).1 (by omega)⟩
  have hlt := (List.getElem?_eq_some_iff.1 hi).1
  obtain ⟨e1, e2⟩ := h4 i g hi
  have c1 := h3.cell (i := i * 2) (by omega)
  have c2 := h3.cell (i := i * 2 + 1) (by omega)
  rw [e1] at c1
  rw [Nat.zero_add]
  exact ⟨c1, _, c2, e2.row (hG.2 i g hi).2⟩
theorem run_make_sg (n : Nat) (hn : n ≤ 1048576) (w : World) : (Instr.makeSlice 30 (.int .i64 (n : Int)) (.int .i64 (n : Int))).run Tryd.prog w = .ok (.slice (some ⟨w.heap.size, 0, none⟩) n n) (w.alloc (.cells (madeCells #[.string ⟨#[]⟩, .slice none 0 0] (n * 2)) 43)) := by
  obtain ⟨i0, hi, hz0, hz1, hz2⟩ := info_parts infoSg
  have h := run_make (P := Tryd.prog) w 30 43 i0 (.agg #[.string ⟨#[]⟩, .slice none 0 0]) Tryd.underlying30 hi hz0 .i64 .i64 (n : Int) (n : Int) (by omega) (by omega) (by rw [hz2]; omega) (by omega)
  rw [hz1] at h
  simpa [Value.cells] using h
theorem rowIs_any (w : World) (c : Array Value) (t n : Nat) (hn : c.size = n) : ∃ f, (w.alloc (.cells c t)).rowIs w.heap.size t n f := by
  subst hn
  exact ⟨fun i => c[i]?.getD undef, World.rowIs_alloc w c t _ (fun i hi => by simp [hi])⟩
set_option maxHeartbeats 1000000 in
theorem toGs_any (v : Value) (gs : List Seg) (w : World) (h : RowG w v gs) (hG : BdG 1048576 gs) :
    Calls Tryd.prog 6 #[v] w fun e w' => ∃ v', e = .returned v' ∧ OwnG w.heap.size w' v' gs ∧ Below w.heap.size w w' := by
  have hlen := hG.1
  obtain ⟨a, cap, rfl⟩ := h.val
  have H : Hid (RowG w (.slice a gs.length cap) gs ∧ BdG 1048576 gs) := ⟨h, hG⟩
  clear h hG
  obtain ⟨M, hM, hMs⟩ : ∃ M : Array Value, madeCells #[.string ⟨#[]⟩, .slice none 0 0] (gs.length * 2) = M ∧ M.size = gs.length * 2 := ⟨_, rfl, size_madeCells _ _⟩
  have hmk := run_make_sg gs.length hlen
  rw [hM] at hmk
  obtain ⟨f0, hf0⟩ := rowIs_any w M 43 (gs.length * 2) hMs
  have HF0 : Hid ((w.alloc (.cells M 43)).rowIs w.heap.size 43 (gs.length * 2) f0) := hf0
  clear hM hMs hf0
  go_enter Tryd.func6, Tryd.ntmps6
  go_wp2
  go_loopw [4] (fun i wr => ∃ (k : Nat) (f : Nat → Value), i = .int .i64 (k : Int) ∧ k ≤ gs.length ∧ wr.rowIs w.heap.size 43 (gs.length * 2) f ∧ (∀ (j : Nat) (g : Seg), j < k → gs[j]? = some g → f (j * 2) = .string g.1 ∧ OwnE (w.heap.size + 1) wr (f (j * 2 + 1)) g.2) ∧ Below w.heap.size w wr) (fun i _ => gs.length - (intOf i).toNat)
  case atStart => exact ⟨0, f0, rfl, by omega, HF0.out, fun j e hj => by omega, (Below.refl _ _).alloc (Nat.le_refl _) _⟩
  case round =>
    obtain ⟨k, f, rfl, hk, hR, hA, hb⟩ := hrel
    by_cases hlt : k < gs.length
    · have hlt' : (k : Int) < (gs.length : Int) := by omega
      obtain ⟨b, o, cap', g, u, ee, hs, hc, hc2, hS, hsz⟩ := (H.out.1.below hb).at hlt
      simp only [Value.slice.injEq, true_and] at ee
      obtain ⟨rfl, rfl⟩ := ee
      obtain ⟨a2, cap2, rfl⟩ := hS.val
      have HS : Hid (gs[k]? = some g ∧ RowE wr (.slice a2 g.2.length cap2) g.2 ∧ wr.rowIs w.heap.size 43 (gs.length * 2) f ∧ (∀ (j : Nat) (g : Seg), j < k → gs[j]? = some g → f (j * 2) = .string g.1 ∧ OwnE (w.heap.size + 1) wr (f (j * 2 + 1)) g.2) ∧ Below w.heap.size w wr) := ⟨hs, hS, hR, hA, hb⟩
      clear hs hS hR hA hb
      go_wp2_with fail
      refine (toG_any g.1 _ g.2 _ HS.out.2.1 (H.out.2.2 k g HS.out.1).2).mono ?_
      rintro ee w1 ⟨v', rfl, hO, hb1⟩
      have hlt0 := HS.out.2.2.1.lt
      obtain ⟨A', L', C', hv'⟩ : ∃ A' L' C', v' = .slice A' L' C' := by
        obtain ⟨b', _, _, h2, _⟩ := hO
        exact ⟨_, _, _, h2⟩
      subst hv'
      have hR1 : w1.rowIs w.heap.size 43 (gs.length * 2) f := HS.out.2.2.1.of_block (hb1.block _ hlt0)
      have hfz := hR1.frozen
      have hck := hR1.cell (i := k * 2) (by omega)
      have hck2 := hR1.cell (i := k * 2 + 1) (by omega)
      have hA1 : ∀ (j : Nat) (g : Seg), j < k → gs[j]? = some g → f (j * 2) = .string g.1 ∧ OwnE (w.heap.size + 1) w1 (f (j * 2 + 1)) g.2 := fun j e hj he => ⟨(HS.out.2.2.2.1 j e hj he).1, (HS.out.2.2.2.1 j e hj he).2.below hb1⟩
      have H1 : Hid (gs[k]? = some g ∧ w1.rowIs w.heap.size 43 (gs.length * 2) f ∧ (∀ (j : Nat) (g : Seg), j < k → gs[j]? = some g → f (j * 2) = .string g.1 ∧ OwnE (w.heap.size + 1) w1 (f (j * 2 + 1)) g.2) ∧ Below w.heap.size w w1 ∧ OwnE (w.heap.size + 1) w1 (.slice A' L' C') g.2) := ⟨HS.out.1, hR1, hA1, HS.out.2.2.2.2.trans (hb1.mono HS.out.2.2.2.2.size), hO.mono hlt0⟩
      clear HS hR1 hA1 hb1 hO
      go_wp2
      go_roundw
      case rel =>
        refine ⟨k + 1, _, by go_num, by omega, (H1.out.2.1.set (k * 2) (.string g.1)).set (k * 2 + 1) (.slice A' L' C'), fun j t hj ht => ?_, (H1.out.2.2.2.1.setCell (Nat.le_refl _) _).setCell (Nat.le_refl _) _⟩
        by_cases e1 : j = k
        · subst e1
          rw [H1.out.1] at ht
          cases ht
          refine ⟨?_, ?_⟩
          · rw [if_neg (by omega), if_pos rfl]
          · rw [if_pos rfl]
            exact (H1.out.2.2.2.2.set (j * 2) _).set (j * 2 + 1) _
        · obtain ⟨q1, q2⟩ := H1.out.2.2.1 j t (by omega) ht
          refine ⟨?_, ?_⟩
          · rw [if_neg (by omega), if_neg (by omega)]
            exact q1
          · rw [if_neg (by omega), if_neg (by omega)]
            exact (q2.set (k * 2) _).set (k * 2 + 1) _
      case measure => simp [intOf]; omega
    · obtain rfl : k = gs.length := by omega
      have HS : Hid (wr.rowIs w.heap.size 43 (gs.length * 2) f ∧ (∀ (j : Nat) (g : Seg), j < gs.length → gs[j]? = some g → f (j * 2) = .string g.1 ∧ OwnE (w.heap.size + 1) wr (f (j * 2 + 1)) g.2) ∧ Below w.heap.size w wr) := ⟨hR, hA, hb⟩
      clear hR hA hb
      go_wp2
      go_ret
      exact ⟨_, rfl, ⟨w.heap.size, f, Nat.le_refl _, rfl, HS.out.1, fun i e hi => HS.out.2.1 i e (List.getElem?_eq_some_iff.1 hi).1 hi⟩, HS.out.2.2⟩
end Go.Proofs.YthjddnhdfnhalaaDoor
