/- The measures of a line, of lines and of a paper: what they let pass is bounded. -/
import Derived.Test.YtbefefmfpenkkaaGreatDoorRowL
import Derived.Test.YtbefefmfpenkkaaGreatDoorSzS
namespace Go.Proofs.YtbefefmfpenkkaaGreatDoor
open Go.ChangeShapes Go.WideShapes Go.ChangeAt Go.RowKit
set_option maxHeartbeats 1000000 in
theorem szLn_any (l : Ln) (left : Int) (w : World) (hz : l.item.size ≤ 9223372036854775807 ∧ l.note.size ≤ 9223372036854775807) (hl : 0 ≤ left ∧ left ≤ 1048576) :
    Calls Tryz.prog 39 #[.agg #[.int .i64 l.no, .string l.item, .int .i64 l.qty, .int .i64 l.money, .string l.note], .int .i64 left] w fun e w' => ∃ r : Int, e = .returned (.int .i64 r) ∧ (r = -1 ∨ (0 ≤ r ∧ r ≤ left ∧ l.item.size ≤ left.toNat ∧ l.note.size ≤ left.toNat)) ∧ Below w.heap.size w w' := by
  obtain ⟨no, item, qty, money, note⟩ := l
  obtain ⟨hz1, hz2⟩ := hz
  dsimp only at hz1 hz2 ⊢
  by_cases h1 : left - (item.size : Int) < 0
  · go_enter Tryz.func39, Tryz.ntmps39
    go_wp2
    go_ret
    exact ⟨_, rfl, .inl rfl, (Below.refl _ _).alloc (Nat.le_refl _) _⟩
  · by_cases h2 : left - (item.size : Int) - (note.size : Int) < 0
    · go_enter Tryz.func39, Tryz.ntmps39
      go_wp2
      go_ret
      exact ⟨_, rfl, .inl rfl, (Below.refl _ _).alloc (Nat.le_refl _) _⟩
    · go_enter Tryz.func39, Tryz.ntmps39
      go_wp2
      go_ret
      exact ⟨_, rfl, .inr ⟨by omega, by omega, by omega, by omega⟩, (Below.refl _ _).alloc (Nat.le_refl _) _⟩
set_option maxHeartbeats 1000000 in
theorem szL_any (v : Value) (ls : List Ln) (left : Int) (w : World) (h : RowL w v ls) (hl : 0 ≤ left ∧ left ≤ 1048576) :
    Calls Tryz.prog 20 #[v, .int .i64 left] w fun e w' => ∃ r : Int, e = .returned (.int .i64 r) ∧ (r = -1 ∨ (0 ≤ r ∧ r ≤ left ∧ BdL left.toNat ls)) ∧ Below w.heap.size w w' := by
  have hlen := h.len
  obtain ⟨a, cap, rfl⟩ := h.val
  have H : Hid (RowL w (.slice a ls.length cap) ls) := h
  clear h
  by_cases hn : left < (ls.length : Int)
  · have hn' : left - (ls.length : Int) < 0 := by omega
    go_enter Tryz.func20, Tryz.ntmps20
    go_wp2
    go_ret
    exact ⟨_, rfl, .inl rfl, Below.refl _ _⟩
  · have hn' : ¬ left - (ls.length : Int) < 0 := by omega
    go_enter Tryz.func20, Tryz.ntmps20
    go_wp2
    go_loopw [1, 5] (fun l i wr => ∃ (k : Nat) (r : Int), l = .int .i64 r ∧ i = .int .i64 (k : Int) ∧ k ≤ ls.length ∧ 0 ≤ r ∧ r ≤ left ∧ (∀ (j : Nat) (g : Ln), j < k → ls[j]? = some g → g.item.size ≤ left.toNat ∧ g.note.size ≤ left.toNat) ∧ Below w.heap.size w wr) (fun _ i _ => ls.length - (intOf i).toNat)
    case atStart => exact ⟨0, _, rfl, rfl, by omega, by omega, by omega, fun j s h => by omega, Below.refl _ _⟩
    case round =>
      obtain ⟨k, r, rfl, rfl, hk, hr0, hr1, hA, hb⟩ := hrel
      have HA : Hid ((∀ (j : Nat) (g : Ln), j < k → ls[j]? = some g → g.item.size ≤ left.toNat ∧ g.note.size ≤ left.toNat) ∧ Below w.heap.size w wr) := ⟨hA, hb⟩
      clear hA hb
      by_cases hlt : k < ls.length
      · have hlt' : (k : Int) < (ls.length : Int) := by omega
        obtain ⟨b, o, cap', g, e, hs, ⟨q0, q1, q2, q3, q4⟩, hz⟩ := (H.out.below HA.out.2).at hlt
        simp only [Value.slice.injEq, true_and] at e
        obtain ⟨rfl, rfl⟩ := e
        have HS : Hid (ls[k]? = some g) := hs
        clear hs
        go_wp2_with fail
        refine (szLn_any g r _ hz ⟨hr0, by omega⟩).mono ?_
        rintro e w2 ⟨r2, rfl, hr2, hb2⟩
        have HB : Hid (Below w.heap.size w w2) := HA.out.2.trans (hb2.mono HA.out.2.size)
        clear hb2
        rcases hr2 with rfl | ⟨g0, g1, g2, g3⟩
        · go_wp2
          go_ret
          exact ⟨_, rfl, .inl rfl, HB.out⟩
        · have H2 : Hid (g.item.size ≤ r.toNat ∧ g.note.size ≤ r.toNat) := ⟨g2, g3⟩
          have g0' : ¬ r2 < 0 := by omega
          clear g2 g3
          go_wp2
          go_roundw
          case rel =>
            refine ⟨k + 1, _, rfl, by go_num, by omega, by omega, by omega, fun j t hj ht => ?_, HB.out⟩
            rcases Nat.lt_or_ge j k with q | q
            · exact HA.out.1 j t q ht
            · obtain rfl : j = k := by omega
              rw [HS.out] at ht
              cases ht
              have := H2.out
              exact ⟨by omega, by omega⟩
          case measure => simp [intOf]; omega
      · obtain rfl : k = ls.length := by omega
        go_wp2
        go_ret
        refine ⟨r, rfl, .inr ⟨hr0, hr1, by omega, fun j s hj => HA.out.1 j s ?_ hj⟩, HA.out.2⟩
        exact (List.getElem?_eq_some_iff.1 hj).1
set_option maxHeartbeats 1000000 in
theorem szP_any (p : Pap) (vn vl : Value) (left : Int) (w : World) (h : PapR w vn vl p) (hl : 0 ≤ left ∧ left ≤ 1048576) :
    Calls Tryz.prog 6 #[.agg #[.int .i64 p.kind, .string p.ref, .string p.other, .int .i64 p.day, vn, vl], .int .i64 left] w fun e w' => ∃ r : Int, e = .returned (.int .i64 r) ∧ (r = -1 ∨ (0 ≤ r ∧ r ≤ left ∧ BdP left.toNat p)) ∧ Below w.heap.size w w' := by
  obtain ⟨kind, ref, other, day, notes, lines⟩ := p
  have hz1 : ref.size ≤ 9223372036854775807 := h.rz
  have hz2 : other.size ≤ 9223372036854775807 := h.oz
  obtain ⟨a, cap, rfl⟩ := h.ns.val
  obtain ⟨a', cap', rfl⟩ := h.ls.val
  dsimp only at h ⊢
  have b0 : Below w.heap.size w (w.alloc (.cells #[.int .i64 kind, .string ref, .string other, .int .i64 day, .slice a notes.length cap, .slice a' lines.length cap'] 25)) := (Below.refl _ _).alloc (Nat.le_refl _) _
  have H : Hid (PapR (w.alloc (.cells #[.int .i64 kind, .string ref, .string other, .int .i64 day, .slice a notes.length cap, .slice a' lines.length cap'] 25)) (.slice a notes.length cap) (.slice a' lines.length cap') ⟨kind, ref, other, day, notes, lines⟩) := h.below b0
  clear h
  by_cases h1 : left - (ref.size : Int) < 0
  · go_enter Tryz.func6, Tryz.ntmps6
    go_wp2
    go_ret
    exact ⟨_, rfl, .inl rfl, b0⟩
  · by_cases h2 : left - (ref.size : Int) - (other.size : Int) < 0
    · go_enter Tryz.func6, Tryz.ntmps6
      go_wp2
      go_ret
      exact ⟨_, rfl, .inl rfl, b0⟩
    · go_enter Tryz.func6, Tryz.ntmps6
      go_wp2_with fail
      refine (szS_any _ notes (left - (ref.size : Int) - (other.size : Int)) _ H.out.ns ⟨by omega, by omega⟩).mono ?_
      rintro e w1 ⟨r, rfl, hr, hb⟩
      have HB : Hid (Below w.heap.size w w1 ∧ RowL w1 (.slice a' lines.length cap') lines) := ⟨b0.trans (hb.mono (by simp)), H.out.ls.below hb⟩
      have c5 : w1.cell? ⟨w.heap.size, 5, none⟩ = some (.slice a' lines.length cap') := (hb.cell (p := ⟨w.heap.size, 5, none⟩) (by simp)).trans (by simp [go_sem])
      clear hb
      rcases hr with rfl | ⟨g0, g1, g2⟩
      · go_wp2
        go_ret
        exact ⟨_, rfl, .inl rfl, HB.out.1⟩
      · have g0' : ¬ r < 0 := by omega
        have H2 : Hid (BdS (left - (ref.size : Int) - (other.size : Int)).toNat notes) := g2
        clear g2
        go_wp2_with fail
        refine (szL_any _ lines r _ HB.out.2 ⟨g0, by omega⟩).mono ?_
        rintro e w2 ⟨r2, rfl, hr2, hb2⟩
        have HC : Hid (Below w.heap.size w w2) := HB.out.1.trans (hb2.mono HB.out.1.size)
        clear hb2
        rcases hr2 with rfl | ⟨k0, k1, k2⟩
        · go_wp2
          go_ret
          exact ⟨_, rfl, .inl rfl, HC.out⟩
        · have k0' : ¬ r2 < 0 := by omega
          have H3 : Hid (BdL r.toNat lines) := k2
          clear k2
          go_wp2
          go_ret
          exact ⟨_, rfl, .inr ⟨by omega, by omega, show ref.size ≤ left.toNat by omega, show other.size ≤ left.toNat by omega, H2.out.mono (by omega), H3.out.mono (by omega)⟩, HC.out⟩
end Go.Proofs.YtbefefmfpenkkaaGreatDoor
