/- The measures of papers and of a parcel: what they let pass is bounded. -/
import Derived.Test.YtballllmenhghaaRowPs
import Derived.Test.YtballllmenhghaaSzL
namespace Go.Proofs.Ytballllmenhghaa
open Go.ChangeShapes Go.WideShapes Go.ChangeAt Go.RowKit
set_option maxHeartbeats 1000000 in
theorem szPs_any (v : Value) (ps : List Pap) (left : Int) (w : World) (h : RowPs w v ps) (hl : 0 ≤ left ∧ left ≤ 1048576) :
    Calls Try.prog 9 #[v, .int .i64 left] w fun e w' => ∃ r : Int, e = .returned (.int .i64 r) ∧ (r = -1 ∨ (0 ≤ r ∧ r ≤ left ∧ BdPs left.toNat ps)) ∧ Below w.heap.size w w' := by
  have hlen := h.len
  obtain ⟨a, cap, rfl⟩ := h.val
  have H : Hid (RowPs w (.slice a ps.length cap) ps) := h
  clear h
  by_cases hn : left < (ps.length : Int)
  · have hn' : left - (ps.length : Int) < 0 := by omega
    go_enter Try.func9, Try.ntmps9
    go_wp2
    go_ret
    exact ⟨_, rfl, .inl rfl, Below.refl _ _⟩
  · have hn' : ¬ left - (ps.length : Int) < 0 := by omega
    go_enter Try.func9, Try.ntmps9
    go_wp2
    go_loopw [1, 5] (fun l i wr => ∃ (k : Nat) (r : Int), l = .int .i64 r ∧ i = .int .i64 (k : Int) ∧ k ≤ ps.length ∧ 0 ≤ r ∧ r ≤ left ∧ (∀ (j : Nat) (g : Pap), j < k → ps[j]? = some g → BdP left.toNat g) ∧ Below w.heap.size w wr) (fun _ i _ => ps.length - (intOf i).toNat)
    case atStart => exact ⟨0, _, rfl, rfl, by omega, by omega, by omega, fun j s h => by omega, Below.refl _ _⟩
    case round =>
      obtain ⟨k, r, rfl, rfl, hk, hr0, hr1, hA, hb⟩ := hrel
      have HA : Hid ((∀ (j : Nat) (g : Pap), j < k → ps[j]? = some g → BdP left.toNat g) ∧ Below w.heap.size w wr) := ⟨hA, hb⟩
      clear hA hb
      by_cases hlt : k < ps.length
      · have hlt' : (k : Int) < (ps.length : Int) := by omega
        obtain ⟨b, o, cap', g, vn, vl, e, hs, ⟨q0, q1, q2, q3, q4, q5⟩, hR⟩ := (H.out.below HA.out.2).at hlt
        simp only [Value.slice.injEq, true_and] at e
        obtain ⟨rfl, rfl⟩ := e
        obtain ⟨n0, c0, rfl⟩ := hR.ns.val
        obtain ⟨n1, c1, rfl⟩ := hR.ls.val
        have HS : Hid (ps[k]? = some g ∧ PapR wr (.slice n0 g.notes.length c0) (.slice n1 g.lines.length c1) g) := ⟨hs, hR⟩
        clear hs hR
        go_wp2_with fail
        refine (szP_any g _ _ r _ HS.out.2 ⟨hr0, by omega⟩).mono ?_
        rintro e w2 ⟨r2, rfl, hr2, hb2⟩
        have HB : Hid (Below w.heap.size w w2) := HA.out.2.trans (hb2.mono HA.out.2.size)
        clear hb2
        rcases hr2 with rfl | ⟨g0, g1, g2⟩
        · go_wp2
          go_ret
          exact ⟨_, rfl, .inl rfl, HB.out⟩
        · have H2 : Hid (BdP r.toNat g) := g2
          have g0' : ¬ r2 < 0 := by omega
          clear g2
          go_wp2
          go_roundw
          case rel =>
            refine ⟨k + 1, _, rfl, by go_num, by omega, by omega, by omega, fun j t hj ht => ?_, HB.out⟩
            rcases Nat.lt_or_ge j k with q | q
            · exact HA.out.1 j t q ht
            · obtain rfl : j = k := by omega
              rw [HS.out.1] at ht
              cases ht
              exact H2.out.mono (by omega)
          case measure => simp [intOf]; omega
      · obtain rfl : k = ps.length := by omega
        go_wp2
        go_ret
        refine ⟨r, rfl, .inr ⟨hr0, hr1, by omega, fun j s hj => HA.out.1 j s ?_ hj⟩, HA.out.2⟩
        exact (List.getElem?_eq_some_iff.1 hj).1
set_option maxHeartbeats 1000000 in
theorem szPc_any (p : Pcl) (v : Value) (left : Int) (w : World) (h : PclR w v p) (hl : 0 ≤ left ∧ left ≤ 1048576) :
    Calls Try.prog 4 #[.agg #[.string p.frm, .string p.to, .int .i64 p.num, v], .int .i64 left] w fun e w' => ∃ r : Int, e = .returned (.int .i64 r) ∧ (r = -1 ∨ (0 ≤ r ∧ r ≤ left ∧ BdPc left.toNat p)) ∧ Below w.heap.size w w' := by
  obtain ⟨frm, to, num, ps⟩ := p
  have hz1 : frm.size ≤ 9223372036854775807 := h.fz
  have hz2 : to.size ≤ 9223372036854775807 := h.tz
  obtain ⟨a, cap, rfl⟩ := h.ps.val
  dsimp only at h ⊢
  have b0 : Below w.heap.size w (w.alloc (.cells #[.string frm, .string to, .int .i64 num, .slice a ps.length cap] 24)) := (Below.refl _ _).alloc (Nat.le_refl _) _
  have H : Hid (RowPs (w.alloc (.cells #[.string frm, .string to, .int .i64 num, .slice a ps.length cap] 24)) (.slice a ps.length cap) ps) := h.ps.below b0
  clear h
  by_cases h1 : left - (frm.size : Int) < 0
  · go_enter Try.func4, Try.ntmps4
    go_wp2
    go_ret
    exact ⟨_, rfl, .inl rfl, b0⟩
  · by_cases h2 : left - (frm.size : Int) - (to.size : Int) < 0
    · go_enter Try.func4, Try.ntmps4
      go_wp2
      go_ret
      exact ⟨_, rfl, .inl rfl, b0⟩
    · go_enter Try.func4, Try.ntmps4
      go_wp2_with fail
      refine (szPs_any _ ps (left - (frm.size : Int) - (to.size : Int)) _ H.out ⟨by omega, by omega⟩).mono ?_
      rintro e w1 ⟨r, rfl, hr, hb⟩
      have HB : Hid (Below w.heap.size w w1) := b0.trans (hb.mono (by simp))
      clear hb
      rcases hr with rfl | ⟨g0, g1, g2⟩
      · go_wp2
        go_ret
        exact ⟨_, rfl, .inl rfl, HB.out⟩
      · have g0' : ¬ r < 0 := by omega
        have H2 : Hid (BdPs (left - (frm.size : Int) - (to.size : Int)).toNat ps) := g2
        clear g2
        go_wp2
        go_ret
        exact ⟨_, rfl, .inr ⟨by omega, by omega, show frm.size ≤ left.toNat by omega, show to.size ≤ left.toNat by omega, H2.out.mono (by omega)⟩, HB.out⟩
end Go.Proofs.Ytballllmenhghaa
