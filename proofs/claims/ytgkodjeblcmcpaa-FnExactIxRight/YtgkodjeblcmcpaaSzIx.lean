/- The measures of messages, bundles and an interchange: what they let pass is bounded. -/
import Derived.Test.YtgkodjeblcmcpaaRowIx
import Derived.Test.YtgkodjeblcmcpaaDeepG
namespace Go.Proofs.Ytgkodjeblcmcpaa
open Go.ChangeShapes Go.WideShapes Go.ChangeAt Go.RowKit
set_option maxHeartbeats 1000000 in
theorem szM_any (r : Msg) (u : Value) (left : Int) (w : World) (h : RM w u r) (hl : 0 ≤ left ∧ left ≤ 1048576) :
    Calls Try.prog 34 #[.agg #[.int .i64 r.num, u], .int .i64 left] w fun e w' => ∃ q : Int, e = .returned (.int .i64 q) ∧ (q = -1 ∨ (0 ≤ q ∧ q ≤ left ∧ BdM left.toNat r)) ∧ Below w.heap.size w w' := by
  obtain ⟨num, body⟩ := r
  obtain ⟨a, cap, rfl⟩ := h.ls.val
  dsimp only at h ⊢
  have b0 : Below w.heap.size w (w.alloc (.cells #[.int .i64 num, (.slice a body.length cap)] 76)) := (Below.refl _ _).alloc (Nat.le_refl _) _
  have H : Hid (RowG (w.alloc (.cells #[.int .i64 num, (.slice a body.length cap)] 76)) (.slice a body.length cap) body) := h.ls.below b0
  clear h
  go_enter Try.func34, Try.ntmps34
  go_wp2_with fail
  refine (szGs_any _ body (left) _ H.out ⟨by omega, by omega⟩).mono ?_
  rintro e w1 ⟨q, rfl, hr, hb⟩
  have HB : Hid (Below w.heap.size w w1) := b0.trans (hb.mono (by simp))
  clear hb
  rcases hr with rfl | ⟨g0, g1, g2⟩
  · go_wp2
    go_ret
    exact ⟨_, rfl, .inl rfl, HB.out⟩
  · have g0' : ¬ q < 0 := by omega
    have H2 : Hid (BdG (left).toNat body) := g2
    clear g2
    go_wp2
    go_ret
    exact ⟨_, rfl, .inr ⟨by omega, by omega, H2.out.mono (by omega)⟩, HB.out⟩
set_option maxHeartbeats 1000000 in
theorem szsM_any (v : Value) (rs : List Msg) (left : Int) (w : World) (h : RowM w v rs) (hl : 0 ≤ left ∧ left ≤ 1048576) :
    Calls Try.prog 27 #[v, .int .i64 left] w fun e w' => ∃ q : Int, e = .returned (.int .i64 q) ∧ (q = -1 ∨ (0 ≤ q ∧ q ≤ left ∧ BdsM left.toNat rs)) ∧ Below w.heap.size w w' := by
  have hlen := h.len
  obtain ⟨a, cap, rfl⟩ := h.val
  have H : Hid (RowM w (.slice a rs.length cap) rs) := h
  clear h
  by_cases hn : left < (rs.length : Int)
  · have hn' : left - (rs.length : Int) < 0 := by omega
    go_enter Try.func27, Try.ntmps27
    go_wp2
    go_ret
    exact ⟨_, rfl, .inl rfl, Below.refl _ _⟩
  · have hn' : ¬ left - (rs.length : Int) < 0 := by omega
    go_enter Try.func27, Try.ntmps27
    go_wp2
    go_loopw [1, 5] (fun l i wr => ∃ (k : Nat) (r : Int), l = .int .i64 r ∧ i = .int .i64 (k : Int) ∧ k ≤ rs.length ∧ 0 ≤ r ∧ r ≤ left ∧ (∀ (j : Nat) (g : Msg), j < k → rs[j]? = some g → BdM left.toNat g) ∧ Below w.heap.size w wr) (fun _ i _ => rs.length - (intOf i).toNat)
    case atStart => exact ⟨0, _, rfl, rfl, by omega, by omega, by omega, fun j s h => by omega, Below.refl _ _⟩
    case round =>
      obtain ⟨k, r, rfl, rfl, hk, hr0, hr1, hA, hb⟩ := hrel
      have HA : Hid ((∀ (j : Nat) (g : Msg), j < k → rs[j]? = some g → BdM left.toNat g) ∧ Below w.heap.size w wr) := ⟨hA, hb⟩
      clear hA hb
      by_cases hlt : k < rs.length
      · have hlt' : (k : Int) < (rs.length : Int) := by omega
        obtain ⟨b, o, cap', g, u, e, hs, ⟨q0, q1⟩, hR⟩ := (H.out.below HA.out.2).at hlt
        simp only [Value.slice.injEq, true_and] at e
        obtain ⟨rfl, rfl⟩ := e
        obtain ⟨n0, c0, rfl⟩ := hR.ls.val
        have HS : Hid (rs[k]? = some g ∧ RM wr (.slice n0 g.body.length c0) g) := ⟨hs, hR⟩
        clear hs hR
        go_wp2_with fail
        refine (szM_any g _ r _ HS.out.2 ⟨hr0, by omega⟩).mono ?_
        rintro e w2 ⟨r2, rfl, hr2, hb2⟩
        have HB : Hid (Below w.heap.size w w2) := HA.out.2.trans (hb2.mono HA.out.2.size)
        clear hb2
        rcases hr2 with rfl | ⟨g0, g1, g2⟩
        · go_wp2
          go_ret
          exact ⟨_, rfl, .inl rfl, HB.out⟩
        · have H2 : Hid (BdM r.toNat g) := g2
          have g0' : ¬ r2 < 0 := by omega
          clear g2
          go_wp2
          go_roundw
          case rel =>
            refine ⟨k + 1, _, rfl, by go_num, by omega, by omega, by omega, fun j t hj ht => ?_, HB.out⟩
            rcases Nat.lt_or_ge j k with q | q
            · exact HA.out.1 j t q ht
            · obtain rfl : j = k := by omega
              rw [HS.out.1] at ht
              cases ht
              exact H2.out.mono (by omega)
          case measure => simp [intOf]; omega
      · obtain rfl : k = rs.length := by omega
        go_wp2
        go_ret
        refine ⟨r, rfl, .inr ⟨hr0, hr1, by omega, fun j s hj => HA.out.1 j s ?_ hj⟩, HA.out.2⟩
        exact (List.getElem?_eq_some_iff.1 hj).1
set_option maxHeartbeats 1000000 in
theorem szB_any (r : Bun) (u : Value) (left : Int) (w : World) (h : RB w u r) (hl : 0 ≤ left ∧ left ≤ 1048576) :
    Calls Try.prog 18 #[.agg #[.int .i64 r.kind, .int .i64 r.num, u], .int .i64 left] w fun e w' => ∃ q : Int, e = .returned (.int .i64 q) ∧ (q = -1 ∨ (0 ≤ q ∧ q ≤ left ∧ BdB left.toNat r)) ∧ Below w.heap.size w w' := by
  obtain ⟨kind, num, msgs⟩ := r
  obtain ⟨a, cap, rfl⟩ := h.ls.val
  dsimp only at h ⊢
  have b0 : Below w.heap.size w (w.alloc (.cells #[.int .i64 kind, .int .i64 num, (.slice a msgs.length cap)] 57)) := (Below.refl _ _).alloc (Nat.le_refl _) _
  have H : Hid (RowM (w.alloc (.cells #[.int .i64 kind, .int .i64 num, (.slice a msgs.length cap)] 57)) (.slice a msgs.length cap) msgs) := h.ls.below b0
  clear h
  go_enter Try.func18, Try.ntmps18
  go_wp2_with fail
  refine (szsM_any _ msgs (left) _ H.out ⟨by omega, by omega⟩).mono ?_
  rintro e w1 ⟨q, rfl, hr, hb⟩
  have HB : Hid (Below w.heap.size w w1) := b0.trans (hb.mono (by simp))
  clear hb
  rcases hr with rfl | ⟨g0, g1, g2⟩
  · go_wp2
    go_ret
    exact ⟨_, rfl, .inl rfl, HB.out⟩
  · have g0' : ¬ q < 0 := by omega
    have H2 : Hid (BdsM (left).toNat msgs) := g2
    clear g2
    go_wp2
    go_ret
    exact ⟨_, rfl, .inr ⟨by omega, by omega, H2.out.mono (by omega)⟩, HB.out⟩
set_option maxHeartbeats 1000000 in
theorem szsB_any (v : Value) (rs : List Bun) (left : Int) (w : World) (h : RowB w v rs) (hl : 0 ≤ left ∧ left ≤ 1048576) :
    Calls Try.prog 9 #[v, .int .i64 left] w fun e w' => ∃ q : Int, e = .returned (.int .i64 q) ∧ (q = -1 ∨ (0 ≤ q ∧ q ≤ left ∧ BdsB left.toNat rs)) ∧ Below w.heap.size w w' := by
  have hlen := h.len
  obtain ⟨a, cap, rfl⟩ := h.val
  have H : Hid (RowB w (.slice a rs.length cap) rs) := h
  clear h
  by_cases hn : left < (rs.length : Int)
  · have hn' : left - (rs.length : Int) < 0 := by omega
    go_enter Try.func9, Try.ntmps9
    go_wp2
    go_ret
    exact ⟨_, rfl, .inl rfl, Below.refl _ _⟩
  · have hn' : ¬ left - (rs.length : Int) < 0 := by omega
    go_enter Try.func9, Try.ntmps9
    go_wp2
    go_loopw [1, 5] (fun l i wr => ∃ (k : Nat) (r : Int), l = .int .i64 r ∧ i = .int .i64 (k : Int) ∧ k ≤ rs.length ∧ 0 ≤ r ∧ r ≤ left ∧ (∀ (j : Nat) (g : Bun), j < k → rs[j]? = some g → BdB left.toNat g) ∧ Below w.heap.size w wr) (fun _ i _ => rs.length - (intOf i).toNat)
    case atStart => exact ⟨0, _, rfl, rfl, by omega, by omega, by omega, fun j s h => by omega, Below.refl _ _⟩
    case round =>
      obtain ⟨k, r, rfl, rfl, hk, hr0, hr1, hA, hb⟩ := hrel
      have HA : Hid ((∀ (j : Nat) (g : Bun), j < k → rs[j]? = some g → BdB left.toNat g) ∧ Below w.heap.size w wr) := ⟨hA, hb⟩
      clear hA hb
      by_cases hlt : k < rs.length
      · have hlt' : (k : Int) < (rs.length : Int) := by omega
        obtain ⟨b, o, cap', g, u, e, hs, ⟨q0, q1, q2⟩, hR⟩ := (H.out.below HA.out.2).at hlt
        simp only [Value.slice.injEq, true_and] at e
        obtain ⟨rfl, rfl⟩ := e
        obtain ⟨n0, c0, rfl⟩ := hR.ls.val
        have HS : Hid (rs[k]? = some g ∧ RB wr (.slice n0 g.msgs.length c0) g) := ⟨hs, hR⟩
        clear hs hR
        go_wp2_with fail
        refine (szB_any g _ r _ HS.out.2 ⟨hr0, by omega⟩).mono ?_
        rintro e w2 ⟨r2, rfl, hr2, hb2⟩
        have HB : Hid (Below w.heap.size w w2) := HA.out.2.trans (hb2.mono HA.out.2.size)
        clear hb2
        rcases hr2 with rfl | ⟨g0, g1, g2⟩
        · go_wp2
          go_ret
          exact ⟨_, rfl, .inl rfl, HB.out⟩
        · have H2 : Hid (BdB r.toNat g) := g2
          have g0' : ¬ r2 < 0 := by omega
          clear g2
          go_wp2
          go_roundw
          case rel =>
            refine ⟨k + 1, _, rfl, by go_num, by omega, by omega, by omega, fun j t hj ht => ?_, HB.out⟩
            rcases Nat.lt_or_ge j k with q | q
            · exact HA.out.1 j t q ht
            · obtain rfl : j = k := by omega
              rw [HS.out.1] at ht
              cases ht
              exact H2.out.mono (by omega)
          case measure => simp [intOf]; omega
      · obtain rfl : k = rs.length := by omega
        go_wp2
        go_ret
        refine ⟨r, rfl, .inr ⟨hr0, hr1, by omega, fun j s hj => HA.out.1 j s ?_ hj⟩, HA.out.2⟩
        exact (List.getElem?_eq_some_iff.1 hj).1
set_option maxHeartbeats 1000000 in
theorem szI_any (r : Ixc) (u : Value) (left : Int) (w : World) (h : RI w u r) (hl : 0 ≤ left ∧ left ≤ 1048576) :
    Calls Try.prog 4 #[.agg #[.string r.frm, .string r.to, .int .i64 r.num, u], .int .i64 left] w fun e w' => ∃ q : Int, e = .returned (.int .i64 q) ∧ (q = -1 ∨ (0 ≤ q ∧ q ≤ left ∧ BdI left.toNat r)) ∧ Below w.heap.size w w' := by
  obtain ⟨frm, to, num, buns⟩ := r
  have hz_frm : frm.size ≤ 9223372036854775807 := h.z_frm
  have hz_to : to.size ≤ 9223372036854775807 := h.z_to
  obtain ⟨a, cap, rfl⟩ := h.ls.val
  dsimp only at h ⊢
  have b0 : Below w.heap.size w (w.alloc (.cells #[.string frm, .string to, .int .i64 num, (.slice a buns.length cap)] 24)) := (Below.refl _ _).alloc (Nat.le_refl _) _
  have H : Hid (RowB (w.alloc (.cells #[.string frm, .string to, .int .i64 num, (.slice a buns.length cap)] 24)) (.slice a buns.length cap) buns) := h.ls.below b0
  clear h
  by_cases h_frm : left - (frm.size : Int) < 0
  · go_enter Try.func4, Try.ntmps4
    go_wp2
    go_ret
    exact ⟨_, rfl, .inl rfl, b0⟩
  by_cases h_to : left - (frm.size : Int) - (to.size : Int) < 0
  · go_enter Try.func4, Try.ntmps4
    go_wp2
    go_ret
    exact ⟨_, rfl, .inl rfl, b0⟩
  go_enter Try.func4, Try.ntmps4
  go_wp2_with fail
  refine (szsB_any _ buns (left - (frm.size : Int) - (to.size : Int)) _ H.out ⟨by omega, by omega⟩).mono ?_
  rintro e w1 ⟨q, rfl, hr, hb⟩
  have HB : Hid (Below w.heap.size w w1) := b0.trans (hb.mono (by simp))
  clear hb
  rcases hr with rfl | ⟨g0, g1, g2⟩
  · go_wp2
    go_ret
    exact ⟨_, rfl, .inl rfl, HB.out⟩
  · have g0' : ¬ q < 0 := by omega
    have H2 : Hid (BdsB (left - (frm.size : Int) - (to.size : Int)).toNat buns) := g2
    clear g2
    go_wp2
    go_ret
    exact ⟨_, rfl, .inr ⟨by omega, by omega, show frm.size ≤ left.toNat by omega, show to.size ≤ left.toNat by omega, H2.out.mono (by omega)⟩, HB.out⟩
end Go.Proofs.Ytgkodjeblcmcpaa
