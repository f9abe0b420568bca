/- Contracts of impl's heads and trailers: a number told, a trailer. -/
import Derived.Test.YtmnfijgmfedpmaaDoorIxT
namespace Go.Proofs.YtmnfijgmfedpmaaDoor
open Go.ChangeShapes Go.WideShapes Go.ChangeAt Go.RowKit
set_option maxHeartbeats 1000000 in
theorem digits_any (n : Int) (w : World) (h0 : 0 ≤ n) (h1 : n ≤ 1000000) (ht : TabOk w) : Calls Tryd.prog 59 #[.agg #[.int .i64 n]] w fun e w' => e = .returned (.string (decS n)) ∧ Below w.heap.size w w' := by
  have b0 : Below w.heap.size w (w.alloc (.cells #[.int .i64 n] 65)) := (Below.refl _ _).alloc (Nat.le_refl _) _
  have HT : Hid (TabOk (w.alloc (.cells #[.int .i64 n] 65))) := ht.below b0
  clear ht
  go_enter Tryd.func59, Tryd.ntmps59
  go_wp2_with fail
  refine (fmt_any n _ (by omega) (by omega) HT.out).mono ?_
  rintro e w1 ⟨rfl, hb1⟩
  have HB : Hid (Below w.heap.size w w1) := b0.trans (hb1.mono (by simp))
  clear hb1
  go_wp2
  go_ret
  exact ⟨rfl, HB.out⟩
theorem row2s (w : World) (t s : ByteArray) (hz : t.size ≤ 9223372036854775807) (hs : s.size ≤ 9223372036854775807) : RowS (w.alloc (.cells #[.string t, .string s] 9)) (.slice (some ⟨w.heap.size, 0, none⟩) 2 2) [t, s] := by
  refine ⟨⟨_, _, rfl, fun _ => ⟨w.heap.size, 0, rfl, fun i x hi => ?_⟩⟩, by simp, fun i x hi => ?_⟩
  · rcases i with _ | _ | i
    · simp at hi
      subst hi
      simp [go_sem]
    · simp at hi
      subst hi
      simp [go_sem]
    · simp at hi
  · rcases i with _ | _ | i
    · simp at hi
      subst hi
      exact hz
    · simp at hi
      subst hi
      exact hs
    · simp at hi
theorem row3s (w : World) (t s r : ByteArray) (hz : t.size ≤ 9223372036854775807) (hs : s.size ≤ 9223372036854775807) (hr : r.size ≤ 9223372036854775807) : RowS (w.alloc (.cells #[.string t, .string s, .string r] 9)) (.slice (some ⟨w.heap.size, 0, none⟩) 3 3) [t, s, r] := by
  refine ⟨⟨_, _, rfl, fun _ => ⟨w.heap.size, 0, rfl, fun i x hi => ?_⟩⟩, by simp, fun i x hi => ?_⟩
  · rcases i with _ | _ | _ | i
    · simp at hi
      subst hi
      simp [go_sem]
    · simp at hi
      subst hi
      simp [go_sem]
    · simp at hi
      subst hi
      simp [go_sem]
    · simp at hi
  · rcases i with _ | _ | _ | i
    · simp at hi
      subst hi
      exact hz
    · simp at hi
      subst hi
      exact hs
    · simp at hi
      subst hi
      exact hr
    · simp at hi
theorem nDig_le : ∀ (f u : Nat), u < 10 ^ (f + 1) → Lib.nDigits u ≤ f + 1
  | 0, u, h => by rw [Lib.nDigits_small (by simpa using h)]; omega
  | f + 1, u, h => by
    by_cases q : u < 10
    · rw [Lib.nDigits_small q]; omega
    · rw [Lib.nDigits_big q]
      have := nDig_le f (u / 10) (by rw [Nat.pow_succ] at h; exact Nat.div_lt_of_lt_mul (by omega))
      omega
theorem decS_size (n : Int) (h0 : 0 ≤ n) (h1 : n ≤ 1000000) : (decS n).size ≤ 8 := by
  have hs : (decS n).size = (Lib.itoa n).length := by
    show (decS n).data.size = _
    simp [decS]
  rw [hs]
  unfold Lib.itoa
  rw [if_neg (by omega), Lib.decDigits_length]
  have := nDig_le 6 n.toNat (by omega)
  omega
theorem TabOk.drew {w : World} (h : TabOk w) : TabOk w.drew := h.below (Below.refl _ _).drew
/-- The answer's block, zero still. -/
structure RZ (R : Nat) (w W : World) : Prop where
  r : W.heap[R]? = some (.cells #[.string ⟨#[]⟩, .slice none 0 0] 51)
  bel : Below w.heap.size w W
  tab : TabOk W
  wr : w.heap.size ≤ R
theorem RZ.below {R : Nat} {w W W' : World} (h : RZ R w W) (hb : Below W.heap.size W W') : RZ R w W' := ⟨(hb.block _ (Array.getElem?_eq_some_iff.1 h.r).1).trans h.r, h.bel.trans (hb.mono h.bel.size), h.tab.below hb, h.wr⟩
theorem RZ.drew {R : Nat} {w W : World} (h : RZ R w W) : RZ R w W.drew := h.below (Below.refl _ _).drew
theorem RZ.lt {R : Nat} {w W : World} (h : RZ R w W) : R < W.heap.size := (Array.getElem?_eq_some_iff.1 h.r).1
theorem RZ.cells {R : Nat} {w W : World} (h : RZ R w W) : W.cell? ⟨R, 0, none⟩ = some (.string ⟨#[]⟩) ∧ W.cell? ⟨R, 1, none⟩ = some (.slice none 0 0) ∧ ∀ o, W.frozen? ⟨R, o, none⟩ = false := by
  have := h.r
  exact ⟨by simp [World.cell?, this], by simp [World.cell?, this], fun o => by simp [World.frozen?, this]⟩
set_option maxRecDepth 20000 in
set_option maxHeartbeats 2000000 in
theorem trailer_any (n k : Int) (tag : ByteArray) (w : World) (h0 : 0 ≤ n) (h1 : n ≤ 1000000) (hk0 : 0 ≤ k) (hk1 : k ≤ 1000000) (ht : TabOk w) : Calls Tryd.prog 62 #[.agg #[.int .i64 n], .string tag, .int .i64 k] w fun e w' => ∃ u vals, e = .returned (.agg #[.string tag, u]) ∧ OwnV w.heap.size w' u vals ([decS k, decS n].map fun t => [t]) ∧ Below w.heap.size w w' := by
  have b0 : Below w.heap.size w ((w.alloc (.cells #[.int .i64 n] 65)).alloc (.cells #[.string ⟨#[]⟩, .slice none 0 0] 51)) := ((Below.refl _ _).alloc (Nat.le_refl _) _).alloc (by simp) _
  have hZ : RZ (w.heap.size + 1) w ((w.alloc (.cells #[.int .i64 n] 65)).alloc (.cells #[.string ⟨#[]⟩, .slice none 0 0] 51)) := ⟨heap_new2 w _ _, b0, ht.below b0, by omega⟩
  have hh : ((w.alloc (.cells #[.int .i64 n] 65)).alloc (.cells #[.string ⟨#[]⟩, .slice none 0 0] 51)).cell? ⟨w.heap.size, 0, none⟩ = some (.int .i64 n) := by simp [go_sem]
  have sk := decS_size k hk0 hk1
  have sn := decS_size n h0 h1
  clear ht b0
  go_enter Tryd.func62, Tryd.ntmps62
  go_wp2_with fail
  generalize ((w.alloc (.cells #[.int .i64 n] 65)).alloc (.cells #[.string ⟨#[]⟩, .slice none 0 0] 51)) = W0 at *
  have HZ : Hid (RZ (w.heap.size + 1) w W0) := hZ
  clear hZ
  generalize hDk : decS k = Dk at *
  generalize hDn : decS n = Dn at *
  have HD : Hid (decS k = Dk ∧ decS n = Dn) := ⟨hDk, hDn⟩
  clear hDk hDn
  go_region_law (first | (go_simp; go_at_call 86; refine (itoa_any k _ (by omega) (by omega) (by first | exact HZ.out.tab | exact HZ.out.tab.drew)).mono ?_; rintro e w1 ⟨rfl, hb⟩; rw [HD.out.1]; have hb1 : Below W0.heap.size W0 w1 := (by first | exact hb | exact (Below.refl _ _).drew.trans hb); clear hb; have hh1 := (hb1.cell (cell_lt hh)).trans hh; have H1 : Hid (RZ (w.heap.size + 1) w w1) := HZ.out.below hb1; clear hb1; try dsimp only) | (go_simp; go_at_call 59; refine (digits_any n _ h0 h1 (by first | exact H1.out.tab | exact H1.out.tab.drew)).mono ?_; rintro e w2 ⟨rfl, hb⟩; rw [HD.out.2]; have hb2 : Below w1.heap.size w1 w2 := (by first | exact hb | exact (Below.refl _ _).drew.trans hb); clear hb; have hh2 := (hb2.cell (cell_lt hh1)).trans hh1; have H2 : Hid (RZ (w.heap.size + 1) w w2) := H1.out.below hb2; clear hb2; try dsimp only) | (go_simp; go_at_call 58; refine (segmentBy_any tag _ [Dk, Dn] _ (by first | exact row2s w2 Dk Dn (by omega) (by omega) | exact (row2s w2 Dk Dn (by omega) (by omega)).below (Below.refl _ _).drew) (by simp) (by intro t ht; simp at ht; rcases ht with rfl | rfl <;> omega)).mono ?_; rintro e w3 ⟨u3, vals3, rfl, hO3, hb⟩; obtain ⟨A3, N3, C3, hu3⟩ := row_slice hO3.row; subst hu3; have hb3 : Below w2.heap.size w2 w3 := (((Below.refl _ w2).alloc (Nat.le_refl _) (.cells #[.string Dk, .string Dn] 9)).trans ((by first | exact hb | exact (Below.refl _ _).drew.trans hb : Below (w2.alloc (.cells #[.string Dk, .string Dn] 9)).heap.size (w2.alloc (.cells #[.string Dk, .string Dn] 9)) w3).mono (by simp))); have H3 : Hid (RZ (w.heap.size + 1) w w3 ∧ OwnV (w.heap.size + 2) w3 (.slice A3 N3 C3) vals3 ([Dk, Dn].map fun t => [t])) := ⟨H2.out.below hb3, hO3.mono (by have := H2.out.lt; simp; omega)⟩; obtain ⟨r0, r1, rz⟩ := H3.out.1.cells; clear hb hb3 hO3; try dsimp only))
  all_goals
    go_wp2
    exact bodyPost_ret (v := .agg #[.string tag, .slice A3 N3 C3]) (by simp [results, Tryd.results62, go_sem, r0, r1]) rfl ⟨_, vals3, rfl, by rw [HD.out.1, HD.out.2]; exact ((H3.out.2.set (by omega) _ _).set (by omega) _ _).mono (by omega), (H3.out.1.bel.setCell (show w.heap.size ≤ w.heap.size + 1 by omega) _).setCell (show w.heap.size ≤ w.heap.size + 1 by omega) _⟩
end Go.Proofs.YtmnfijgmfedpmaaDoor
