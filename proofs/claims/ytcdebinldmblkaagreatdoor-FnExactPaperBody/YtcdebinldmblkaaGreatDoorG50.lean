/- Texts of ours put together: SzL, EqS, EqL. -/
import Derived.Test.YtcdebinldmblkaaGreatDoorG07
import Derived.Test.YtcdebinldmblkaaGreatDoorG49
import Derived.Test.YtcdebinldmblkaaGreatDoorG04
import Derived.Deep.RegionHeld3
namespace Go.Proofs.YtcdebinldmblkaaGreatDoor
open Go.ChangeShapes Go.WideShapes Go.ChangeAt Go.RowKit
set_option maxHeartbeats 1000000 in
theorem szLn_any (l : Ln) (left : Int) (w : World) (hz : l.item.size ≤ 9223372036854775807 ∧ l.note.size ≤ 9223372036854775807) (hl : 0 ≤ left ∧ left ≤ 1048576) :
    Calls Tryz.prog 29 #[.agg #[.int .i64 l.no, .string l.item, .int .i64 l.qty, .int .i64 l.money, .string l.note], .int .i64 left] w fun e w' => ∃ r : Int, e = .returned (.int .i64 r) ∧ (r = -1 ∨ (0 ≤ r ∧ r ≤ left ∧ l.item.size ≤ left.toNat ∧ l.note.size ≤ left.toNat)) ∧ Below w.heap.size w w' := by
  obtain ⟨no, item, qty, money, note⟩ := l
  obtain ⟨hz1, hz2⟩ := hz
  dsimp only at hz1 hz2 ⊢
  by_cases h1 : left - (item.size : Int) < 0
  · go_enter Tryz.func29, Tryz.ntmps29
    go_wp2
    go_ret
    exact ⟨_, rfl, .inl rfl, (Below.refl _ _).alloc (Nat.le_refl _) _⟩
  · by_cases h2 : left - (item.size : Int) - (note.size : Int) < 0
    · go_enter Tryz.func29, Tryz.ntmps29
      go_wp2
      go_ret
      exact ⟨_, rfl, .inl rfl, (Below.refl _ _).alloc (Nat.le_refl _) _⟩
    · go_enter Tryz.func29, Tryz.ntmps29
      go_wp2
      go_ret
      exact ⟨_, rfl, .inr ⟨by omega, by omega, by omega, by omega⟩, (Below.refl _ _).alloc (Nat.le_refl _) _⟩
set_option maxHeartbeats 1000000 in
theorem szL_any (v : Value) (ls : List Ln) (left : Int) (w : World) (h : RowL w v ls) (hl : 0 ≤ left ∧ left ≤ 1048576) :
    Calls Tryz.prog 14 #[v, .int .i64 left] w fun e w' => ∃ r : Int, e = .returned (.int .i64 r) ∧ (r = -1 ∨ (0 ≤ r ∧ r ≤ left ∧ BdL left.toNat ls)) ∧ Below w.heap.size w w' := by
  have hlen := h.len
  obtain ⟨a, cap, rfl⟩ := h.val
  have H : Hid (RowL w (.slice a ls.length cap) ls) := h
  clear h
  by_cases hn : left < (ls.length : Int)
  · have hn' : left - (ls.length : Int) < 0 := by omega
    go_enter Tryz.func14, Tryz.ntmps14
    go_wp2
    go_ret
    exact ⟨_, rfl, .inl rfl, Below.refl _ _⟩
  · have hn' : ¬ left - (ls.length : Int) < 0 := by omega
    go_enter Tryz.func14, Tryz.ntmps14
    go_wp2
    go_loopw [1, 5] (fun l i wr => ∃ (k : Nat) (r : Int), l = .int .i64 r ∧ i = .int .i64 (k : Int) ∧ k ≤ ls.length ∧ 0 ≤ r ∧ r ≤ left ∧ (∀ (j : Nat) (g : Ln), j < k → ls[j]? = some g → g.item.size ≤ left.toNat ∧ g.note.size ≤ left.toNat) ∧ Below w.heap.size w wr) (fun _ i _ => ls.length - (intOf i).toNat)
    case atStart => exact ⟨0, _, rfl, rfl, by omega, by omega, by omega, fun j s h => by omega, Below.refl _ _⟩
    case round =>
      obtain ⟨k, r, rfl, rfl, hk, hr0, hr1, hA, hb⟩ := hrel
      have HA : Hid ((∀ (j : Nat) (g : Ln), j < k → ls[j]? = some g → g.item.size ≤ left.toNat ∧ g.note.size ≤ left.toNat) ∧ Below w.heap.size w wr) := ⟨hA, hb⟩
      clear hA hb
      by_cases hlt : k < ls.length
      · have hlt' : (k : Int) < (ls.length : Int) := by omega
        obtain ⟨b, o, cap', g, e, hs, ⟨q0, q1, q2, q3, q4⟩, hz⟩ := (H.out.below HA.out.2).at hlt
        simp only [Value.slice.injEq, true_and] at e
        obtain ⟨rfl, rfl⟩ := e
        have HS : Hid (ls[k]? = some g) := hs
        clear hs
        go_wp2_with fail
        refine (szLn_any g r _ hz ⟨hr0, by omega⟩).mono ?_
        rintro e w2 ⟨r2, rfl, hr2, hb2⟩
        have HB : Hid (Below w.heap.size w w2) := HA.out.2.trans (hb2.mono HA.out.2.size)
        clear hb2
        rcases hr2 with rfl | ⟨g0, g1, g2, g3⟩
        · go_wp2
          go_ret
          exact ⟨_, rfl, .inl rfl, HB.out⟩
        · have H2 : Hid (g.item.size ≤ r.toNat ∧ g.note.size ≤ r.toNat) := ⟨g2, g3⟩
          have g0' : ¬ r2 < 0 := by omega
          clear g2 g3
          go_wp2
          go_roundw
          case rel =>
            refine ⟨k + 1, _, rfl, by go_num, by omega, by omega, by omega, fun j t hj ht => ?_, HB.out⟩
            rcases Nat.lt_or_ge j k with q | q
            · exact HA.out.1 j t q ht
            · obtain rfl : j = k := by omega
              rw [HS.out] at ht
              cases ht
              have := H2.out
              exact ⟨by omega, by omega⟩
          case measure => simp [intOf]; omega
      · obtain rfl : k = ls.length := by omega
        go_wp2
        go_ret
        refine ⟨r, rfl, .inr ⟨hr0, hr1, by omega, fun j s hj => HA.out.1 j s ?_ hj⟩, HA.out.2⟩
        exact (List.getElem?_eq_some_iff.1 hj).1
set_option maxHeartbeats 1000000 in
theorem szP_any (p : Pap) (vn vl : Value) (left : Int) (w : World) (h : PapR w vn vl p) (hl : 0 ≤ left ∧ left ≤ 1048576) :
    Calls Tryz.prog 4 #[.agg #[.int .i64 p.kind, .string p.ref, .string p.other, .int .i64 p.day, vn, vl], .int .i64 left] w fun e w' => ∃ r : Int, e = .returned (.int .i64 r) ∧ (r = -1 ∨ (0 ≤ r ∧ r ≤ left ∧ BdP left.toNat p)) ∧ Below w.heap.size w w' := by
  obtain ⟨kind, ref, other, day, notes, lines⟩ := p
  have hz1 : ref.size ≤ 9223372036854775807 := h.rz
  have hz2 : other.size ≤ 9223372036854775807 := h.oz
  obtain ⟨a, cap, rfl⟩ := h.ns.val
  obtain ⟨a', cap', rfl⟩ := h.ls.val
  dsimp only at h ⊢
  have b0 : Below w.heap.size w (w.alloc (.cells #[.int .i64 kind, .string ref, .string other, .int .i64 day, .slice a notes.length cap, .slice a' lines.length cap'] 25)) := (Below.refl _ _).alloc (Nat.le_refl _) _
  have H : Hid (PapR (w.alloc (.cells #[.int .i64 kind, .string ref, .string other, .int .i64 day, .slice a notes.length cap, .slice a' lines.length cap'] 25)) (.slice a notes.length cap) (.slice a' lines.length cap') ⟨kind, ref, other, day, notes, lines⟩) := h.below b0
  clear h
  by_cases h1 : left - (ref.size : Int) < 0
  · go_enter Tryz.func4, Tryz.ntmps4
    go_wp2
    go_ret
    exact ⟨_, rfl, .inl rfl, b0⟩
  · by_cases h2 : left - (ref.size : Int) - (other.size : Int) < 0
    · go_enter Tryz.func4, Tryz.ntmps4
      go_wp2
      go_ret
      exact ⟨_, rfl, .inl rfl, b0⟩
    · go_enter Tryz.func4, Tryz.ntmps4
      go_wp2_with fail
      refine (szS_any _ notes (left - (ref.size : Int) - (other.size : Int)) _ H.out.ns ⟨by omega, by omega⟩).mono ?_
      rintro e w1 ⟨r, rfl, hr, hb⟩
      have HB : Hid (Below w.heap.size w w1 ∧ RowL w1 (.slice a' lines.length cap') lines) := ⟨b0.trans (hb.mono (by simp)), H.out.ls.below hb⟩
      have c5 : w1.cell? ⟨w.heap.size, 5, none⟩ = some (.slice a' lines.length cap') := (hb.cell (p := ⟨w.heap.size, 5, none⟩) (by simp)).trans (by simp [go_sem])
      clear hb
      rcases hr with rfl | ⟨g0, g1, g2⟩
      · go_wp2
        go_ret
        exact ⟨_, rfl, .inl rfl, HB.out.1⟩
      · have g0' : ¬ r < 0 := by omega
        have H2 : Hid (BdS (left - (ref.size : Int) - (other.size : Int)).toNat notes) := g2
        clear g2
        go_wp2_with fail
        refine (szL_any _ lines r _ HB.out.2 ⟨g0, by omega⟩).mono ?_
        rintro e w2 ⟨r2, rfl, hr2, hb2⟩
        have HC : Hid (Below w.heap.size w w2) := HB.out.1.trans (hb2.mono HB.out.1.size)
        clear hb2
        rcases hr2 with rfl | ⟨k0, k1, k2⟩
        · go_wp2
          go_ret
          exact ⟨_, rfl, .inl rfl, HC.out⟩
        · have k0' : ¬ r2 < 0 := by omega
          have H3 : Hid (BdL r.toNat lines) := k2
          clear k2
          go_wp2
          go_ret
          exact ⟨_, rfl, .inr ⟨by omega, by omega, show ref.size ≤ left.toNat by omega, show other.size ≤ left.toNat by omega, H2.out.mono (by omega), H3.out.mono (by omega)⟩, HC.out⟩
end Go.Proofs.YtcdebinldmblkaaGreatDoor
namespace Go.Proofs.YtcdebinldmblkaaGreatDoor
open Go.ChangeShapes Go.WideShapes Go.ChangeAt Go.RowKit
set_option maxHeartbeats 1000000 in
theorem eqS_any (v v' : Value) (ss : List ByteArray) (w : World) (h : RowS w v ss) (h' : RowS w v' ss) :
    Calls Tryz.prog 22 #[v, v'] w fun e w' => e = .returned (.bool true) ∧ Below w.heap.size w w' := by
  have hlen := h.len
  obtain ⟨a, cap, rfl⟩ := h.val
  obtain ⟨a', cap', rfl⟩ := h'.val
  have H : Hid (RowS w (.slice a ss.length cap) ss ∧ RowS w (.slice a' ss.length cap') ss) := ⟨h, h'⟩
  clear h h'
  go_enter Tryz.func22, Tryz.ntmps22
  go_wp2
  go_loopw [5] (fun i wr => ∃ k : Nat, i = .int .i64 (k : Int) ∧ k ≤ ss.length ∧ Below w.heap.size w wr) (fun i _ => ss.length - (intOf i).toNat)
  case atStart => exact ⟨0, rfl, by omega, Below.refl _ _⟩
  case round =>
    obtain ⟨k, rfl, hk, hb⟩ := hrel
    by_cases hlt : k < ss.length
    · have hlt' : (k : Int) < (ss.length : Int) := by omega
      obtain ⟨b, o, c1, s, e, hs, hc, hsz⟩ := (H.out.1.below hb).at hlt
      obtain ⟨b', o', c2, s', e', hs', hc', hsz'⟩ := (H.out.2.below hb).at hlt
      simp only [Value.slice.injEq, true_and] at e e'
      obtain ⟨rfl, rfl⟩ := e
      obtain ⟨rfl, rfl⟩ := e'
      obtain rfl : s = s' := by rw [hs] at hs'; exact Option.some.inj hs'
      have HB : Hid (Below w.heap.size w wr) := hb
      clear hs hs' hb
      go_wp2
      go_quiet (fail)
      go_wp2
      go_roundw
      case rel => exact ⟨k + 1, by go_num, by omega, below_drewN HB.out _⟩
      case measure => simp [intOf]; omega
    · obtain rfl : k = ss.length := by omega
      have HB : Hid (Below w.heap.size w wr) := hb
      clear hb
      go_wp2
      go_ret
      exact ⟨rfl, HB.out⟩
end Go.Proofs.YtcdebinldmblkaaGreatDoor
namespace Go.Proofs.YtcdebinldmblkaaGreatDoor
open Go.ChangeShapes Go.WideShapes Go.ChangeAt Go.RowKit
set_option maxHeartbeats 1000000 in
theorem eqLn_any (l : Ln) (w : World) :
    Calls Tryz.prog 47 #[.agg #[.int .i64 l.no, .string l.item, .int .i64 l.qty, .int .i64 l.money, .string l.note], .agg #[.int .i64 l.no, .string l.item, .int .i64 l.qty, .int .i64 l.money, .string l.note]] w fun e w' => e = .returned (.bool true) ∧ Below w.heap.size w w' := by
  obtain ⟨no, item, qty, money, note⟩ := l
  dsimp only
  have b0 : Below w.heap.size w ((w.alloc (.cells #[.int .i64 no, .string item, .int .i64 qty, .int .i64 money, .string note] 63)).alloc (.cells #[.int .i64 no, .string item, .int .i64 qty, .int .i64 money, .string note] 63)) := ((Below.refl _ _).alloc (Nat.le_refl _) _).alloc (by simp) _
  go_enter Tryz.func47, Tryz.ntmps47
  go_wp2
  go_ret
  exact ⟨rfl, b0⟩
set_option maxHeartbeats 1000000 in
theorem eqL_any (v v' : Value) (ls : List Ln) (w : World) (h : RowL w v ls) (h' : RowL w v' ls) :
    Calls Tryz.prog 23 #[v, v'] w fun e w' => e = .returned (.bool true) ∧ Below w.heap.size w w' := by
  have hlen := h.len
  obtain ⟨a, cap, rfl⟩ := h.val
  obtain ⟨a', cap', rfl⟩ := h'.val
  have H : Hid (RowL w (.slice a ls.length cap) ls ∧ RowL w (.slice a' ls.length cap') ls) := ⟨h, h'⟩
  clear h h'
  go_enter Tryz.func23, Tryz.ntmps23
  go_wp2
  go_loopw [5] (fun i wr => ∃ k : Nat, i = .int .i64 (k : Int) ∧ k ≤ ls.length ∧ Below w.heap.size w wr) (fun i _ => ls.length - (intOf i).toNat)
  case atStart => exact ⟨0, rfl, by omega, Below.refl _ _⟩
  case round =>
    obtain ⟨k, rfl, hk, hb⟩ := hrel
    by_cases hlt : k < ls.length
    · have hlt' : (k : Int) < (ls.length : Int) := by omega
      obtain ⟨b, o, c1, g, e, hs, ⟨q0, q1, q2, q3, q4⟩, _⟩ := (H.out.1.below hb).at hlt
      obtain ⟨b', o', c2, g', e', hs', ⟨p0, p1, p2, p3, p4⟩, _⟩ := (H.out.2.below hb).at hlt
      simp only [Value.slice.injEq, true_and] at e e'
      obtain ⟨rfl, rfl⟩ := e
      obtain ⟨rfl, rfl⟩ := e'
      obtain rfl : g = g' := by rw [hs] at hs'; exact Option.some.inj hs'
      have HB : Hid (Below w.heap.size w wr) := hb
      clear hs hs' hb
      have l1 := cell_lt q0
      have l2 := cell_lt p0
      go_wp2_with fail
      go_region_held3 (fun W => W.cell? ⟨b, o + k * 5, none⟩ = some (.int .i64 g.no) ∧ W.cell? ⟨b, o + k * 5 + 1, none⟩ = some (.string g.item) ∧ W.cell? ⟨b, o + k * 5 + 2, none⟩ = some (.int .i64 g.qty) ∧ W.cell? ⟨b, o + k * 5 + 3, none⟩ = some (.int .i64 g.money) ∧ W.cell? ⟨b, o + k * 5 + 4, none⟩ = some (.string g.note) ∧ W.cell? ⟨b', o' + k * 5, none⟩ = some (.int .i64 g.no) ∧ W.cell? ⟨b', o' + k * 5 + 1, none⟩ = some (.string g.item) ∧ W.cell? ⟨b', o' + k * 5 + 2, none⟩ = some (.int .i64 g.qty) ∧ W.cell? ⟨b', o' + k * 5 + 3, none⟩ = some (.int .i64 g.money) ∧ W.cell? ⟨b', o' + k * 5 + 4, none⟩ = some (.string g.note)) (go_keep) (first | (go_at_call 47; refine (eqLn_any g _).mono ?_; rintro e w2 ⟨rfl, hb2⟩; have yb0 := (hb2.cell (p := ⟨b, o + k * 5, none⟩) l1).trans q0; have yb1 := (hb2.cell (p := ⟨b, o + k * 5 + 1, none⟩) l1).trans q1; have yb2 := (hb2.cell (p := ⟨b, o + k * 5 + 2, none⟩) l1).trans q2; have yb3 := (hb2.cell (p := ⟨b, o + k * 5 + 3, none⟩) l1).trans q3; have yb4 := (hb2.cell (p := ⟨b, o + k * 5 + 4, none⟩) l1).trans q4; have yp0 := (hb2.cell (p := ⟨b', o' + k * 5, none⟩) l2).trans p0; have yp1 := (hb2.cell (p := ⟨b', o' + k * 5 + 1, none⟩) l2).trans p1; have yp2 := (hb2.cell (p := ⟨b', o' + k * 5 + 2, none⟩) l2).trans p2; have yp3 := (hb2.cell (p := ⟨b', o' + k * 5 + 3, none⟩) l2).trans p3; have yp4 := (hb2.cell (p := ⟨b', o' + k * 5 + 4, none⟩) l2).trans p4))
      have HB2 : Hid (Below w.heap.size w w2) := HB.out.drew.trans (hb2.mono HB.out.size)
      clear hb2
      rename_i hHeld
      clear hHeld
      go_wp2
      go_roundw
      case rel => exact ⟨k + 1, by go_num, by omega, HB2.out⟩
      case measure => simp [intOf]; omega
    · obtain rfl : k = ls.length := by omega
      have HB : Hid (Below w.heap.size w wr) := hb
      clear hb
      go_wp2
      go_ret
      exact ⟨rfl, HB.out⟩
set_option maxHeartbeats 2000000 in
theorem eqP_any (p : Pap) (vn vl vn' vl' : Value) (w : World) (h : PapR w vn vl p) (h' : PapR w vn' vl' p) :
    Calls Tryz.prog 9 #[.agg #[.int .i64 p.kind, .string p.ref, .string p.other, .int .i64 p.day, vn, vl], .agg #[.int .i64 p.kind, .string p.ref, .string p.other, .int .i64 p.day, vn', vl']] w fun e w' => e = .returned (.bool true) ∧ Below w.heap.size w w' := by
  obtain ⟨kind, ref, other, day, notes, lines⟩ := p
  obtain ⟨a, cap, rfl⟩ := h.ns.val
  obtain ⟨c, cap1, rfl⟩ := h.ls.val
  obtain ⟨a', cap', rfl⟩ := h'.ns.val
  obtain ⟨c', cap1', rfl⟩ := h'.ls.val
  dsimp only at h h' ⊢
  have b0 : Below w.heap.size w ((w.alloc (.cells #[.int .i64 kind, .string ref, .string other, .int .i64 day, .slice a notes.length cap, .slice c lines.length cap1] 31)).alloc (.cells #[.int .i64 kind, .string ref, .string other, .int .i64 day, .slice a' notes.length cap', .slice c' lines.length cap1'] 31)) := ((Below.refl _ _).alloc (Nat.le_refl _) _).alloc (by simp) _
  have H : Hid (PapR ((w.alloc (.cells #[.int .i64 kind, .string ref, .string other, .int .i64 day, .slice a notes.length cap, .slice c lines.length cap1] 31)).alloc (.cells #[.int .i64 kind, .string ref, .string other, .int .i64 day, .slice a' notes.length cap', .slice c' lines.length cap1'] 31)) (.slice a notes.length cap) (.slice c lines.length cap1) ⟨kind, ref, other, day, notes, lines⟩ ∧ PapR ((w.alloc (.cells #[.int .i64 kind, .string ref, .string other, .int .i64 day, .slice a notes.length cap, .slice c lines.length cap1] 31)).alloc (.cells #[.int .i64 kind, .string ref, .string other, .int .i64 day, .slice a' notes.length cap', .slice c' lines.length cap1'] 31)) (.slice a' notes.length cap') (.slice c' lines.length cap1') ⟨kind, ref, other, day, notes, lines⟩) := ⟨h.below b0, h'.below b0⟩
  clear h h'
  go_enter Tryz.func9, Tryz.ntmps9
  go_wp2_with fail
  refine (eqS_any _ _ notes _ H.out.1.ns H.out.2.ns).mono ?_
  rintro e w1 ⟨rfl, hb⟩
  have c5 : w1.cell? ⟨w.heap.size, 5, none⟩ = some (.slice c lines.length cap1) := (hb.cell (p := ⟨w.heap.size, 5, none⟩) (by simp; omega)).trans (by simp [go_sem])
  have d5 : w1.cell? ⟨w.heap.size + 1, 5, none⟩ = some (.slice c' lines.length cap1') := (hb.cell (p := ⟨w.heap.size + 1, 5, none⟩) (by simp)).trans (by simp [go_sem])
  have HB : Hid (Below w.heap.size w w1 ∧ RowL w1 (.slice c lines.length cap1) lines ∧ RowL w1 (.slice c' lines.length cap1') lines) := ⟨b0.trans (hb.mono (by simp; omega)), H.out.1.ls.below hb, H.out.2.ls.below hb⟩
  clear hb b0 H
  go_wp2_with fail
  refine (eqL_any _ _ lines _ HB.out.2.1 HB.out.2.2).mono ?_
  rintro e w2 ⟨rfl, hb2⟩
  have HC : Hid (Below w.heap.size w w2) := HB.out.1.trans (hb2.mono HB.out.1.size)
  clear hb2
  go_wp2
  go_ret
  exact ⟨rfl, HC.out⟩
end Go.Proofs.YtcdebinldmblkaaGreatDoor
