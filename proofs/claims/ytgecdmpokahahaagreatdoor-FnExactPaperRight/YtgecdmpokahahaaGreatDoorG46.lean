/- Texts of ours put together: SzL, ToS. -/
import Derived.Test.YtgecdmpokahahaaGreatDoorG09
import Derived.Test.YtgecdmpokahahaaGreatDoorG45
import Derived.Test.YtgecdmpokahahaaGreatDoorG05
import Derived.Deep.OwnRows
namespace Go.Proofs.YtgecdmpokahahaaGreatDoor
open Go.ChangeShapes Go.WideShapes Go.ChangeAt Go.RowKit
set_option maxHeartbeats 1000000 in
theorem szLn_any (l : Ln) (left : Int) (w : World) (hz : l.item.size ≤ 9223372036854775807 ∧ l.note.size ≤ 9223372036854775807) (hl : 0 ≤ left ∧ left ≤ 1048576) :
    Calls Tryz.prog 39 #[.agg #[.int .i64 l.no, .string l.item, .int .i64 l.qty, .int .i64 l.money, .string l.note], .int .i64 left] w fun e w' => ∃ r : Int, e = .returned (.int .i64 r) ∧ (r = -1 ∨ (0 ≤ r ∧ r ≤ left ∧ l.item.size ≤ left.toNat ∧ l.note.size ≤ left.toNat)) ∧ Below w.heap.size w w' := by
  obtain ⟨no, item, qty, money, note⟩ := l
  obtain ⟨hz1, hz2⟩ := hz
  dsimp only at hz1 hz2 ⊢
  by_cases h1 : left - (item.size : Int) < 0
  · go_enter Tryz.func39, Tryz.ntmps39
    go_wp2
    go_ret
    exact ⟨_, rfl, .inl rfl, (Below.refl _ _).alloc (Nat.le_refl _) _⟩
  · by_cases h2 : left - (item.size : Int) - (note.size : Int) < 0
    · go_enter Tryz.func39, Tryz.ntmps39
      go_wp2
      go_ret
      exact ⟨_, rfl, .inl rfl, (Below.refl _ _).alloc (Nat.le_refl _) _⟩
    · go_enter Tryz.func39, Tryz.ntmps39
      go_wp2
      go_ret
      exact ⟨_, rfl, .inr ⟨by omega, by omega, by omega, by omega⟩, (Below.refl _ _).alloc (Nat.le_refl _) _⟩
set_option maxHeartbeats 1000000 in
theorem szL_any (v : Value) (ls : List Ln) (left : Int) (w : World) (h : RowL w v ls) (hl : 0 ≤ left ∧ left ≤ 1048576) :
    Calls Tryz.prog 20 #[v, .int .i64 left] w fun e w' => ∃ r : Int, e = .returned (.int .i64 r) ∧ (r = -1 ∨ (0 ≤ r ∧ r ≤ left ∧ BdL left.toNat ls)) ∧ Below w.heap.size w w' := by
  have hlen := h.len
  obtain ⟨a, cap, rfl⟩ := h.val
  have H : Hid (RowL w (.slice a ls.length cap) ls) := h
  clear h
  by_cases hn : left < (ls.length : Int)
  · have hn' : left - (ls.length : Int) < 0 := by omega
    go_enter Tryz.func20, Tryz.ntmps20
    go_wp2
    go_ret
    exact ⟨_, rfl, .inl rfl, Below.refl _ _⟩
  · have hn' : ¬ left - (ls.length : Int) < 0 := by omega
    go_enter Tryz.func20, Tryz.ntmps20
    go_wp2
    go_loopw [1, 5] (fun l i wr => ∃ (k : Nat) (r : Int), l = .int .i64 r ∧ i = .int .i64 (k : Int) ∧ k ≤ ls.length ∧ 0 ≤ r ∧ r ≤ left ∧ (∀ (j : Nat) (g : Ln), j < k → ls[j]? = some g → g.item.size ≤ left.toNat ∧ g.note.size ≤ left.toNat) ∧ Below w.heap.size w wr) (fun _ i _ => ls.length - (intOf i).toNat)
    case atStart => exact ⟨0, _, rfl, rfl, by omega, by omega, by omega, fun j s h => by omega, Below.refl _ _⟩
    case round =>
      obtain ⟨k, r, rfl, rfl, hk, hr0, hr1, hA, hb⟩ := hrel
      have HA : Hid ((∀ (j : Nat) (g : Ln), j < k → ls[j]? = some g → g.item.size ≤ left.toNat ∧ g.note.size ≤ left.toNat) ∧ Below w.heap.size w wr) := ⟨hA, hb⟩
      clear hA hb
      by_cases hlt : k < ls.length
      · have hlt' : (k : Int) < (ls.length : Int) := by omega
        obtain ⟨b, o, cap', g, e, hs, ⟨q0, q1, q2, q3, q4⟩, hz⟩ := (H.out.below HA.out.2).at hlt
        simp only [Value.slice.injEq, true_and] at e
        obtain ⟨rfl, rfl⟩ := e
        have HS : Hid (ls[k]? = some g) := hs
        clear hs
        go_wp2_with fail
        refine (szLn_any g r _ hz ⟨hr0, by omega⟩).mono ?_
        rintro e w2 ⟨r2, rfl, hr2, hb2⟩
        have HB : Hid (Below w.heap.size w w2) := HA.out.2.trans (hb2.mono HA.out.2.size)
        clear hb2
        rcases hr2 with rfl | ⟨g0, g1, g2, g3⟩
        · go_wp2
          go_ret
          exact ⟨_, rfl, .inl rfl, HB.out⟩
        · have H2 : Hid (g.item.size ≤ r.toNat ∧ g.note.size ≤ r.toNat) := ⟨g2, g3⟩
          have g0' : ¬ r2 < 0 := by omega
          clear g2 g3
          go_wp2
          go_roundw
          case rel =>
            refine ⟨k + 1, _, rfl, by go_num, by omega, by omega, by omega, fun j t hj ht => ?_, HB.out⟩
            rcases Nat.lt_or_ge j k with q | q
            · exact HA.out.1 j t q ht
            · obtain rfl : j = k := by omega
              rw [HS.out] at ht
              cases ht
              have := H2.out
              exact ⟨by omega, by omega⟩
          case measure => simp [intOf]; omega
      · obtain rfl : k = ls.length := by omega
        go_wp2
        go_ret
        refine ⟨r, rfl, .inr ⟨hr0, hr1, by omega, fun j s hj => HA.out.1 j s ?_ hj⟩, HA.out.2⟩
        exact (List.getElem?_eq_some_iff.1 hj).1
set_option maxHeartbeats 1000000 in
theorem szP_any (p : Pap) (vn vl : Value) (left : Int) (w : World) (h : PapR w vn vl p) (hl : 0 ≤ left ∧ left ≤ 1048576) :
    Calls Tryz.prog 6 #[.agg #[.int .i64 p.kind, .string p.ref, .string p.other, .int .i64 p.day, vn, vl], .int .i64 left] w fun e w' => ∃ r : Int, e = .returned (.int .i64 r) ∧ (r = -1 ∨ (0 ≤ r ∧ r ≤ left ∧ BdP left.toNat p)) ∧ Below w.heap.size w w' := by
  obtain ⟨kind, ref, other, day, notes, lines⟩ := p
  have hz1 : ref.size ≤ 9223372036854775807 := h.rz
  have hz2 : other.size ≤ 9223372036854775807 := h.oz
  obtain ⟨a, cap, rfl⟩ := h.ns.val
  obtain ⟨a', cap', rfl⟩ := h.ls.val
  dsimp only at h ⊢
  have b0 : Below w.heap.size w (w.alloc (.cells #[.int .i64 kind, .string ref, .string other, .int .i64 day, .slice a notes.length cap, .slice a' lines.length cap'] 25)) := (Below.refl _ _).alloc (Nat.le_refl _) _
  have H : Hid (PapR (w.alloc (.cells #[.int .i64 kind, .string ref, .string other, .int .i64 day, .slice a notes.length cap, .slice a' lines.length cap'] 25)) (.slice a notes.length cap) (.slice a' lines.length cap') ⟨kind, ref, other, day, notes, lines⟩) := h.below b0
  clear h
  by_cases h1 : left - (ref.size : Int) < 0
  · go_enter Tryz.func6, Tryz.ntmps6
    go_wp2
    go_ret
    exact ⟨_, rfl, .inl rfl, b0⟩
  · by_cases h2 : left - (ref.size : Int) - (other.size : Int) < 0
    · go_enter Tryz.func6, Tryz.ntmps6
      go_wp2
      go_ret
      exact ⟨_, rfl, .inl rfl, b0⟩
    · go_enter Tryz.func6, Tryz.ntmps6
      go_wp2_with fail
      refine (szS_any _ notes (left - (ref.size : Int) - (other.size : Int)) _ H.out.ns ⟨by omega, by omega⟩).mono ?_
      rintro e w1 ⟨r, rfl, hr, hb⟩
      have HB : Hid (Below w.heap.size w w1 ∧ RowL w1 (.slice a' lines.length cap') lines) := ⟨b0.trans (hb.mono (by simp)), H.out.ls.below hb⟩
      have c5 : w1.cell? ⟨w.heap.size, 5, none⟩ = some (.slice a' lines.length cap') := (hb.cell (p := ⟨w.heap.size, 5, none⟩) (by simp)).trans (by simp [go_sem])
      clear hb
      rcases hr with rfl | ⟨g0, g1, g2⟩
      · go_wp2
        go_ret
        exact ⟨_, rfl, .inl rfl, HB.out.1⟩
      · have g0' : ¬ r < 0 := by omega
        have H2 : Hid (BdS (left - (ref.size : Int) - (other.size : Int)).toNat notes) := g2
        clear g2
        go_wp2_with fail
        refine (szL_any _ lines r _ HB.out.2 ⟨g0, by omega⟩).mono ?_
        rintro e w2 ⟨r2, rfl, hr2, hb2⟩
        have HC : Hid (Below w.heap.size w w2) := HB.out.1.trans (hb2.mono HB.out.1.size)
        clear hb2
        rcases hr2 with rfl | ⟨k0, k1, k2⟩
        · go_wp2
          go_ret
          exact ⟨_, rfl, .inl rfl, HC.out⟩
        · have k0' : ¬ r2 < 0 := by omega
          have H3 : Hid (BdL r.toNat lines) := k2
          clear k2
          go_wp2
          go_ret
          exact ⟨_, rfl, .inr ⟨by omega, by omega, show ref.size ≤ left.toNat by omega, show other.size ≤ left.toNat by omega, H2.out.mono (by omega), H3.out.mono (by omega)⟩, HC.out⟩
end Go.Proofs.YtgecdmpokahahaaGreatDoor
namespace Go.Proofs.YtgecdmpokahahaaGreatDoor
open Go.ChangeShapes Go.WideShapes Go.ChangeAt Go.RowKit
theorem infoS : (Tryz.prog.info? 9).map (fun i => (i.zero, i.size, i.bytes)) = some (some (.string ⟨#[]⟩), 1, 16) := by kernel_rfl
/-- A list of texts in a block of its own, not below B. -/
def OwnS (B : Nat) (W : World) (v : Value) (ss : List ByteArray) : Prop := ∃ b, B ≤ b ∧ v = .slice (some ⟨b, 0, none⟩) ss.length ss.length ∧ W.rowIs b 9 ss.length (fun i => .string (ss[i]?.getD ⟨#[]⟩))
theorem OwnS.below {B : Nat} {W W' : World} {v : Value} {ss : List ByteArray} (h : OwnS B W v ss) (hb : Below W.heap.size W W') : OwnS B W' v ss := by
  obtain ⟨b, h1, h2, h3⟩ := h
  exact ⟨b, h1, h2, h3.of_block (hb.block b h3.lt)⟩
theorem OwnS.set {B : Nat} {W : World} {v : Value} {ss : List ByteArray} (h : OwnS (B + 1) W v ss) (i : Nat) (x : Value) : OwnS (B + 1) (W.setCell ⟨B, i, none⟩ x) v ss := by
  obtain ⟨b, h1, h2, h3⟩ := h
  exact ⟨b, h1, h2, h3.setOther (show b ≠ B by omega) x⟩
theorem OwnS.mono {B C : Nat} {W : World} {v : Value} {ss : List ByteArray} (h : OwnS B W v ss) (hC : C ≤ B) : OwnS C W v ss := by
  obtain ⟨b, h1, h2, h3⟩ := h
  exact ⟨b, by omega, h2, h3⟩
theorem OwnS.row {B : Nat} {W : World} {v : Value} {ss : List ByteArray} (h : OwnS B W v ss) (hl : ss.length ≤ 9223372036854775807) (hs : ∀ (i : Nat) (s : ByteArray), ss[i]? = some s → s.size ≤ 9223372036854775807) : RowS W v ss := by
  obtain ⟨b, h1, h2, h3⟩ := h
  refine ⟨⟨_, _, h2, fun _ => ⟨b, 0, rfl, fun i s hi => ?_⟩⟩, hl, hs⟩
  have := h3.cell (List.getElem?_eq_some_iff.1 hi).1
  rw [hi, Option.getD_some] at this
  rwa [Nat.zero_add]
set_option maxHeartbeats 1000000 in
theorem toS_any (v : Value) (ss : List ByteArray) (w : World) (h : RowS w v ss) (hn : ss.length ≤ 1048576) :
    Calls Tryz.prog 25 #[v] w fun e w' => ∃ v', e = .returned v' ∧ OwnS w.heap.size w' v' ss ∧ Below w.heap.size w w' := by
  have hlen := h.len
  obtain ⟨a, cap, rfl⟩ := h.val
  have H : Hid (RowS w (.slice a ss.length cap) ss) := h
  clear h
  have hmk := run_make_row' (P := Tryz.prog) 22 9 (.string ⟨#[]⟩) 16 Tryz.underlying22 infoS rfl .i64 .i64 ss.length (by omega) (by omega)
  go_enter Tryz.func25, Tryz.ntmps25
  go_wp2
  go_loopw [4] (fun i wr => ∃ k : Nat, i = .int .i64 (k : Int) ∧ k ≤ ss.length ∧ wr.rowIs w.heap.size 9 ss.length (fun j => if j < k then .string (ss[j]?.getD ⟨#[]⟩) else .string ⟨#[]⟩) ∧ Below w.heap.size w wr) (fun i _ => ss.length - (intOf i).toNat)
  case atStart => exact ⟨0, rfl, by omega, (World.rowIs_made w (.string ⟨#[]⟩) ss.length 9).congr (fun i _ => by simp), (Below.refl _ _).alloc (Nat.le_refl _) _⟩
  case round =>
    obtain ⟨k, rfl, hk, hR, hb⟩ := hrel
    by_cases hlt : k < ss.length
    · have hlt' : (k : Int) < (ss.length : Int) := by omega
      obtain ⟨b, o, cap', s, e, hs, hc, hsz⟩ := (H.out.below hb).at hlt
      simp only [Value.slice.injEq, true_and] at e
      obtain ⟨rfl, rfl⟩ := e
      have hfz := hR.frozen
      have hck := hR.cell hlt
      simp only [Nat.lt_irrefl, if_false] at hck
      have HS : Hid (ss[k]? = some s ∧ wr.rowIs w.heap.size 9 ss.length (fun j => if j < k then .string (ss[j]?.getD ⟨#[]⟩) else .string ⟨#[]⟩) ∧ Below w.heap.size w wr) := ⟨hs, hR, hb⟩
      clear hs hR hb
      go_wp2
      go_roundw
      case rel =>
        refine ⟨k + 1, by go_num, by omega, (HS.out.2.1.set k (.string s)).congr (fun j hj => ?_), HS.out.2.2.setCell (Nat.le_refl _) _⟩
        by_cases e : j = k
        · subst e
          rw [if_pos rfl, if_pos (by omega), HS.out.1, Option.getD_some]
        · rw [if_neg e]
          by_cases g : j < k
          · rw [if_pos g, if_pos (by omega)]
          · rw [if_neg g, if_neg (by omega)]
      case measure => simp [intOf]; omega
    · obtain rfl : k = ss.length := by omega
      have HS : Hid (wr.rowIs w.heap.size 9 ss.length (fun j => if j < ss.length then .string (ss[j]?.getD ⟨#[]⟩) else .string ⟨#[]⟩) ∧ Below w.heap.size w wr) := ⟨hR, hb⟩
      clear hR hb
      go_wp2
      go_ret
      exact ⟨_, rfl, ⟨w.heap.size, Nat.le_refl _, rfl, HS.out.1.congr (fun j hj => by rw [if_pos hj])⟩, HS.out.2⟩
theorem three (w : World) (o0 o1 o2 : Obj) : (((w.alloc o0).alloc o1).alloc o2).heap[w.heap.size]? = some o0 ∧ (((w.alloc o0).alloc o1).alloc o2).heap[w.heap.size + 1]? = some o1 ∧ (((w.alloc o0).alloc o1).alloc o2).heap[w.heap.size + 1 + 1]? = some o2 := by
  have e : (((w.alloc o0).alloc o1).alloc o2).heap = ((w.heap.push o0).push o1).push o2 := rfl
  rw [e]
  simp only [Array.getElem?_push, Array.size_push]
  refine ⟨?_, ?_, ?_⟩
  · rw [if_neg (by omega), if_neg (by omega), if_pos trivial]
  · rw [if_neg (by omega), if_pos trivial]
  · rw [if_pos trivial]
end Go.Proofs.YtgecdmpokahahaaGreatDoor
