/- Texts of ours put together: EscSpec. -/
import Derived.Test.YtkaolpnbddjdpaaGreatDoorG46
import Derived.Test.YtkaolpnbddjdpaaGreatDoorG47
import Derived.Deep.RegionWith
namespace Go.Proofs.YtkaolpnbddjdpaaGreatDoor
open Go.ChangeShapes Go.WideShapes Go.ChangeAt Go.RowKit
/-- A loop that collects bytes in a slice of its own: v owns the bytes xs; the blocks of L lie as they lay; nothing below n₀ has turned. -/
structure EL (n₀ : Nat) (L : List (Nat × Obj)) (w W : World) (v : Value) (xs : List Int) : Prop where
  row : W.ownsRow n₀ 5 1 v xs.length (xs.map (Value.int .u8))
  fix : ∀ p ∈ L, W.heap[p.1]? = some p.2
  bel : Below n₀ w W
  cl : ∀ p ∈ L, ∃ c t, p.2 = .cells c t ∧ t ≠ 5
  w0 : n₀ ≤ w.heap.size
theorem EL.lt {n₀ : Nat} {L : List (Nat × Obj)} {w W : World} {v : Value} {xs : List Int} (h : EL n₀ L w W v xs) {p : Nat × Obj} (hp : p ∈ L) : p.1 < W.heap.size := (Array.getElem?_eq_some_iff.1 (h.fix p hp)).1
theorem EL.sz {n₀ : Nat} {L : List (Nat × Obj)} {w W : World} {v : Value} {xs : List Int} (h : EL n₀ L w W v xs) : n₀ ≤ W.heap.size := Nat.le_trans h.w0 h.bel.size
theorem EL.not_row {n₀ : Nat} {L : List (Nat × Obj)} {w W : World} {v : Value} {xs : List Int} (h : EL n₀ L w W v xs) {p : Nat × Obj} (hp : p ∈ L) : some p.1 ≠ v.ownBlock := by
  intro e
  rcases h.row.2 with ⟨rfl, _⟩ | ⟨g, cap, cur, rfl, _, hgb, _⟩
  · simp [Value.ownBlock] at e
  · obtain rfl : p.1 = g := by simpa [Value.ownBlock] using e
    obtain ⟨c, t, e1, e2⟩ := h.cl p hp
    have := h.fix p hp
    rw [hgb, e1] at this
    cases this
    exact e2 rfl
theorem EL.below {n₀ : Nat} {L : List (Nat × Obj)} {w W W' : World} {v : Value} {xs : List Int} (h : EL n₀ L w W v xs) (hb : Below W.heap.size W W') : EL n₀ L w W' v xs := by
  have hg : W.grownBy W' none := ⟨hb.os, hb.tape, hb.output, hb.size, fun k hk _ => hb.block k hk⟩
  have hrk : W'.ownsRow n₀ 5 1 v xs.length (xs.map (Value.int .u8)) := by
    refine h.row.kept hg ?_
    rcases h.row.2 with ⟨rfl, _⟩ | ⟨g, cap, cur, rfl, _, hgb, _⟩
    · exact .inl rfl
    · exact .inr (by simp [Value.ownBlock])
  exact ⟨hrk, fun p hp => (hb.block p.1 (h.lt hp)).trans (h.fix p hp), h.bel.trans (hb.mono h.sz), h.cl, h.w0⟩
theorem EL.app {n₀ : Nat} {L : List (Nat × Obj)} {w W w1 : World} {v v' : Value} {xs : List Int} {x : Int} {tmp : Obj} (h : EL n₀ L w W v xs)
    (hown' : w1.ownsRow n₀ 5 1 v' (xs.length + 1) (xs.map (Value.int .u8) ++ [.int .u8 x])) (hgrow : (W.alloc tmp).grownBy w1 v.ownBlock) : EL n₀ L w w1 v' (xs ++ [x]) := by
  refine ⟨by simpa using hown', fun p hp => ?_, ?_, h.cl, h.w0⟩
  · have h1 := hgrow.block p.1 (by have := h.lt hp; simp; omega) (h.not_row hp)
    rw [h1, Below.heap_alloc W tmp p.1 (h.lt hp)]
    exact h.fix p hp
  · refine (h.bel.alloc h.sz tmp).grown hgrow (by have := h.sz; simp; omega) fun j ej => ?_
    rcases h.row.2 with ⟨rfl, _⟩ | ⟨g, cap, cur, rfl, hb, _, _⟩
    · simp [Value.ownBlock] at ej
    · obtain rfl : g = j := by simpa [Value.ownBlock] using ej
      exact hb
set_option maxHeartbeats 1000000 in
theorem own_any (a b c d x : Int) (w : World) (h0 : 0 ≤ x) (h1 : x ≤ 255) : Calls Tryz.prog 136 #[.agg #[.int .i64 a, .int .i64 b, .int .i64 c, .int .i64 d], .int .u8 x] w fun e w' => e = .returned (.bool (ownB a b c d x)) ∧ Below w.heap.size w w' := by
  unfold ownB
  cases ha : (x == a)
  · cases hb : (x == b)
    · cases hc : (x == c)
      · cases hd : (x == d)
        all_goals
          go_enter Tryz.func136, Tryz.ntmps136
          go_wp2
          go_ret
          exact ⟨rfl, (Below.refl _ _).alloc (Nat.le_refl _) _⟩
      · go_enter Tryz.func136, Tryz.ntmps136
        go_wp2
        go_ret
        exact ⟨rfl, (Below.refl _ _).alloc (Nat.le_refl _) _⟩
    · go_enter Tryz.func136, Tryz.ntmps136
      go_wp2
      go_ret
      exact ⟨rfl, (Below.refl _ _).alloc (Nat.le_refl _) _⟩
  · go_enter Tryz.func136, Tryz.ntmps136
    go_wp2
    go_ret
    exact ⟨rfl, (Below.refl _ _).alloc (Nat.le_refl _) _⟩
set_option maxHeartbeats 4000000 in
theorem l01Escape_any (a b c d : Int) (s : ByteArray) (w : World) (hs : s.size ≤ 20000) :
    Calls Tryz.prog 100 #[.agg #[.int .i64 a, .int .i64 b, .int .i64 c, .int .i64 d], .string s] w fun e w' => e = .returned (.string (strOfNums (esc a b c d (upto s d s.size)))) ∧ Below w.heap.size w w' := by
  have hs' : (s.size : Int) ≤ 20000 := by omega
  obtain ⟨i0, hi, hz0, hz1, hz2⟩ := info_parts info5
  go_enter Tryz.func100, Tryz.ntmps100
  go_wp2
  go_loopw [5, 6] (fun v i wr => ∃ k : Nat, k ≤ s.size ∧ i = .int .i64 k ∧ EL w.heap.size [(w.heap.size, (.cells #[.int .i64 a, .int .i64 b, .int .i64 c, .int .i64 d] 24))] w wr v (esc a b c d (upto s d k))) (fun _ i _ => s.size - (intOf i).toNat)
  case atStart =>
    refine ⟨0, Nat.zero_le _, rfl, ?_, ?_, ((Below.refl _ _).alloc (Nat.le_refl _) _).alloc (by simp) _, ?_, Nat.le_refl _⟩
    · have := World.ownsRow_made (base := w.heap.size) (e := 5) (size := 1) (w.alloc (.cells #[.int .i64 a, .int .i64 b, .int .i64 c, .int .i64 d] 24)) #[] 0 (by simp) (by unfold maxLen; omega) (by simp)
      simpa [esc, upto] using this
    · intro p hp
      obtain rfl : p = (w.heap.size, (.cells #[.int .i64 a, .int .i64 b, .int .i64 c, .int .i64 d] 24)) := by simpa using hp
      exact (Below.heap_alloc _ _ _ (by simp)).trans (World.alloc_heap_new w _)
    · intro p hp
      obtain rfl : p = (w.heap.size, (.cells #[.int .i64 a, .int .i64 b, .int .i64 c, .int .i64 d] 24)) := by simpa using hp
      exact ⟨_, _, rfl, by decide⟩
  case round =>
    obtain ⟨k, hk, rfl, hE⟩ := hrel
    by_cases hlt : k < s.size
    · have hlt' : (k : Int) < (s.size : Int) := by omega
      have hx := byt_bd s k
      have hxr := byt_raw s k hlt
      have hpl := esc_len a b c d (upto s d k)
      rw [upto_length] at hpl
      have hmx1 : (esc a b c d (upto s d k)).length + 1 ≤ maxLen := by unfold maxLen; omega
      have hpl2 : (esc a b c d (upto s d k) ++ [d % 256]).length ≤ 2 * k + 1 := by simp; omega
      have hmx2 : (esc a b c d (upto s d k) ++ [d % 256]).length + 1 ≤ maxLen := by unfold maxLen; omega
      have f1 := hE.fix _ (List.mem_cons_self ..)
      have c0 : wr.cell? ⟨w.heap.size, 0, none⟩ = some (.int .i64 a) := by simp [World.cell?, f1]
      have c1 : wr.cell? ⟨w.heap.size, 1, none⟩ = some (.int .i64 b) := by simp [World.cell?, f1]
      have c2 : wr.cell? ⟨w.heap.size, 2, none⟩ = some (.int .i64 c) := by simp [World.cell?, f1]
      have c3 : wr.cell? ⟨w.heap.size, 3, none⟩ = some (.int .i64 d) := by simp [World.cell?, f1]
      clear f1
      have HX : Hid (((s[k]'hlt).toNat : Int) = byt s k) := hxr
      clear hxr
      go_wp2_with fail
      go_region_with (go_at_call 136; refine (own_any a b c d _ _ (by have := HX.out; omega) (by have := HX.out; omega)).mono ?_; rintro e w3 ⟨rfl, hb3⟩)
      all_goals
        have hE3 := (hE.below (Below.refl _ _).drew).below hb3
        have f1 := hE3.fix _ (List.mem_cons_self ..)
        have d3 : w3.cell? ⟨w.heap.size, 3, none⟩ = some (.int .i64 d) := by simp [World.cell?, f1]
        clear f1 c0 c1 c2 c3
        cases hm : ownB a b c d ((s[k]'hlt).toNat : Int)
        · have tok1 : True := trivial
          go_wp2_with (at_builtin; have _t := tok1; refine wpList_append_own _ rfl _ _ 22 rfl w.heap.size 5 i0 (.int .u8 0) 1 1 Tryz.underlying22 hi hz0 hz1 hz2 rfl (by decide) _ _ _ rfl (hE3.row.alloc _) ⟨_, 0, none⟩ 1 1 [.int .u8 ((s[k]'hlt).toNat : Int)] rfl rfl (cell_one_at _ _ _ _ (by simp)) (by simp [Value.oneCell']) hmx1 (by omega) (by have := hE3.sz; simp at this ⊢; omega) ?_; intro v4 w4 hown2 hgrow2 _; have hE4 := hE3.app hown2 hgrow2; clear tok1 hown2 hgrow2)
          rw [show esc a b c d (upto s d k) ++ [((s[k]'hlt).toNat : Int)] = esc a b c d (upto s d (k + 1)) by rw [upto_succ, esc_snoc]; unfold item; rw [byte_getD s k hlt]; unfold esc1; rw [if_neg (by rw [hm]; simp)]] at hE4
          go_roundw
          case rel => exact ⟨k + 1, by omega, by go_num, hE4⟩
          case measure => simp [intOf]; omega
        · have tok1 : True := trivial
          have tok2 : True := trivial
          go_wp2_with (first | (at_builtin; have _t := tok1; refine wpList_append_own _ rfl _ _ 22 rfl w.heap.size 5 i0 (.int .u8 0) 1 1 Tryz.underlying22 hi hz0 hz1 hz2 rfl (by decide) _ _ _ rfl (hE3.row.alloc _) ⟨_, 0, none⟩ 1 1 [.int .u8 (d % 256)] rfl rfl (cell_one_at _ _ _ _ (by simp)) (by simp [Value.oneCell']) hmx1 (by omega) (by have := hE3.sz; simp at this ⊢; omega) ?_; intro v4 w4 hown2 hgrow2 _; have hE4 := hE3.app hown2 hgrow2; clear tok1 hown2 hgrow2) | (at_builtin; have _t := tok2; refine wpList_append_own _ rfl _ _ 22 rfl w.heap.size 5 i0 (.int .u8 0) 1 1 Tryz.underlying22 hi hz0 hz1 hz2 rfl (by decide) _ _ _ rfl (hE4.row.alloc _) ⟨_, 0, none⟩ 1 1 [.int .u8 ((s[k]'hlt).toNat : Int)] rfl rfl (cell_one_at _ _ _ _ (by simp)) (by simp [Value.oneCell']) hmx2 (by omega) (by have := hE4.sz; simp at this ⊢; omega) ?_; intro v5 w5 hown2 hgrow2 _; have hE5 := hE4.app hown2 hgrow2; clear tok2 hown2 hgrow2))
          rw [show esc a b c d (upto s d k) ++ [d % 256] ++ [((s[k]'hlt).toNat : Int)] = esc a b c d (upto s d (k + 1)) by rw [upto_succ, esc_snoc]; unfold item; rw [byte_getD s k hlt]; unfold esc1; rw [if_pos hm, List.append_assoc]; rfl] at hE5
          go_roundw
          case rel => exact ⟨k + 1, by omega, by go_num, hE5⟩
          case measure => simp [intOf]; omega
    · obtain rfl : k = s.size := by omega
      have hcv := conv_row hE.row
      have HE : Hid (Below w.heap.size w wr) := hE.bel
      clear hE
      go_wp2
      go_ret
      exact ⟨rfl, HE.out⟩
end Go.Proofs.YtkaolpnbddjdpaaGreatDoor
