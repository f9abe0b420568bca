/- Texts of ours put together: SameSeg. -/
import Derived.Test.YtkaolpnbddjdpaaGreatDoorG00
import Derived.Deep.RegionHeld3
import Derived.Deep.QuietTactic
import Derived.BigQuiet
namespace Go.Proofs.YtkaolpnbddjdpaaGreatDoor
open Go.ChangeShapes Go.WideShapes Go.ChangeAt Go.RowKit
/-- Two boxes of segments. -/
structure B2 (w W : World) (tag tag2 : ByteArray) (A A2 : Option Addr) (n C n2 C2 : Nat) : Prop where
  b1 : W.heap[w.heap.size]? = some (.cells #[.string tag, .slice A n C] 90)
  b2 : W.heap[w.heap.size + 1]? = some (.cells #[.string tag2, .slice A2 n2 C2] 90)
  bel : Below w.heap.size w W
theorem B2.below {w W W' : World} {tag tag2 : ByteArray} {A A2 : Option Addr} {n C n2 C2 : Nat} (h : B2 w W tag tag2 A A2 n C n2 C2) (hb : Below W.heap.size W W') : B2 w W' tag tag2 A A2 n C n2 C2 :=
  ⟨(hb.block _ (Array.getElem?_eq_some_iff.1 h.b1).1).trans h.b1, (hb.block _ (Array.getElem?_eq_some_iff.1 h.b2).1).trans h.b2, h.bel.trans (hb.mono h.bel.size)⟩
theorem B2.cells {w W : World} {tag tag2 : ByteArray} {A A2 : Option Addr} {n C n2 C2 : Nat} (h : B2 w W tag tag2 A A2 n C n2 C2) : W.cell? ⟨w.heap.size, 1, none⟩ = some (.slice A n C) ∧ W.cell? ⟨w.heap.size + 1, 1, none⟩ = some (.slice A2 n2 C2) := by
  have h1 := h.b1
  have h2 := h.b2
  exact ⟨by simp [World.cell?, h1], by simp [World.cell?, h2]⟩
theorem belN {B : Nat} {a w : World} (h : Below B a w) (n : Nat) : Below B a (w.drewN n) := below_drewN h n
theorem list_ne_at {α : Type} {l m : List α} {i : Nat} {x y : α} (h1 : l[i]? = some x) (h2 : m[i]? = some y) (hn : x ≠ y) : ¬ l = m := by
  intro e
  rw [e, h2] at h1
  exact hn (Option.some.inj h1).symm
theorem list_eq_of {α : Type} {l m : List α} (hl : l.length = m.length) (h : ∀ j, j < l.length → l[j]? = m[j]?) : l = m := by
  apply List.ext_getElem? 
  intro i
  rcases Nat.lt_or_ge i l.length with q | q
  · exact h i q
  · rw [List.getElem?_eq_none q, List.getElem?_eq_none (by omega)]
theorem next_eq {α : Type} {l m : List α} {k : Nat} {x : α} (h : ∀ j, j < k → l[j]? = m[j]?) (h1 : l[k]? = some x) (h2 : m[k]? = some x) : ∀ j, j < k + 1 → l[j]? = m[j]? := by
  intro j hj
  rcases Nat.lt_or_ge j k with q | q
  · exact h j q
  · obtain rfl : j = k := by omega
    rw [h1, h2]
set_option maxHeartbeats 4000000 in
theorem sameSeg_any (tag tag2 : ByteArray) (v v2 : Value) (es es2 : List (List ByteArray)) (w : World) (h : RowE w v es) (h2 : RowE w v2 es2) :
    Calls Tryz.prog 119 #[.agg #[.string tag, v], .agg #[.string tag2, v2]] w fun e w' => e = .returned (.bool (decide (tag = tag2 ∧ es = es2))) ∧ Below w.heap.size w w' := by
  obtain ⟨A, C, rfl⟩ := h.val
  obtain ⟨A2, C2, rfl⟩ := h2.val
  have b0 : Below w.heap.size w ((w.alloc (.cells #[.string tag, .slice A es.length C] 90)).alloc (.cells #[.string tag2, .slice A2 es2.length C2] 90)) := ((Below.refl _ _).alloc (Nat.le_refl _) _).alloc (by simp) _
  have hB : B2 w ((w.alloc (.cells #[.string tag, .slice A es.length C] 90)).alloc (.cells #[.string tag2, .slice A2 es2.length C2] 90)) tag tag2 A A2 es.length C es2.length C2 := ⟨(Below.heap_alloc _ _ _ (by simp)).trans (World.alloc_heap_new w _), heap_new2 w _ _, b0⟩
  have H : Hid (RowE w (.slice A es.length C) es ∧ RowE w (.slice A2 es2.length C2) es2 ∧ B2 w ((w.alloc (.cells #[.string tag, .slice A es.length C] 90)).alloc (.cells #[.string tag2, .slice A2 es2.length C2] 90)) tag tag2 A A2 es.length C es2.length C2) := ⟨h, h2, hB⟩
  have hn1 := h.len
  have hn2 := h2.len
  clear h h2 b0 hB
  go_enter Tryz.func119, Tryz.ntmps119
  by_cases ht : tag = tag2
  · subst ht
    by_cases hl : es.length = es2.length
    · have HL : Hid (es.length = es2.length) := hl
      have H' : Hid (RowE w (.slice A es.length C) es ∧ RowE w (.slice A2 es.length C2) es2 ∧ B2 w ((w.alloc (.cells #[.string tag, .slice A es.length C] 90)).alloc (.cells #[.string tag, .slice A2 es.length C2] 90)) tag tag A A2 es.length C es.length C2) := by rw [← hl] at H; exact H
      rw [← hl]
      clear H hl hn2
      go_wp2
      go_loopw [5, 6] (fun iv _ wr => ∃ i : Nat, i ≤ es.length ∧ iv = .int .i64 i ∧ (∀ j, j < i → es[j]? = es2[j]?) ∧ B2 w wr tag tag A A2 es.length C es.length C2) (fun iv _ _ => es.length - (intOf iv).toNat)
      case atStart => exact ⟨0, Nat.zero_le _, rfl, fun j hj => by omega, H'.out.2.2⟩
      case round =>
        obtain ⟨i, hi, rfl, hE, hB⟩ := hrel
        rename World => W1
        obtain ⟨c1, c2⟩ := hB.cells
        have HE : Hid ((∀ j, j < i → es[j]? = es2[j]?) ∧ B2 w W1 tag tag A A2 es.length C es.length C2) := ⟨hE, hB⟩
        by_cases hlt : i < es.length
        · have hlt' : (i : Int) < (es.length : Int) := by omega
          obtain ⟨b, o, cap', s, u, e, hs, hc, hS⟩ := (H'.out.1.below hB.bel).at hlt
          simp only [Value.slice.injEq, true_and] at e
          obtain ⟨rfl, rfl⟩ := e
          obtain ⟨b', o', cap2', s2, u2, e, hs2, hc2, hS2⟩ := (H'.out.2.1.below hB.bel).at (show i < es2.length by rw [← HL.out]; exact hlt)
          simp only [Value.slice.injEq] at e
          obtain ⟨rfl, _, rfl⟩ := e
          obtain ⟨D, K, rfl⟩ := hS.val
          obtain ⟨D2, K2, rfl⟩ := hS2.val
          have m1 := hS.len
          have m2 := hS2.len
          by_cases hls : s.length = s2.length
          · rw [← hls] at hc2
            have HS : Hid (es[i]? = some s ∧ es2[i]? = some s2 ∧ RowS W1 (.slice D s.length K) s ∧ RowS W1 (.slice D2 s.length K2) s2 ∧ s.length = s2.length) := ⟨hs, hs2, hS, by rw [hls]; exact hS2, hls⟩
            clear hs hs2 hS hS2 hE hB hls m2
            go_wp2_with fail
            go_quiet (fail)
            go_wp2
            go_loopw [6] (fun kv wq => ∃ k : Nat, k ≤ s.length ∧ kv = .int .i64 k ∧ (∀ j, j < k → s[j]? = s2[j]?) ∧ Below W1.heap.size W1 wq) (fun kv _ => s.length - (intOf kv).toNat)
            case atStart => exact ⟨0, Nat.zero_le _, rfl, fun j hj => by omega, belN (Below.refl _ _) _⟩
            case round =>
              obtain ⟨k, hk, rfl, hq, hbq⟩ := hrel
              obtain ⟨d1, d2⟩ := (HE.out.2.below hbq).cells
              have gc := (hbq.cell (cell_lt hc)).trans hc
              have gc2 := (hbq.cell (cell_lt hc2)).trans hc2
              have HQ : Hid ((∀ j, j < k → s[j]? = s2[j]?) ∧ Below W1.heap.size W1 wr) := ⟨hq, hbq⟩
              by_cases hkl : k < s.length
              · have hkl' : (k : Int) < (s.length : Int) := by omega
                obtain ⟨p, r, cp, x, e, hx, kx, hz⟩ := (HS.out.2.2.1.below hbq).at hkl
                simp only [Value.slice.injEq, true_and] at e
                obtain ⟨rfl, rfl⟩ := e
                obtain ⟨p2, r2, cp2, x2, e, hx2, kx2, hz2⟩ := (HS.out.2.2.2.1.below hbq).at (show k < s2.length by rw [← HS.out.2.2.2.2]; exact hkl)
                simp only [Value.slice.injEq] at e
                obtain ⟨rfl, _, rfl⟩ := e
                by_cases hxx : x = x2
                · subst hxx
                  have HN : Hid (∀ j, j < k + 1 → s[j]? = s2[j]?) := next_eq hq hx hx2
                  clear hx hx2 hq hbq
                  go_wp2_with fail
                  go_quiet (fail)
                  go_wp2
                  go_roundw
                  case rel => exact ⟨k + 1, by omega, by go_num, HN.out, belN HQ.out.2 _⟩
                  case measure => simp [intOf]; omega
                · obtain ⟨n1, n2, n3⟩ := toList_neq hxx
                  have HN : Hid (¬ es = es2) := list_ne_at HS.out.1 HS.out.2.1 (list_ne_at hx hx2 hxx)
                  clear hx hx2 hq hbq
                  go_wp2_with fail
                  go_quiet (fail)
                  go_wp2
                  go_ret
                  exact ⟨ret_bool (by simp [HN.out]), HE.out.2.bel.trans ((belN HQ.out.2 _).mono HE.out.2.bel.size)⟩
              · obtain rfl : k = s.length := by omega
                have HN : Hid (∀ j, j < i + 1 → es[j]? = es2[j]?) := next_eq HE.out.1 HS.out.1 (by rw [HS.out.2.1, list_eq_of HS.out.2.2.2.2 hq])
                clear hq hbq
                go_wp2
                go_roundw
                case rel => exact ⟨i + 1, by omega, by go_num, HN.out, HE.out.2.below HQ.out.2⟩
                case measure => simp [intOf]; omega
          · have hls' : ¬ (s.length : Int) = (s2.length : Int) := by omega
            have HN : Hid (¬ es = es2) := list_ne_at hs hs2 (fun e => hls (by rw [e]))
            clear hs hs2 hS hS2 hE hB
            go_wp2_with fail
            go_quiet (fail)
            go_wp2
            go_ret
            exact ⟨ret_bool (by simp [HN.out]), belN HE.out.2.bel _⟩
        · obtain rfl : i = es.length := by omega
          have HN : Hid (es = es2) := list_eq_of HL.out hE
          clear hE hB
          go_wp2
          go_ret
          exact ⟨ret_bool (by simp [HN.out]), HE.out.2.bel⟩
    · have hl' : ¬ (es.length : Int) = (es2.length : Int) := by omega
      have HN : Hid (¬ es = es2) := fun e => hl (by rw [e])
      go_wp2
      go_ret
      exact ⟨ret_bool (by simp [HN.out]), H.out.2.2.bel⟩
  · obtain ⟨n1, n2, n3⟩ := toList_neq ht
    go_wp2
    go_ret
    exact ⟨ret_bool (by simp [ht]), H.out.2.2.bel⟩
end Go.Proofs.YtkaolpnbddjdpaaGreatDoor
