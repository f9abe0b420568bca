/- Texts of ours put together: SameS. -/
import Derived.Test.YtkaolpnbddjdpaaGreatDoorG24
namespace Go.Proofs.YtkaolpnbddjdpaaGreatDoor
open Go.ChangeShapes Go.WideShapes Go.ChangeAt Go.RowKit
set_option maxHeartbeats 4000000 in
theorem paperSame_spec (p q : Pap) (vn vl vn' vl' : Value) (w : World) (h : PapR w vn vl p) (h' : PapR w vn' vl' q) :
    Calls Tryz.prog 39 #[.agg #[.int .i64 p.kind, .string p.ref, .string p.other, .int .i64 p.day, vn, vl], .agg #[.int .i64 q.kind, .string q.ref, .string q.other, .int .i64 q.day, vn', vl']] w fun e w' => (∃ B : Bool, e = .returned (.bool B) ∧ (B = true ↔ p = q)) ∧ Below w.heap.size w w' := by
  obtain ⟨kind, ref, other, day, notes, lines⟩ := p
  obtain ⟨kind', ref', other', day', notes', lines'⟩ := q
  obtain ⟨a, cap, rfl⟩ := h.ns.val
  obtain ⟨c, cap1, rfl⟩ := h.ls.val
  obtain ⟨a', cap', rfl⟩ := h'.ns.val
  obtain ⟨c', cap1', rfl⟩ := h'.ls.val
  dsimp only at h h' ⊢
  have l1 : notes.length ≤ 9223372036854775807 := h.ns.len
  have l2 : lines.length ≤ 9223372036854775807 := h.ls.len
  have l3 : notes'.length ≤ 9223372036854775807 := h'.ns.len
  have l4 : lines'.length ≤ 9223372036854775807 := h'.ls.len
  have b0 : Below w.heap.size w ((w.alloc (.cells #[.int .i64 kind, .string ref, .string other, .int .i64 day, .slice a notes.length cap, .slice c lines.length cap1] 66)).alloc (.cells #[.int .i64 kind', .string ref', .string other', .int .i64 day', .slice a' notes'.length cap', .slice c' lines'.length cap1'] 66)) := ((Below.refl _ _).alloc (Nat.le_refl _) _).alloc (by simp) _
  have H : Hid (PapR ((w.alloc (.cells #[.int .i64 kind, .string ref, .string other, .int .i64 day, .slice a notes.length cap, .slice c lines.length cap1] 66)).alloc (.cells #[.int .i64 kind', .string ref', .string other', .int .i64 day', .slice a' notes'.length cap', .slice c' lines'.length cap1'] 66)) (.slice a notes.length cap) (.slice c lines.length cap1) ⟨kind, ref, other, day, notes, lines⟩ ∧ PapR ((w.alloc (.cells #[.int .i64 kind, .string ref, .string other, .int .i64 day, .slice a notes.length cap, .slice c lines.length cap1] 66)).alloc (.cells #[.int .i64 kind', .string ref', .string other', .int .i64 day', .slice a' notes'.length cap', .slice c' lines'.length cap1'] 66)) (.slice a' notes'.length cap') (.slice c' lines'.length cap1') ⟨kind', ref', other', day', notes', lines'⟩) := ⟨h.below b0, h'.below b0⟩
  clear h h'
  by_cases e0 : kind = kind'
  · subst e0
    by_cases e1 : ref = ref'
    · subst e1
      by_cases e2 : other = other'
      · subst e2
        by_cases e3 : day = day'
        · subst e3
          by_cases e4 : notes.length = notes'.length
          · by_cases e5 : lines.length = lines'.length
            · have g1 : ((notes.length : Int) != (notes'.length : Int)) = false := by simp [e4]
              have g2 : ((notes.length : Int) == (notes'.length : Int)) = true := by simp [e4]
              have g3 : ((lines.length : Int) != (lines'.length : Int)) = false := by simp [e5]
              have g4 : ((lines.length : Int) == (lines'.length : Int)) = true := by simp [e5]
              have HE : Hid (notes.length = notes'.length ∧ lines.length = lines'.length) := ⟨e4, e5⟩
              clear e4 e5
              go_enter Tryz.func39, Tryz.ntmps39
              go_wp2
              have x4 : ((w.alloc (.cells #[.int .i64 kind, .string ref, .string other, .int .i64 day, .slice a notes.length cap, .slice c lines.length cap1] 66)).alloc (.cells #[.int .i64 kind, .string ref, .string other, .int .i64 day, .slice a' notes'.length cap', .slice c' lines'.length cap1'] 66)).cell? ⟨w.heap.size, 4, none⟩ = some (.slice a notes.length cap) := by simp [go_sem]
              have x5 : ((w.alloc (.cells #[.int .i64 kind, .string ref, .string other, .int .i64 day, .slice a notes.length cap, .slice c lines.length cap1] 66)).alloc (.cells #[.int .i64 kind, .string ref, .string other, .int .i64 day, .slice a' notes'.length cap', .slice c' lines'.length cap1'] 66)).cell? ⟨w.heap.size, 5, none⟩ = some (.slice c lines.length cap1) := by simp [go_sem]
              have y4 : ((w.alloc (.cells #[.int .i64 kind, .string ref, .string other, .int .i64 day, .slice a notes.length cap, .slice c lines.length cap1] 66)).alloc (.cells #[.int .i64 kind, .string ref, .string other, .int .i64 day, .slice a' notes'.length cap', .slice c' lines'.length cap1'] 66)).cell? ⟨w.heap.size + 1, 4, none⟩ = some (.slice a' notes'.length cap') := by simp [go_sem]
              have y5 : ((w.alloc (.cells #[.int .i64 kind, .string ref, .string other, .int .i64 day, .slice a notes.length cap, .slice c lines.length cap1] 66)).alloc (.cells #[.int .i64 kind, .string ref, .string other, .int .i64 day, .slice a' notes'.length cap', .slice c' lines'.length cap1'] 66)).cell? ⟨w.heap.size + 1, 5, none⟩ = some (.slice c' lines'.length cap1') := by simp [go_sem]
              generalize ((w.alloc (.cells #[.int .i64 kind, .string ref, .string other, .int .i64 day, .slice a notes.length cap, .slice c lines.length cap1] 66)).alloc (.cells #[.int .i64 kind, .string ref, .string other, .int .i64 day, .slice a' notes'.length cap', .slice c' lines'.length cap1'] 66)) = W0 at *
              have HB0 : Hid (Below w.heap.size w W0) := b0
              clear b0
              go_loopw [5] (fun i wr => ∃ k : Nat, i = .int .i64 (k : Int) ∧ k ≤ notes.length ∧ (∀ j, j < k → notes[j]? = notes'[j]?) ∧ Below W0.heap.size W0 wr) (fun i _ => notes.length - (intOf i).toNat)
              case atStart => exact ⟨0, rfl, by omega, fun j hj => by omega, Below.refl _ _⟩
              case round =>
                obtain ⟨k, rfl, hk, hA, hb⟩ := hrel
                have HA : Hid (∀ j, j < k → notes[j]? = notes'[j]?) := hA
                clear hA
                have xx4 := (hb.cell (cell_lt x4)).trans x4
                have xx5 := (hb.cell (cell_lt x5)).trans x5
                have yy4 := (hb.cell (cell_lt y4)).trans y4
                have yy5 := (hb.cell (cell_lt y5)).trans y5
                by_cases hlt : k < notes.length
                · have hlt' : (k : Int) < (notes.length : Int) := by omega
                  have hltt : (k : Int) < (notes'.length : Int) := by have := HE.out.1; omega
                  obtain ⟨b, o, c1, s, e, hs, hc, hsz⟩ := (H.out.1.ns.below hb).at hlt
                  obtain ⟨b', o', c2, s', e', hs', hc', hsz'⟩ := (H.out.2.ns.below hb).at (show k < notes'.length by omega)
                  simp only [Value.slice.injEq, true_and] at e e'
                  obtain ⟨rfl, rfl⟩ := e
                  obtain ⟨rfl, rfl⟩ := e'
                  have HB : Hid (Below W0.heap.size W0 wr ∧ notes[k]? = some s ∧ notes'[k]? = some s') := ⟨hb, hs, hs'⟩
                  clear hs hs' hb x4 x5 y4 y5
                  by_cases hne : s = s'
                  · subst hne
                    go_wp2
                    go_quiet (fail)
                    go_wp2
                    go_roundw
                    case rel =>
                      refine ⟨k + 1, by go_num, by omega, fun j hj => ?_, below_drewN HB.out.1 _⟩
                      rcases Nat.lt_or_ge j k with g | g
                      · exact HA.out j g
                      · obtain rfl : j = k := by omega
                        rw [HB.out.2.1, HB.out.2.2]
                    case measure => simp [intOf]; omega
                  · obtain ⟨n1, n2, n3⟩ := toList_ne hne
                    have HN : Hid (s ≠ s') := hne
                    clear hne
                    go_wp2
                    go_quiet (fail)
                    go_wp2
                    go_ret
                    have hnn : notes ≠ notes' := fun e => by rw [e, HB.out.2.2] at HB; exact HN.out (Option.some.inj HB.out.2.1).symm
                    exact ⟨⟨false, rfl, by simp [hnn]⟩, HB0.out.trans (below_drewN (HB.out.1.mono HB0.out.size) _)⟩
                · obtain rfl : k = notes.length := by omega
                  have hN : notes = notes' := List.ext_getElem? fun j => by
                    rcases Nat.lt_or_ge j notes.length with g | g
                    · exact HA.out j g
                    · rw [List.getElem?_eq_none g, List.getElem?_eq_none (by have := HE.out.1; omega)]
                  have HNN : Hid (notes = notes') := hN
                  clear hN
                  have HR : Hid (RowL wr (.slice c lines.length cap1) lines ∧ RowL wr (.slice c' lines'.length cap1') lines' ∧ Below w.heap.size w wr) := ⟨H.out.1.ls.below hb, H.out.2.ls.below hb, HB0.out.trans (hb.mono HB0.out.size)⟩
                  clear hb x4 x5 y4 y5 HB0 H

                  generalize hwo : wr = wo at *
                  clear hwo
                  go_wp2
                  go_loopw [6] (fun i wr => ∃ k : Nat, i = .int .i64 (k : Int) ∧ k ≤ lines.length ∧ (∀ j, j < k → lines[j]? = lines'[j]?) ∧ Below wo.heap.size wo wr) (fun i _ => lines.length - (intOf i).toNat)
                  case atStart => exact ⟨0, rfl, by omega, fun j hj => by omega, Below.refl _ _⟩
                  case round =>
                    obtain ⟨k, rfl, hk, hA, hb⟩ := hrel
                    have HA : Hid (∀ j, j < k → lines[j]? = lines'[j]?) := hA
                    clear hA
                    have x5 := (hb.cell (cell_lt xx5)).trans xx5
                    have y5 := (hb.cell (cell_lt yy5)).trans yy5
                    clear xx4 yy4 xx5 yy5
                    by_cases hlt : k < lines.length
                    · have hlt' : (k : Int) < (lines.length : Int) := by omega
                      have hltt : (k : Int) < (lines'.length : Int) := by have := HE.out.2; omega
                      obtain ⟨b, o, c1, s, e, hs, ⟨q0, q1, q2, q3, q4⟩, hsz⟩ := (HR.out.1.below hb).at hlt
                      obtain ⟨b', o', c2, s', e', hs', ⟨p0, p1, p2, p3, p4⟩, hsz'⟩ := (HR.out.2.1.below hb).at (show k < lines'.length by omega)
                      simp only [Value.slice.injEq, true_and] at e e'
                      obtain ⟨rfl, rfl⟩ := e
                      obtain ⟨rfl, rfl⟩ := e'
                      have HB : Hid (Below wo.heap.size wo wr ∧ lines[k]? = some s ∧ lines'[k]? = some s') := ⟨hb, hs, hs'⟩
                      clear hs hs' hb
                      by_cases hne : s = s'
                      · subst hne
                        have hrn : ∀ w, _ := run_neq_ln s s
                        rw [(lnE_iff s s).2 rfl] at hrn
                        simp only [Bool.not_true] at hrn
                        go_wp2
                        go_quiet (fail)
                        go_wp2
                        go_roundw
                        case rel =>
                          refine ⟨k + 1, by go_num, by omega, fun j hj => ?_, below_drewN HB.out.1 _⟩
                          rcases Nat.lt_or_ge j k with g | g
                          · exact HA.out j g
                          · obtain rfl : j = k := by omega
                            rw [HB.out.2.1, HB.out.2.2]
                        case measure => simp [intOf]; omega
                      · have hrn : ∀ w, _ := run_neq_ln s s'
                        rw [show lnE s s' = false from Bool.eq_false_iff.2 fun e => hne ((lnE_iff s s').1 e)] at hrn
                        simp only [Bool.not_false] at hrn
                        have HN : Hid (s ≠ s') := hne
                        clear hne
                        go_wp2
                        go_quiet (fail)
                        go_wp2
                        go_ret
                        have hnn : lines ≠ lines' := fun e => by rw [e, HB.out.2.2] at HB; exact HN.out (Option.some.inj HB.out.2.1).symm
                        exact ⟨⟨false, rfl, by simp [hnn]⟩, HR.out.2.2.trans (below_drewN (HB.out.1.mono HR.out.2.2.size) _)⟩
                    · obtain rfl : k = lines.length := by omega
                      have HB : Hid (Below w.heap.size w wr) := HR.out.2.2.trans (hb.mono HR.out.2.2.size)
                      clear hb
                      go_wp2
                      go_ret
                      have hEq : lines = lines' := List.ext_getElem? fun j => by
                        rcases Nat.lt_or_ge j lines.length with g | g
                        · exact HA.out j g
                        · rw [List.getElem?_eq_none g, List.getElem?_eq_none (by have := HE.out.2; omega)]
                      exact ⟨⟨true, rfl, by simp [hEq, HNN.out]⟩, HB.out⟩
            · have n1 : ((lines.length : Int) != (lines'.length : Int)) = true := by rw [bne_iff_ne]; omega
              have n2 : ((lines.length : Int) == (lines'.length : Int)) = false := by rw [beq_eq_false_iff_ne]; omega
              have n3 : ¬ (lines.length : Int) = (lines'.length : Int) := by omega
              have g1 : ((notes.length : Int) != (notes'.length : Int)) = false := by simp [e4]
              have g2 : ((notes.length : Int) == (notes'.length : Int)) = true := by simp [e4]
              have hnn : lines ≠ lines' := fun e => e5 (congrArg List.length e)
              have HN : Hid (lines ≠ lines') := hnn
              clear e4 e5 hnn
              go_enter Tryz.func39, Tryz.ntmps39
              go_wp2
              go_ret
              exact ⟨⟨false, rfl, by simp [HN.out]⟩, b0⟩
          · have n1 : ((notes.length : Int) != (notes'.length : Int)) = true := by rw [bne_iff_ne]; omega
            have n2 : ((notes.length : Int) == (notes'.length : Int)) = false := by rw [beq_eq_false_iff_ne]; omega
            have n3 : ¬ (notes.length : Int) = (notes'.length : Int) := by omega
            have hnn : notes ≠ notes' := fun e => e4 (congrArg List.length e)
            have HN : Hid (notes ≠ notes') := hnn
            clear e4 hnn
            go_enter Tryz.func39, Tryz.ntmps39
            go_wp2
            go_ret
            exact ⟨⟨false, rfl, by simp [HN.out]⟩, b0⟩
        · have n1 : (day != day') = true := by rw [bne_iff_ne]; exact e3
          have n2 : (day == day') = false := by rw [beq_eq_false_iff_ne]; exact e3
          go_enter Tryz.func39, Tryz.ntmps39
          go_wp2
          go_ret
          exact ⟨⟨false, rfl, by simp [e3]⟩, b0⟩
      · obtain ⟨n1, n2, n3⟩ := toList_ne e2
        go_enter Tryz.func39, Tryz.ntmps39
        go_wp2
        go_ret
        exact ⟨⟨false, rfl, by simp [e2]⟩, b0⟩
    · obtain ⟨n1, n2, n3⟩ := toList_ne e1
      go_enter Tryz.func39, Tryz.ntmps39
      go_wp2
      go_ret
      exact ⟨⟨false, rfl, by simp [e1]⟩, b0⟩
  · have n1 : (kind != kind') = true := by rw [bne_iff_ne]; exact e0
    have n2 : (kind == kind') = false := by rw [beq_eq_false_iff_ne]; exact e0
    go_enter Tryz.func39, Tryz.ntmps39
    go_wp2
    go_ret
    exact ⟨⟨false, rfl, by simp [e0]⟩, b0⟩
end Go.Proofs.YtkaolpnbddjdpaaGreatDoor
