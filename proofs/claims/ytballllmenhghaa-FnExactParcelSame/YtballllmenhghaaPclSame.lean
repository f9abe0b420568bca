/- Contracts of impl.ParcelSame and spec.ParcelSame: they tell whether two parcels are the same. -/
import Derived.Test.YtballllmenhghaaRowPs
import Derived.Test.YtballllmenhghaaSameI
import Derived.Test.YtballllmenhghaaSameS
namespace Go.Proofs.Ytballllmenhghaa
open Go.ChangeShapes Go.WideShapes Go.ChangeAt Go.RowKit
set_option maxHeartbeats 8000000 in
theorem parcelSame_impl (p q : Pcl) (v v' : Value) (w : World) (h : PclR w v p) (h' : PclR w v' q) :
    Calls Try.prog 7 #[.agg #[.string p.frm, .string p.to, .int .i64 p.num, v], .agg #[.string q.frm, .string q.to, .int .i64 q.num, v']] w fun e w' => (∃ B : Bool, e = .returned (.bool B) ∧ (B = true ↔ p = q)) ∧ Below w.heap.size w w' := by
  obtain ⟨frm, to, num, ps⟩ := p
  obtain ⟨frm', to', num', ps'⟩ := q
  have hlen := h.ps.len
  have hlen' := h'.ps.len
  obtain ⟨a, cap, rfl⟩ := h.ps.val
  obtain ⟨a', cap', rfl⟩ := h'.ps.val
  dsimp only at h h' hlen hlen' ⊢
  simp only [Pcl.mk.injEq]
  have b0 : Below w.heap.size w ((w.alloc (.cells #[.string frm, .string to, .int .i64 num, .slice a ps.length cap] 29)).alloc (.cells #[.string frm', .string to', .int .i64 num', .slice a' ps'.length cap'] 29)) := ((Below.refl _ _).alloc (Nat.le_refl _) _).alloc (by simp) _
  have H : Hid (RowPs ((w.alloc (.cells #[.string frm, .string to, .int .i64 num, .slice a ps.length cap] 29)).alloc (.cells #[.string frm', .string to', .int .i64 num', .slice a' ps'.length cap'] 29)) (.slice a ps.length cap) ps ∧ RowPs ((w.alloc (.cells #[.string frm, .string to, .int .i64 num, .slice a ps.length cap] 29)).alloc (.cells #[.string frm', .string to', .int .i64 num', .slice a' ps'.length cap'] 29)) (.slice a' ps'.length cap') ps') := ⟨h.ps.below b0, h'.ps.below b0⟩
  clear h h'
  by_cases e1 : frm = frm'
  · subst e1
    by_cases e2 : to = to'
    · subst e2
      by_cases e3 : num = num'
      · subst e3
        by_cases e4 : ps.length = ps'.length
        · have g1 : ((ps.length : Int) != (ps'.length : Int)) = false := by simp [e4]
          have g2 : ((ps.length : Int) == (ps'.length : Int)) = true := by simp [e4]
          have HE : Hid (ps.length = ps'.length) := e4
          clear e4
          go_enter Try.func7, Try.ntmps7
          go_wp2
          have x3 : ((w.alloc (.cells #[.string frm, .string to, .int .i64 num, .slice a ps.length cap] 29)).alloc (.cells #[.string frm, .string to, .int .i64 num, .slice a' ps'.length cap'] 29)).cell? ⟨w.heap.size, 3, none⟩ = some (.slice a ps.length cap) := by simp [go_sem]
          have y3 : ((w.alloc (.cells #[.string frm, .string to, .int .i64 num, .slice a ps.length cap] 29)).alloc (.cells #[.string frm, .string to, .int .i64 num, .slice a' ps'.length cap'] 29)).cell? ⟨w.heap.size + 1, 3, none⟩ = some (.slice a' ps'.length cap') := by simp [go_sem]
          generalize ((w.alloc (.cells #[.string frm, .string to, .int .i64 num, .slice a ps.length cap] 29)).alloc (.cells #[.string frm, .string to, .int .i64 num, .slice a' ps'.length cap'] 29)) = W0 at *
          have HB0 : Hid (Below w.heap.size w W0) := b0
          clear b0
          go_loopw [38] (fun i wr => ∃ k : Nat, i = .int .i64 (k : Int) ∧ k ≤ ps.length ∧ (∀ j, j < k → ps[j]? = ps'[j]?) ∧ Below W0.heap.size W0 wr) (fun i _ => ps.length - (intOf i).toNat)
          case atStart => exact ⟨0, rfl, by omega, fun j hj => by omega, Below.refl _ _⟩
          case round =>
            obtain ⟨k, rfl, hk, hA, hb⟩ := hrel
            have HA : Hid (∀ j, j < k → ps[j]? = ps'[j]?) := hA
            clear hA
            have xx3 := (hb.cell (cell_lt x3)).trans x3
            have yy3 := (hb.cell (cell_lt y3)).trans y3
            by_cases hlt : k < ps.length
            · have hlt' : (k : Int) < (ps.length : Int) := by omega
              have hltt : (k : Int) < (ps'.length : Int) := by have := HE.out; omega
              obtain ⟨b, o, c1, g, vn, vl, e, hs, A, hR⟩ := (H.out.1.below hb).at hlt
              obtain ⟨b', o', c2, g', vn', vl', e', hs', A', hR'⟩ := (H.out.2.below hb).at (show k < ps'.length by omega)
              simp only [Value.slice.injEq, true_and] at e e'
              obtain ⟨rfl, rfl⟩ := e
              obtain ⟨rfl, rfl⟩ := e'
              obtain ⟨nA, nc, rfl⟩ := hR.ns.val
              obtain ⟨lA, lc, rfl⟩ := hR.ls.val
              obtain ⟨nA', nc', rfl⟩ := hR'.ns.val
              obtain ⟨lA', lc', rfl⟩ := hR'.ls.val
              have HB : Hid (Below w.heap.size w wr ∧ Below W0.heap.size W0 wr ∧ ps[k]? = some g ∧ ps'[k]? = some g') := ⟨HB0.out.trans (hb.mono HB0.out.size), hb, hs, hs'⟩
              clear hs hs' hb x3 y3
              obtain ⟨q0, q1, q2, q3, q4, q5⟩ := A
              go_wp2_with fail
              have bA : Below wr.heap.size wr (wr.alloc (.cells #[.int .i64 g.kind, .string g.ref, .string g.other, .int .i64 g.day, (.slice nA g.notes.length nc), (.slice lA g.lines.length lc)] 37)) := (Below.refl _ _).alloc (Nat.le_refl _) _
              have A0 : PapAt (wr.alloc (.cells #[.int .i64 g.kind, .string g.ref, .string g.other, .int .i64 g.day, (.slice nA g.notes.length nc), (.slice lA g.lines.length lc)] 37)) wr.heap.size 0 (.slice nA g.notes.length nc) (.slice lA g.lines.length lc) g := ⟨by simp [go_sem], by simp [go_sem], by simp [go_sem], by simp [go_sem], by simp [go_sem], by simp [go_sem]⟩
              generalize (wr.alloc (.cells #[.int .i64 g.kind, .string g.ref, .string g.other, .int .i64 g.day, (.slice nA g.notes.length nc), (.slice lA g.lines.length lc)] 37)) = WA at *
              have A1 := A'.below bA
              have R0 := hR.below bA
              have R1 := hR'.below bA
              have yw := (bA.cell (cell_lt yy3)).trans yy3
              have HBA : Hid (Below w.heap.size w WA ∧ Below W0.heap.size W0 WA) := ⟨HB.out.1.trans (bA.mono HB.out.1.size), HB.out.2.1.trans (bA.mono HB.out.2.1.size)⟩
              clear q0 q1 q2 q3 q4 q5 A' hR hR' bA
              have HR : Hid (PapR WA (.slice nA g.notes.length nc) (.slice lA g.lines.length lc) g ∧ PapR WA (.slice nA' g'.notes.length nc') (.slice lA' g'.lines.length lc') g') := ⟨R0, R1⟩
              have A2 := A0
              have A3 := A1
              clear R0 R1
              obtain ⟨q0, q1, q2, q3, q4, q5⟩ := A2
              obtain ⟨p0, p1, p2, p3, p4, p5⟩ := A3
              have HPA : Hid (PapAt WA wr.heap.size 0 (.slice nA g.notes.length nc) (.slice lA g.lines.length lc) g ∧ PapAt WA b' (o' + k * 6) (.slice nA' g'.notes.length nc') (.slice lA' g'.lines.length lc') g') := ⟨A0, A1⟩
              clear A0 A1
              go_region_held3 (fun W => W.cell? ⟨wr.heap.size, 0, none⟩ = some (.int .i64 g.kind) ∧ W.cell? ⟨wr.heap.size, 1, none⟩ = some (.string g.ref) ∧ W.cell? ⟨wr.heap.size, 2, none⟩ = some (.string g.other) ∧ W.cell? ⟨wr.heap.size, 3, none⟩ = some (.int .i64 g.day) ∧ W.cell? ⟨wr.heap.size, 4, none⟩ = some ((.slice nA g.notes.length nc)) ∧ W.cell? ⟨wr.heap.size, 5, none⟩ = some ((.slice lA g.lines.length lc)) ∧ W.cell? ⟨b', o' + k * 6, none⟩ = some (.int .i64 g'.kind) ∧ W.cell? ⟨b', o' + k * 6 + 1, none⟩ = some (.string g'.ref) ∧ W.cell? ⟨b', o' + k * 6 + 2, none⟩ = some (.string g'.other) ∧ W.cell? ⟨b', o' + k * 6 + 3, none⟩ = some (.int .i64 g'.day) ∧ W.cell? ⟨b', o' + k * 6 + 4, none⟩ = some ((.slice nA' g'.notes.length nc')) ∧ W.cell? ⟨b', o' + k * 6 + 5, none⟩ = some ((.slice lA' g'.lines.length lc')) ∧ W.cell? ⟨w.heap.size + 1, 3, none⟩ = some (.slice (some ⟨b', o', none⟩) ps'.length cap')) (go_keep) (first | (go_at_call 12; refine (paperSame_impl g g' _ _ _ _ _ (HR.out.1.below (Below.refl _ _).drew) (HR.out.2.below (Below.refl _ _).drew)).mono ?_; rintro e w2 ⟨⟨Bs, rfl, hBs⟩, hb2⟩; obtain ⟨y0, y1, y2, y3, y4, y5⟩ := (HPA.out.1.below (Below.refl _ _).drew).below hb2; obtain ⟨z0, z1, z2, z3, z4, z5⟩ := (HPA.out.2.below (Below.refl _ _).drew).below hb2; have yd := (hb2.cell (p := ⟨w.heap.size + 1, 3, none⟩) (cell_lt yw)).trans yw; have HBs : Hid (Bs = true ↔ g = g') := hBs; clear hBs))
              have HB2 : Hid (Below w.heap.size w w2 ∧ Below W0.heap.size W0 w2) := ⟨HBA.out.1.drew.trans (hb2.mono HBA.out.1.size), HBA.out.2.drew.trans (hb2.mono HBA.out.2.size)⟩
              clear hb2
              rename_i hHeld
              clear hHeld
              cases Bs
              · go_wp2
                go_ret
                have hne : g ≠ g' := fun e => by have := HBs.out.2 e; simp at this
                have hnn : ps ≠ ps' := fun e => by rw [e, HB.out.2.2.2] at HB; exact hne (Option.some.inj HB.out.2.2.1).symm
                exact ⟨⟨false, rfl, by simp [hnn]⟩, HB2.out.1⟩
              · have Hge : Hid (g = g') := HBs.out.1 rfl
                go_wp2
                go_roundw
                case rel =>
                  refine ⟨k + 1, by go_num, by omega, fun j hj => ?_, HB2.out.2⟩
                  rcases Nat.lt_or_ge j k with q | q
                  · exact HA.out j q
                  · obtain rfl : j = k := by omega
                    rw [HB.out.2.2.1, HB.out.2.2.2, Hge.out]
                case measure => simp [intOf]; omega
            · obtain rfl : k = ps.length := by omega
              have HB : Hid (Below w.heap.size w wr) := HB0.out.trans (hb.mono HB0.out.size)
              clear hb
              go_wp2
              go_ret
              have hEq : ps = ps' := List.ext_getElem? fun j => by
                rcases Nat.lt_or_ge j ps.length with g | g
                · exact HA.out j g
                · rw [List.getElem?_eq_none g, List.getElem?_eq_none (by have := HE.out; omega)]
              exact ⟨⟨true, rfl, by simp [hEq]⟩, HB.out⟩
        · have n1 : ((ps.length : Int) != (ps'.length : Int)) = true := by rw [bne_iff_ne]; omega
          have n2 : ((ps.length : Int) == (ps'.length : Int)) = false := by rw [beq_eq_false_iff_ne]; omega
          have n3 : ¬ (ps.length : Int) = (ps'.length : Int) := by omega
          have hnn : ps ≠ ps' := fun e => e4 (congrArg List.length e)
          have HN : Hid (ps ≠ ps') := hnn
          clear e4 hnn
          go_enter Try.func7, Try.ntmps7
          go_wp2
          go_ret
          exact ⟨⟨false, rfl, by simp [HN.out]⟩, b0⟩
      · have n1 : (num != num') = true := by rw [bne_iff_ne]; exact e3
        have n2 : (num == num') = false := by rw [beq_eq_false_iff_ne]; exact e3
        go_enter Try.func7, Try.ntmps7
        go_wp2
        go_ret
        exact ⟨⟨false, rfl, by simp [e3]⟩, b0⟩
    · obtain ⟨n1, n2, n3⟩ := toList_ne e2
      go_enter Try.func7, Try.ntmps7
      go_wp2
      go_ret
      exact ⟨⟨false, rfl, by simp [e2]⟩, b0⟩
  · obtain ⟨n1, n2, n3⟩ := toList_ne e1
    go_enter Try.func7, Try.ntmps7
    go_wp2
    go_ret
    exact ⟨⟨false, rfl, by simp [e1]⟩, b0⟩
set_option maxHeartbeats 8000000 in
theorem parcelSame_spec (p q : Pcl) (v v' : Value) (w : World) (h : PclR w v p) (h' : PclR w v' q) :
    Calls Try.prog 5 #[.agg #[.string p.frm, .string p.to, .int .i64 p.num, v], .agg #[.string q.frm, .string q.to, .int .i64 q.num, v']] w fun e w' => (∃ B : Bool, e = .returned (.bool B) ∧ (B = true ↔ p = q)) ∧ Below w.heap.size w w' := by
  obtain ⟨frm, to, num, ps⟩ := p
  obtain ⟨frm', to', num', ps'⟩ := q
  have hlen := h.ps.len
  have hlen' := h'.ps.len
  obtain ⟨a, cap, rfl⟩ := h.ps.val
  obtain ⟨a', cap', rfl⟩ := h'.ps.val
  dsimp only at h h' hlen hlen' ⊢
  simp only [Pcl.mk.injEq]
  have b0 : Below w.heap.size w ((w.alloc (.cells #[.string frm, .string to, .int .i64 num, .slice a ps.length cap] 29)).alloc (.cells #[.string frm', .string to', .int .i64 num', .slice a' ps'.length cap'] 29)) := ((Below.refl _ _).alloc (Nat.le_refl _) _).alloc (by simp) _
  have H : Hid (RowPs ((w.alloc (.cells #[.string frm, .string to, .int .i64 num, .slice a ps.length cap] 29)).alloc (.cells #[.string frm', .string to', .int .i64 num', .slice a' ps'.length cap'] 29)) (.slice a ps.length cap) ps ∧ RowPs ((w.alloc (.cells #[.string frm, .string to, .int .i64 num, .slice a ps.length cap] 29)).alloc (.cells #[.string frm', .string to', .int .i64 num', .slice a' ps'.length cap'] 29)) (.slice a' ps'.length cap') ps') := ⟨h.ps.below b0, h'.ps.below b0⟩
  clear h h'
  by_cases e1 : frm = frm'
  · subst e1
    by_cases e2 : to = to'
    · subst e2
      by_cases e3 : num = num'
      · subst e3
        by_cases e4 : ps.length = ps'.length
        · have g1 : ((ps.length : Int) != (ps'.length : Int)) = false := by simp [e4]
          have g2 : ((ps.length : Int) == (ps'.length : Int)) = true := by simp [e4]
          have HE : Hid (ps.length = ps'.length) := e4
          clear e4
          go_enter Try.func5, Try.ntmps5
          go_wp2
          have x3 : ((w.alloc (.cells #[.string frm, .string to, .int .i64 num, .slice a ps.length cap] 29)).alloc (.cells #[.string frm, .string to, .int .i64 num, .slice a' ps'.length cap'] 29)).cell? ⟨w.heap.size, 3, none⟩ = some (.slice a ps.length cap) := by simp [go_sem]
          have y3 : ((w.alloc (.cells #[.string frm, .string to, .int .i64 num, .slice a ps.length cap] 29)).alloc (.cells #[.string frm, .string to, .int .i64 num, .slice a' ps'.length cap'] 29)).cell? ⟨w.heap.size + 1, 3, none⟩ = some (.slice a' ps'.length cap') := by simp [go_sem]
          generalize ((w.alloc (.cells #[.string frm, .string to, .int .i64 num, .slice a ps.length cap] 29)).alloc (.cells #[.string frm, .string to, .int .i64 num, .slice a' ps'.length cap'] 29)) = W0 at *
          have HB0 : Hid (Below w.heap.size w W0) := b0
          clear b0
          go_loopw [5] (fun i wr => ∃ k : Nat, i = .int .i64 (k : Int) ∧ k ≤ ps.length ∧ (∀ j, j < k → ps[j]? = ps'[j]?) ∧ Below W0.heap.size W0 wr) (fun i _ => ps.length - (intOf i).toNat)
          case atStart => exact ⟨0, rfl, by omega, fun j hj => by omega, Below.refl _ _⟩
          case round =>
            obtain ⟨k, rfl, hk, hA, hb⟩ := hrel
            have HA : Hid (∀ j, j < k → ps[j]? = ps'[j]?) := hA
            clear hA
            have xx3 := (hb.cell (cell_lt x3)).trans x3
            have yy3 := (hb.cell (cell_lt y3)).trans y3
            by_cases hlt : k < ps.length
            · have hlt' : (k : Int) < (ps.length : Int) := by omega
              have hltt : (k : Int) < (ps'.length : Int) := by have := HE.out; omega
              obtain ⟨b, o, c1, g, vn, vl, e, hs, A, hR⟩ := (H.out.1.below hb).at hlt
              obtain ⟨b', o', c2, g', vn', vl', e', hs', A', hR'⟩ := (H.out.2.below hb).at (show k < ps'.length by omega)
              simp only [Value.slice.injEq, true_and] at e e'
              obtain ⟨rfl, rfl⟩ := e
              obtain ⟨rfl, rfl⟩ := e'
              obtain ⟨nA, nc, rfl⟩ := hR.ns.val
              obtain ⟨lA, lc, rfl⟩ := hR.ls.val
              obtain ⟨nA', nc', rfl⟩ := hR'.ns.val
              obtain ⟨lA', lc', rfl⟩ := hR'.ls.val
              have HB : Hid (Below w.heap.size w wr ∧ Below W0.heap.size W0 wr ∧ ps[k]? = some g ∧ ps'[k]? = some g') := ⟨HB0.out.trans (hb.mono HB0.out.size), hb, hs, hs'⟩
              clear hs hs' hb x3 y3
              have A0 := A
              have A1 := A'
              have R0 := hR
              have R1 := hR'
              have HBA : Hid (Below w.heap.size w wr ∧ Below W0.heap.size W0 wr) := ⟨HB.out.1, HB.out.2.1⟩
              have xw := xx3
              have yw := yy3
              clear A A' hR hR'
              go_wp2_with fail
              have HR : Hid (PapR wr (.slice nA g.notes.length nc) (.slice lA g.lines.length lc) g ∧ PapR wr (.slice nA' g'.notes.length nc') (.slice lA' g'.lines.length lc') g') := ⟨R0, R1⟩
              have A2 := A0
              have A3 := A1
              clear R0 R1
              obtain ⟨q0, q1, q2, q3, q4, q5⟩ := A2
              obtain ⟨p0, p1, p2, p3, p4, p5⟩ := A3
              have HPA : Hid (PapAt wr b (o + k * 6) (.slice nA g.notes.length nc) (.slice lA g.lines.length lc) g ∧ PapAt wr b' (o' + k * 6) (.slice nA' g'.notes.length nc') (.slice lA' g'.lines.length lc') g') := ⟨A0, A1⟩
              clear A0 A1
              go_region_held3 (fun W => W.cell? ⟨b, o + k * 6, none⟩ = some (.int .i64 g.kind) ∧ W.cell? ⟨b, o + k * 6 + 1, none⟩ = some (.string g.ref) ∧ W.cell? ⟨b, o + k * 6 + 2, none⟩ = some (.string g.other) ∧ W.cell? ⟨b, o + k * 6 + 3, none⟩ = some (.int .i64 g.day) ∧ W.cell? ⟨b, o + k * 6 + 4, none⟩ = some ((.slice nA g.notes.length nc)) ∧ W.cell? ⟨b, o + k * 6 + 5, none⟩ = some ((.slice lA g.lines.length lc)) ∧ W.cell? ⟨b', o' + k * 6, none⟩ = some (.int .i64 g'.kind) ∧ W.cell? ⟨b', o' + k * 6 + 1, none⟩ = some (.string g'.ref) ∧ W.cell? ⟨b', o' + k * 6 + 2, none⟩ = some (.string g'.other) ∧ W.cell? ⟨b', o' + k * 6 + 3, none⟩ = some (.int .i64 g'.day) ∧ W.cell? ⟨b', o' + k * 6 + 4, none⟩ = some ((.slice nA' g'.notes.length nc')) ∧ W.cell? ⟨b', o' + k * 6 + 5, none⟩ = some ((.slice lA' g'.lines.length lc')) ∧ W.cell? ⟨w.heap.size + 1, 3, none⟩ = some (.slice (some ⟨b', o', none⟩) ps'.length cap') ∧ W.cell? ⟨w.heap.size, 3, none⟩ = some (.slice (some ⟨b, o, none⟩) ps.length cap)) (go_keep) (first | (go_at_call 10; refine (paperSame_spec g g' _ _ _ _ _ (HR.out.1.below (Below.refl _ _).drew) (HR.out.2.below (Below.refl _ _).drew)).mono ?_; rintro e w2 ⟨⟨Bs, rfl, hBs⟩, hb2⟩; obtain ⟨y0, y1, y2, y3, y4, y5⟩ := (HPA.out.1.below (Below.refl _ _).drew).below hb2; obtain ⟨z0, z1, z2, z3, z4, z5⟩ := (HPA.out.2.below (Below.refl _ _).drew).below hb2; have yd := (hb2.cell (p := ⟨w.heap.size + 1, 3, none⟩) (cell_lt yw)).trans yw; have xd := (hb2.cell (p := ⟨w.heap.size, 3, none⟩) (cell_lt xw)).trans xw; have HBs : Hid (Bs = true ↔ g = g') := hBs; clear hBs))
              have HB2 : Hid (Below w.heap.size w w2 ∧ Below W0.heap.size W0 w2) := ⟨HBA.out.1.drew.trans (hb2.mono HBA.out.1.size), HBA.out.2.drew.trans (hb2.mono HBA.out.2.size)⟩
              clear hb2
              rename_i hHeld
              clear hHeld
              cases Bs
              · go_wp2
                go_ret
                have hne : g ≠ g' := fun e => by have := HBs.out.2 e; simp at this
                have hnn : ps ≠ ps' := fun e => by rw [e, HB.out.2.2.2] at HB; exact hne (Option.some.inj HB.out.2.2.1).symm
                exact ⟨⟨false, rfl, by simp [hnn]⟩, HB2.out.1⟩
              · have Hge : Hid (g = g') := HBs.out.1 rfl
                go_wp2
                go_roundw
                case rel =>
                  refine ⟨k + 1, by go_num, by omega, fun j hj => ?_, HB2.out.2⟩
                  rcases Nat.lt_or_ge j k with q | q
                  · exact HA.out j q
                  · obtain rfl : j = k := by omega
                    rw [HB.out.2.2.1, HB.out.2.2.2, Hge.out]
                case measure => simp [intOf]; omega
            · obtain rfl : k = ps.length := by omega
              have HB : Hid (Below w.heap.size w wr) := HB0.out.trans (hb.mono HB0.out.size)
              clear hb
              go_wp2
              go_ret
              have hEq : ps = ps' := List.ext_getElem? fun j => by
                rcases Nat.lt_or_ge j ps.length with g | g
                · exact HA.out j g
                · rw [List.getElem?_eq_none g, List.getElem?_eq_none (by have := HE.out; omega)]
              exact ⟨⟨true, rfl, by simp [hEq]⟩, HB.out⟩
        · have n1 : ((ps.length : Int) != (ps'.length : Int)) = true := by rw [bne_iff_ne]; omega
          have n2 : ((ps.length : Int) == (ps'.length : Int)) = false := by rw [beq_eq_false_iff_ne]; omega
          have n3 : ¬ (ps.length : Int) = (ps'.length : Int) := by omega
          have hnn : ps ≠ ps' := fun e => e4 (congrArg List.length e)
          have HN : Hid (ps ≠ ps') := hnn
          clear e4 hnn
          go_enter Try.func5, Try.ntmps5
          go_wp2
          go_ret
          exact ⟨⟨false, rfl, by simp [HN.out]⟩, b0⟩
      · have n1 : (num != num') = true := by rw [bne_iff_ne]; exact e3
        have n2 : (num == num') = false := by rw [beq_eq_false_iff_ne]; exact e3
        go_enter Try.func5, Try.ntmps5
        go_wp2
        go_ret
        exact ⟨⟨false, rfl, by simp [e3]⟩, b0⟩
    · obtain ⟨n1, n2, n3⟩ := toList_ne e2
      go_enter Try.func5, Try.ntmps5
      go_wp2
      go_ret
      exact ⟨⟨false, rfl, by simp [e2]⟩, b0⟩
  · obtain ⟨n1, n2, n3⟩ := toList_ne e1
    go_enter Try.func5, Try.ntmps5
    go_wp2
    go_ret
    exact ⟨⟨false, rfl, by simp [e1]⟩, b0⟩
end Go.Proofs.Ytballllmenhghaa
