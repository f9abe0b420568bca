/- Texts of ours put together: MkSe, MkOo. -/
import Derived.Test.YtagajindaipaeaaGreatG14
import Derived.Deep.RegionHeld3
import Derived.Deep.QuietTactic
import Derived.BigQuiet
import Derived.BigRegion
import Derived.Test.YtagajindaipaeaaGreatG18
namespace Go.Proofs.YtagajindaipaeaaGreat
open Go.ChangeShapes Go.WideShapes Go.ChangeAt Go.RowKit
/-- What the marks make of it. -/
def mkSe (k i : Nat) : SenR := ⟨mtB (k + i * 3), ((k + i * 3 + 1 : Nat) : Int), mtB (k + i * 3 + 2)⟩
def mkSes (k n : Nat) : List SenR := (List.range n).map (mkSe k)
theorem mkSes_len (k n : Nat) : (mkSes k n).length = n := by simp [mkSes]
theorem mkSes_at {k n i : Nat} {g : SenR} (h : (mkSes k n)[i]? = some g) : i < n ∧ g = mkSe k i := by
  have hi := (List.getElem?_eq_some_iff.1 h).1
  rw [mkSes_len] at hi
  refine ⟨hi, ?_⟩
  simpa [mkSes, hi] using h.symm
theorem mkSes_sizes {k n : Nat} : ∀ (i : Nat) (g : SenR), (mkSes k n)[i]? = some g → g.partner.size ≤ 9223372036854775807 ∧ g.text.size ≤ 9223372036854775807 := fun i g h => by
  obtain ⟨_, rfl⟩ := mkSes_at h
  have h0 := mtB_size (k + i * 3)
  have h2 := mtB_size (k + i * 3 + 2)
  simp only [mkSe]
  omega
set_option maxRecDepth 20000 in
set_option maxHeartbeats 8000000 in
theorem markSe_any (b : Nat) (v : Value) (rs : List SenR) (k : Nat) (w : World) (h : LSe b w v rs) (hk : 0 < k ∧ k + rs.length * 3 < 1000000000000) :
    Calls Tryz.prog 57 #[v, .int .i64 (k : Int)] w fun e w' => e = .returned (.int .i64 ((k + rs.length * 3 : Nat) : Int)) ∧ LSe b w' v (mkSes k rs.length) ∧ Keep b w w' := by
  have hlen := h.len
  obtain ⟨a, cap, rfl⟩ := h.val
  rcases Nat.eq_zero_or_pos rs.length with h0 | h0
  · have hnil : rs = [] := List.eq_nil_of_length_eq_zero h0
    subst hnil
    clear h
    go_enter Tryz.func57, Tryz.ntmps57
    go_wp2
    go_loopw [1, 5] (fun q i wr => q = .int .i64 (k : Int) ∧ i = .int .i64 0 ∧ wr = w) (fun _ _ _ => 0)
    case atStart => exact ⟨rfl, rfl, rfl⟩
    case round =>
      obtain ⟨rfl, rfl, rfl⟩ := hrel
      go_wp2
      go_ret
      exact ⟨rfl, ⟨⟨_, _, rfl, fun h => absurd rfl h⟩, by simp [mkSes], mkSes_sizes⟩, Keep.refl _ _⟩
  · obtain ⟨a', cap', e, hc⟩ := h.shape
    simp only [Value.slice.injEq, true_and] at e
    obtain ⟨rfl, rfl⟩ := e
    obtain ⟨rfl, m, f, hR, hm, _⟩ := hc (by intro g; rw [g] at h0; simp at h0)
    have HR : Hid (w.rowIs b 151 m f) := hR
    clear h hR hc
    go_enter Tryz.func57, Tryz.ntmps57
    go_wp2
    go_loopw [1, 5] (fun q i wr => ∃ (j : Nat) (f : Nat → Value), q = .int .i64 ((k + j * 3 : Nat) : Int) ∧ i = .int .i64 (j : Int) ∧ j ≤ rs.length ∧ wr.rowIs b 151 m f ∧ (∀ i, i < j → f (i * 3) = .string (mtB (k + i * 3)) ∧ f (i * 3 + 1) = .int .i64 (((k + i * 3 + 1 : Nat) : Int)) ∧ f (i * 3 + 2) = .string (mtB (k + i * 3 + 2))) ∧ Keep b w wr) (fun _ i _ => rs.length - (intOf i).toNat)
    case atStart => exact ⟨0, f, by simp, rfl, by omega, HR.out, fun i hi => by omega, Keep.refl _ _⟩
    case round =>
      obtain ⟨j, f, rfl, rfl, hj, hR, hA, hK⟩ := hrel
      have HS : Hid (wr.rowIs b 151 m f ∧ (∀ i, i < j → f (i * 3) = .string (mtB (k + i * 3)) ∧ f (i * 3 + 1) = .int .i64 (((k + i * 3 + 1 : Nat) : Int)) ∧ f (i * 3 + 2) = .string (mtB (k + i * 3 + 2))) ∧ Keep b w wr) := ⟨hR, hA, hK⟩
      clear hR hA hK
      by_cases hlt : j < rs.length
      · have hlt' : (j : Int) < (rs.length : Int) := by omega
        go_wp2_with fail
        refine (markText_b _ (k + j * 3) (by omega) _ (by omega) (by omega)).mono ?_
        rintro e wa ⟨rfl, hba⟩
        have Ra := HS.out.1.of_block (hba.block b HS.out.1.lt)
        have fa := Ra.frozen
        have ca0 := Ra.cell (i := j * 3) (by omega)
        have ca1 := Ra.cell (i := j * 3 + 1) (by omega)
        have Ha : Hid (((wa.setCell ⟨b, j * 3, none⟩ (.string (mtB (k + j * 3)))).setCell ⟨b, j * 3 + 1, none⟩ (.int .i64 (((k + j * 3 : Nat) : Int) + 1))).rowIs b 151 m _ ∧ Keep b w ((wa.setCell ⟨b, j * 3, none⟩ (.string (mtB (k + j * 3)))).setCell ⟨b, j * 3 + 1, none⟩ (.int .i64 (((k + j * 3 : Nat) : Int) + 1)))) := ⟨((Ra.set (j * 3) (.string (mtB (k + j * 3)))).set (j * 3 + 1) (.int .i64 (((k + j * 3 : Nat) : Int) + 1))), (((HS.out.2.2.trans (Keep.of_below hba)).setCell _ _).setCell _ _)⟩
        clear hba Ra
        go_wp2_with fail
        refine (markText_b _ (k + j * 3 + 2) (by omega) _ (by omega) (by omega)).mono ?_
        rintro e wb ⟨rfl, hbb⟩
        have Rb := Ha.out.1.of_block (hbb.block b Ha.out.1.lt)
        have fb := Rb.frozen
        have cb2 := Rb.cell (i := j * 3 + 2) (by omega)
        have Hb : Hid ((wb.setCell ⟨b, j * 3 + 2, none⟩ (.string (mtB (k + j * 3 + 2)))).rowIs b 151 m _ ∧ Keep b w (wb.setCell ⟨b, j * 3 + 2, none⟩ (.string (mtB (k + j * 3 + 2))))) := ⟨(Rb.set (j * 3 + 2) (.string (mtB (k + j * 3 + 2)))), ((Ha.out.2.trans (Keep.of_below hbb)).setCell _ _)⟩
        clear hbb Rb fa ca0 ca1
        go_wp2
        go_roundw
        case rel =>
          refine ⟨j + 1, _, by go_num, by go_num, by omega, Hb.out.1, fun i hi => ?_, Hb.out.2⟩
          by_cases e1 : i = j
          · subst e1
            refine ⟨?_, ?_, ?_⟩
            · rw [if_neg (by omega), if_neg (by omega), if_pos rfl]
            · rw [if_neg (by omega), if_pos rfl]
              first | rfl | (congr 1; omega)
            · rw [if_pos rfl]
          · obtain ⟨r0, r1, r2⟩ := HS.out.2.1 i (by omega)
            refine ⟨?_, ?_, ?_⟩
            all_goals rw [if_neg (by omega), if_neg (by omega), if_neg (by omega)]
            all_goals assumption
        case measure => simp [intOf]; omega
      · obtain rfl : j = rs.length := by omega
        go_wp2
        go_ret
        refine ⟨rfl, ⟨⟨_, _, by rw [mkSes_len], fun _ => ⟨rfl, m, f, HS.out.1, by rw [mkSes_len]; exact hm, fun i g hi => ?_⟩⟩, by rw [mkSes_len]; exact hlen, mkSes_sizes⟩, HS.out.2.2⟩
        obtain ⟨hi', rfl⟩ := mkSes_at hi
        exact HS.out.2.1 i hi'
set_option maxRecDepth 20000 in
set_option maxHeartbeats 8000000 in
theorem heldSe_any (v : Value) (k n : Nat) (w : World) (h : RowSe w v (mkSes k n)) (hk : 0 < k ∧ k + n * 3 < 1000000000000) :
    Calls Tryz.prog 59 #[v, .int .i64 (k : Int)] w fun e w' => e = .returned (.int .i64 ((k + n * 3 : Nat) : Int)) ∧ Below w.heap.size w w' := by
  have hlen := h.len
  obtain ⟨a, cap, rfl⟩ := h.val
  have H0 : Hid (RowSe w (.slice a (mkSes k n).length cap) (mkSes k n)) := h
  have hml : (mkSes k n).length = n := mkSes_len k n
  clear h
  go_enter Tryz.func59, Tryz.ntmps59
  go_wp2
  try rw [hml]
  go_loopw [1, 5] (fun q i wr => ∃ j : Nat, q = .int .i64 ((k + j * 3 : Nat) : Int) ∧ i = .int .i64 (j : Int) ∧ j ≤ n ∧ Below w.heap.size w wr) (fun _ i _ => n - (intOf i).toNat)
  case atStart => exact ⟨0, by simp, rfl, by omega, Below.refl _ _⟩
  case round =>
    obtain ⟨j, rfl, rfl, hj, hb⟩ := hrel
    by_cases hlt : j < n
    · have hlt' : (j : Int) < (n : Int) := by omega
      obtain ⟨b, o, cap', g, e, hs, hat, _⟩ := (H0.out.below hb).at (k := j) (by omega)
      simp only [Value.slice.injEq, true_and] at e
      obtain ⟨rfl, rfl⟩ := e
      obtain ⟨_, rfl⟩ := mkSes_at hs
      have HB : Hid (Below w.heap.size w wr) := hb
      have HQ : Hid (∀ W, Below wr.heap.size wr W → W.cell? ⟨b, o + j * 3, none⟩ = some (.string (mtB (k + j * 3))) ∧ W.cell? ⟨b, o + j * 3 + 1, none⟩ = some (.int .i64 (((k + j * 3 + 1 : Nat) : Int))) ∧ W.cell? ⟨b, o + j * 3 + 2, none⟩ = some (.string (mtB (k + j * 3 + 2)))) := fun W hW => by
        obtain ⟨r0, r1, r2⟩ := hat.below hW
        exact ⟨r0, r1, r2⟩
      clear hs hb hat
      obtain ⟨q0, q1, q2⟩ := HQ.out wr (Below.refl _ _)
      go_upto_region 4 with fail
      have l0 := cell_lt q0
      go_region_held3 (fun W => W.cell? ⟨b, o + j * 3, none⟩ = some (.string (mtB (k + j * 3)))) (go_keep) (first | (go_at_call 100; refine (markText_b _ (k + j * 3) (by omega) _ (by omega) (by omega)).mono ?_; rintro e wa ⟨rfl, hba⟩; have y0 := (hba.cell (p := ⟨b, o + j * 3, none⟩) l0).trans q0))
      rename_i hHeld
      clear hHeld
      have ba : Below wr.heap.size wr wa := (Below.refl wr.heap.size wr).trans (((Below.refl _ wr).drew.trans hba).mono (Below.refl wr.heap.size wr).size)
      clear hba y0 l0 q0 q1 q2
      obtain ⟨q0, q1, q2⟩ := HQ.out wa ba
      go_upto_region 10 with fail
      have l2 := cell_lt q2
      go_region_held3 (fun W => W.cell? ⟨b, o + j * 3 + 2, none⟩ = some (.string (mtB (k + j * 3 + 2)))) (go_keep) (first | (go_at_call 100; refine (markText_b _ (k + j * 3 + 2) (by omega) _ (by omega) (by omega)).mono ?_; rintro e wb ⟨rfl, hbb⟩; have y2 := (hbb.cell (p := ⟨b, o + j * 3 + 2, none⟩) l2).trans q2))
      rename_i hHeld
      clear hHeld
      have bb : Below wr.heap.size wr wb := ba.trans (((Below.refl _ wa).drew.trans hbb).mono ba.size)
      clear hbb y2 l2 q0 q1 q2
      obtain ⟨q0, q1, q2⟩ := HQ.out wb bb
      have HD : Hid (Below w.heap.size w wb) := HB.out.trans (bb.mono HB.out.size)
      clear ba bb
      go_wp2
      go_roundw
      case rel => exact ⟨j + 1, by go_num, by go_num, by omega, HD.out⟩
      case measure => simp [intOf]; omega
    · obtain rfl : j = n := by omega
      have HB : Hid (Below w.heap.size w wr) := hb
      clear hb
      go_wp2
      go_ret
      exact ⟨rfl, HB.out⟩
end Go.Proofs.YtagajindaipaeaaGreat
namespace Go.Proofs.YtagajindaipaeaaGreat
open Go.ChangeShapes Go.WideShapes Go.ChangeAt Go.RowKit
theorem markOu_p (b : Nat) (v : Value) (rs : List OutR) (k : Nat) (w : World) (h : LOu b w v rs) (hk : 0 < k ∧ k + rs.length * 5 < 1000000000000) :
    Calls Tryz.prog 52 #[v, .int .i64 (k : Int)] w fun e w' => e = .returned (.int .i64 ((k + rs.length * 5 : Nat) : Int)) ∧ LOu b w' v (mkOus k rs.length) ∧ KeepP (fun q => q = b ∧ rs ≠ []) w w' := by
  by_cases hn : rs = []
  · subst hn
    obtain ⟨a, c, e, _⟩ := h.shape
    have h' : LOu w.heap.size w v [] := ⟨⟨a, c, e, fun hn => absurd rfl hn⟩, h.len, h.sizes⟩
    refine (markOu_any w.heap.size v [] k w h' hk).mono ?_
    rintro e' w' ⟨he, hL, hK⟩
    refine ⟨he, ⟨⟨a, c, e, fun hn => absurd rfl hn⟩, hL.len, hL.sizes⟩, ⟨hK.os, hK.tape, hK.output, hK.size, fun q hq _ => hK.block q hq (by omega)⟩⟩
  · refine (markOu_any b v rs k w h hk).mono ?_
    rintro e' w' ⟨he, hL, hK⟩
    exact ⟨he, hL, ⟨hK.os, hK.tape, hK.output, hK.size, fun q hq hs => hK.block q hq (fun e => hs ⟨e, hn⟩)⟩⟩
theorem mkOus_ne {k n : Nat} (h : mkOus k n ≠ []) : 0 < n := by
  rcases Nat.eq_zero_or_pos n with rfl | h0
  · exact absurd rfl h
  · exact h0
theorem markSe_p (b : Nat) (v : Value) (rs : List SenR) (k : Nat) (w : World) (h : LSe b w v rs) (hk : 0 < k ∧ k + rs.length * 3 < 1000000000000) :
    Calls Tryz.prog 57 #[v, .int .i64 (k : Int)] w fun e w' => e = .returned (.int .i64 ((k + rs.length * 3 : Nat) : Int)) ∧ LSe b w' v (mkSes k rs.length) ∧ KeepP (fun q => q = b ∧ rs ≠ []) w w' := by
  by_cases hn : rs = []
  · subst hn
    obtain ⟨a, c, e, _⟩ := h.shape
    have h' : LSe w.heap.size w v [] := ⟨⟨a, c, e, fun hn => absurd rfl hn⟩, h.len, h.sizes⟩
    refine (markSe_any w.heap.size v [] k w h' hk).mono ?_
    rintro e' w' ⟨he, hL, hK⟩
    refine ⟨he, ⟨⟨a, c, e, fun hn => absurd rfl hn⟩, hL.len, hL.sizes⟩, ⟨hK.os, hK.tape, hK.output, hK.size, fun q hq _ => hK.block q hq (by omega)⟩⟩
  · refine (markSe_any b v rs k w h hk).mono ?_
    rintro e' w' ⟨he, hL, hK⟩
    exact ⟨he, hL, ⟨hK.os, hK.tape, hK.output, hK.size, fun q hq hs => hK.block q hq (fun e => hs ⟨e, hn⟩)⟩⟩
theorem mkSes_ne {k n : Nat} (h : mkSes k n ≠ []) : 0 < n := by
  rcases Nat.eq_zero_or_pos n with rfl | h0
  · exact absurd rfl h
  · exact h0
def mkOo (k : Nat) (p : OOu) : OOu := ⟨mkOus k p.list.length, mkSes (k + p.list.length * 5) p.sent.length, mkOus (k + p.list.length * 5 + p.sent.length * 3) p.lost.length, p.code⟩
theorem ne_of_pos {α : Type} {l : List α} (h : 0 < l.length) : l ≠ [] := fun e => by rw [e] at h; simp at h
set_option maxHeartbeats 4000000 in
theorem markOo_any (b1 b2 b3 : Nat) (u s l : Value) (p : OOu) (k : Nat) (w : World) (h : LOo b1 b2 b3 w u s l p) (hk : 0 < k ∧ k + p.list.length * 5 + p.sent.length * 3 + p.lost.length * 5 < 100000000000) :
    Calls Tryz.prog 18 #[.agg #[u, s, l, .int .i64 p.code], .int .i64 (k : Int)] w fun e w' => e = .returned (.int .i64 ((k + p.list.length * 5 + p.sent.length * 3 + p.lost.length * 5 : Nat) : Int)) ∧ LOo b1 b2 b3 w' u s l (mkOo k p) ∧ KeepP (blkO b1 b2 b3 p) w w' := by
  obtain ⟨a, c, a2, c2, a3, c3, rfl, rfl, rfl⟩ := h.row.val
  obtain ⟨W0, hW0⟩ : ∃ W0, w.alloc (.cells #[.slice a p.list.length c, .slice a2 p.sent.length c2, .slice a3 p.lost.length c3, .int .i64 p.code] 54) = W0 := ⟨_, rfl⟩
  have hb0 : Below w.heap.size w W0 := by rw [← hW0]; exact (Below.refl _ _).alloc (Nat.le_refl _) _
  have hx0 : W0.heap[w.heap.size]? = some (.cells #[.slice a p.list.length c, .slice a2 p.sent.length c2, .slice a3 p.lost.length c3, .int .i64 p.code] 54) := by rw [← hW0]; exact World.alloc_heap_new _ _
  obtain ⟨B, hB⟩ : ∃ B, B = w.heap.size := ⟨_, rfl⟩
  rw [← hB] at hx0
  have HL : Hid (LOo b1 b2 b3 W0 (.slice a p.list.length c) (.slice a2 p.sent.length c2) (.slice a3 p.lost.length c3) p ∧ KeepP (blkO b1 b2 b3 p) w W0) := ⟨h.below hb0, .of_below hb0⟩
  have HN : Hid (¬ blkO b1 b2 b3 p B) := fun hx => by have := h.blk_lt hx; omega
  have HX : Hid (W0.heap[B]? = some (.cells #[.slice a p.list.length c, .slice a2 p.sent.length c2, .slice a3 p.lost.length c3, .int .i64 p.code] 54)) := hx0
  have HS : Hid (p.sent ≠ [] → (p.list ≠ [] → b1 ≠ b2) ∧ (p.lost ≠ [] → b2 ≠ b3)) := fun hs => h.ne_se hs
  have HE : Hid (p.list ≠ [] → p.lost ≠ [] → b1 ≠ b3) := h.ne
  clear h hb0
  go_enter Tryz.func18, Tryz.ntmps18
  go_upto_region 1 with fail
  try rw [hW0]
  try rw [← hB]
  clear hW0 hB
  obtain ⟨x0, x1, x2, x3⟩ := bx4 hx0
  clear hx0
  go_wp2_with fail
  refine (markOu_p b1 _ p.list k _ HL.out.1.li ⟨by omega, by omega⟩).mono ?_
  rintro e w1 ⟨rfl, l1, k1⟩
  have hx1 : w1.heap[B]? = some (.cells #[.slice a p.list.length c, .slice a2 p.sent.length c2, .slice a3 p.lost.length c3, .int .i64 p.code] 54) := (k1.block B (Array.getElem?_eq_some_iff.1 HX.out).1 (fun ⟨e, hn⟩ => HN.out (.inl ⟨e, hn⟩))).trans HX.out
  have H1 : Hid (LOu b1 w1 (.slice a p.list.length c) (mkOus k p.list.length) ∧ LSe b2 w1 (.slice a2 p.sent.length c2) p.sent ∧ LOu b3 w1 (.slice a3 p.lost.length c3) p.lost ∧ KeepP (blkO b1 b2 b3 p) w w1 ∧ w1.heap[B]? = some (.cells #[.slice a p.list.length c, .slice a2 p.sent.length c2, .slice a3 p.lost.length c3, .int .i64 p.code] 54)) :=
    ⟨l1, HL.out.1.se.of_block fun hn => k1.block b2 (HL.out.1.se.lt hn) (fun ⟨e, hl⟩ => ((HS.out hn).1 hl) e.symm), HL.out.1.lo.of_block fun hn => k1.block b3 (HL.out.1.lo.lt hn) (fun ⟨e, hl⟩ => (HE.out hl hn) e.symm), HL.out.2.trans (k1.mono fun q hq => .inl hq), hx1⟩
  clear l1 k1 x0 x1 x2 x3
  obtain ⟨x0, x1, x2, x3⟩ := bx4 hx1
  clear hx1
  go_wp2_with fail
  refine (markSe_p b2 _ p.sent (k + p.list.length * 5) _ H1.out.2.1 ⟨by omega, by omega⟩).mono ?_
  rintro e w2 ⟨rfl, l2, k2⟩
  have hx2 : w2.heap[B]? = some (.cells #[.slice a p.list.length c, .slice a2 p.sent.length c2, .slice a3 p.lost.length c3, .int .i64 p.code] 54) := (k2.block B (Array.getElem?_eq_some_iff.1 H1.out.2.2.2.2).1 (fun ⟨e, hn⟩ => HN.out (.inr (.inl ⟨e, hn⟩)))).trans H1.out.2.2.2.2
  have H2 : Hid (LOu b1 w2 (.slice a p.list.length c) (mkOus k p.list.length) ∧ LSe b2 w2 (.slice a2 p.sent.length c2) (mkSes (k + p.list.length * 5) p.sent.length) ∧ LOu b3 w2 (.slice a3 p.lost.length c3) p.lost ∧ KeepP (blkO b1 b2 b3 p) w w2 ∧ w2.heap[B]? = some (.cells #[.slice a p.list.length c, .slice a2 p.sent.length c2, .slice a3 p.lost.length c3, .int .i64 p.code] 54)) :=
    ⟨H1.out.1.of_block fun hn => k2.block b1 (H1.out.1.lt hn) (fun ⟨e, hl⟩ => ((HS.out hl).1 (ne_of_pos (mkOus_ne hn))) e), l2, H1.out.2.2.1.of_block fun hn => k2.block b3 (H1.out.2.2.1.lt hn) (fun ⟨e, hl⟩ => ((HS.out hl).2 hn) e.symm), H1.out.2.2.2.1.trans (k2.mono fun q hq => .inr (.inl hq)), hx2⟩
  clear l2 k2 x0 x1 x2 x3
  obtain ⟨x0, x1, x2, x3⟩ := bx4 hx2
  clear hx2
  go_wp2_with fail
  refine (markOu_p b3 _ p.lost (k + p.list.length * 5 + p.sent.length * 3) _ H2.out.2.2.1 ⟨by omega, by omega⟩).mono ?_
  rintro e w3 ⟨rfl, l3, k3⟩
  have H3 : Hid (LOo b1 b2 b3 w3 (.slice a p.list.length c) (.slice a2 p.sent.length c2) (.slice a3 p.lost.length c3) (mkOo k p) ∧ KeepP (blkO b1 b2 b3 p) w w3) :=
    ⟨⟨H2.out.1.of_block fun hn => k3.block b1 (H2.out.1.lt hn) (fun ⟨e, hl⟩ => (HE.out (ne_of_pos (mkOus_ne hn)) hl) e), H2.out.2.1.of_block fun hn => k3.block b2 (H2.out.2.1.lt hn) (fun ⟨e, hl⟩ => ((HS.out (ne_of_pos (mkSes_ne hn))).2 hl) e), l3, fun h1 h3 => HE.out (ne_of_pos (mkOus_ne h1)) (ne_of_pos (mkOus_ne h3))⟩, H2.out.2.2.2.1.trans (k3.mono fun q hq => .inr (.inr hq))⟩
  clear l3 k3
  go_wp2
  go_ret
  exact ⟨rfl, H3.out.1, H3.out.2⟩
set_option maxHeartbeats 4000000 in
theorem heldOo_any (u s l : Value) (p : OOu) (k : Nat) (w : World) (h : ROo w u s l (mkOo k p)) (hk : 0 < k ∧ k + p.list.length * 5 + p.sent.length * 3 + p.lost.length * 5 < 100000000000) :
    Calls Tryz.prog 19 #[.agg #[u, s, l, .int .i64 p.code], .int .i64 (k : Int)] w fun e w' => e = .returned (.int .i64 ((k + p.list.length * 5 + p.sent.length * 3 + p.lost.length * 5 : Nat) : Int)) ∧ Below w.heap.size w w' := by
  obtain ⟨a, c, a2, c2, a3, c3, rfl, rfl, rfl⟩ := h.val
  have e1 : (mkOo k p).list.length = p.list.length := mkOus_len _ _
  have e2 : (mkOo k p).sent.length = p.sent.length := mkSes_len _ _
  have e3 : (mkOo k p).lost.length = p.lost.length := mkOus_len _ _
  rw [e1, e2, e3] at h ⊢
  obtain ⟨W0, hW0⟩ : ∃ W0, w.alloc (.cells #[.slice a p.list.length c, .slice a2 p.sent.length c2, .slice a3 p.lost.length c3, .int .i64 p.code] 54) = W0 := ⟨_, rfl⟩
  have hb0 : Below w.heap.size w W0 := by rw [← hW0]; exact (Below.refl _ _).alloc (Nat.le_refl _) _
  have hx0 : W0.heap[w.heap.size]? = some (.cells #[.slice a p.list.length c, .slice a2 p.sent.length c2, .slice a3 p.lost.length c3, .int .i64 p.code] 54) := by rw [← hW0]; exact World.alloc_heap_new _ _
  have HL : Hid (ROo W0 (.slice a p.list.length c) (.slice a2 p.sent.length c2) (.slice a3 p.lost.length c3) (mkOo k p) ∧ Below w.heap.size w W0 ∧ W0.heap[w.heap.size]? = some (.cells #[.slice a p.list.length c, .slice a2 p.sent.length c2, .slice a3 p.lost.length c3, .int .i64 p.code] 54)) := ⟨h.below hb0, hb0, hx0⟩
  clear h hb0 e1 e2 e3
  go_enter Tryz.func19, Tryz.ntmps19
  go_upto_region 1 with fail
  try rw [hW0]
  clear hW0
  obtain ⟨x0, x1, x2, x3⟩ := bx4 hx0
  clear hx0
  go_wp2_with fail
  refine (heldOu_any _ k p.list.length _ HL.out.1.li ⟨by omega, by omega⟩).mono ?_
  rintro e w1 ⟨rfl, hb1⟩
  have H1 : Hid (Below W0.heap.size W0 w1) := hb1
  obtain ⟨y0, y1, y2, y3⟩ := bx4 ((hb1.block _ (Array.getElem?_eq_some_iff.1 HL.out.2.2).1).trans HL.out.2.2)
  clear hb1 x0 x1 x2 x3
  have g1 : ¬ ((k + p.list.length * 5 : Nat) : Int) < 0 := by omega
  go_wp2_with fail
  refine (heldSe_any _ (k + p.list.length * 5) p.sent.length _ (HL.out.1.se.below H1.out) ⟨by omega, by omega⟩).mono ?_
  rintro e w2 ⟨rfl, hb2⟩
  have H2 : Hid (Below W0.heap.size W0 w2) := H1.out.trans (hb2.mono H1.out.size)
  clear hb2 y0 y1 y2 y3
  obtain ⟨y0, y1, y2, y3⟩ := bx4 ((H2.out.block _ (Array.getElem?_eq_some_iff.1 HL.out.2.2).1).trans HL.out.2.2)
  have g2 : ¬ ((k + p.list.length * 5 + p.sent.length * 3 : Nat) : Int) < 0 := by omega
  go_wp2_with fail
  refine (heldOu_any _ (k + p.list.length * 5 + p.sent.length * 3) p.lost.length _ (HL.out.1.lo.below H2.out) ⟨by omega, by omega⟩).mono ?_
  rintro e w3 ⟨rfl, hb3⟩
  have H3 : Hid (Below w.heap.size w w3) := HL.out.2.1.trans ((H2.out.trans (hb3.mono H2.out.size)).mono HL.out.2.1.size)
  clear hb3 y0 y1 y2 y3
  have g3 : ¬ ((k + p.list.length * 5 + p.sent.length * 3 + p.lost.length * 5 : Nat) : Int) < 0 := by omega
  go_wp2
  go_ret
  exact ⟨rfl, H3.out⟩
end Go.Proofs.YtagajindaipaeaaGreat
