/- Texts of ours put together: TextsGS, SynText, SynTextS, PcT, ToSyn. -/
import Derived.Test.YtkaolpnbddjdpaaGreatDoorG47
import Derived.Test.YtkaolpnbddjdpaaGreatDoorG49
import Derived.Laws.BytesArg
import Derived.Test.YtkaolpnbddjdpaaGreatDoorG38
import Derived.Test.YtkaolpnbddjdpaaGreatDoorG41
import Derived.Test.YtkaolpnbddjdpaaGreatDoorG44
import Derived.Test.YtkaolpnbddjdpaaGreatDoorG45
namespace Go.Proofs.YtkaolpnbddjdpaaGreatDoor
open Go.ChangeShapes Go.WideShapes Go.ChangeAt Go.RowKit
theorem catU_size (a b c d : Int) (gs : List Seg) : ∀ k, (catU a b c d gs k).length ≤ 4000 * k := by
  intro k
  induction k with
  | zero => simp [catU]
  | succ k ih =>
    have h := textG_size a b c d (gs[k]?.getD (⟨#[]⟩, [])).1 (gs[k]?.getD (⟨#[]⟩, [])).2
    have e : (textG a b c d (gs[k]?.getD (⟨#[]⟩, [])).1 (gs[k]?.getD (⟨#[]⟩, [])).2).data.toList.length = (textG a b c d (gs[k]?.getD (⟨#[]⟩, [])).1 (gs[k]?.getD (⟨#[]⟩, [])).2).size := by simp
    simp only [catU, List.length_append]
    omega
/-- The model's text of a segment, with six cells that it keeps. -/
theorem txt6 (a b c d : Int) (g : Seg) (u : Value) (W : World) (hr : RowE W u g.2) (hE : BdE 1048576 g.2) {p0 p1 p2 p3 p4 p5 : Addr} {v0 v1 v2 v3 v4 v5 : Value} (h0 : W.cell? p0 = some v0) (h1 : W.cell? p1 = some v1) (h2 : W.cell? p2 = some v2) (h3 : W.cell? p3 = some v3) (h4 : W.cell? p4 = some v4) (h5 : W.cell? p5 = some v5) :
    Calls Tryz.prog 60 #[.agg #[.int .i64 a, .int .i64 b, .int .i64 c, .int .i64 d], .agg #[.string g.1, u]] W fun e w' => ∃ E : ByteArray, e = .returned (.string E) ∧ E = textG a b c d g.1 g.2 ∧ E.size ≤ 4000 ∧ Below W.heap.size W w' ∧ w'.cell? p0 = some v0 ∧ w'.cell? p1 = some v1 ∧ w'.cell? p2 = some v2 ∧ w'.cell? p3 = some v3 ∧ w'.cell? p4 = some v4 ∧ w'.cell? p5 = some v5 := by
  refine (text_seg_spec a b c d g.1 u g.2 W hr hE).mono ?_
  rintro e w' ⟨rfl, hb⟩
  have k : ∀ {p : Addr} {v : Value}, W.cell? p = some v → w'.cell? p = some v := fun h => (hb.cell (World.block_lt_of_cell? W _ h)).trans h
  exact ⟨_, rfl, rfl, textG_size a b c d g.1 g.2, hb, k h0, k h1, k h2, k h3, k h4, k h5⟩
set_option maxHeartbeats 2000000 in
theorem texts_spec (a b c d : Int) (v : Value) (gs : List Seg) (w : World) (h : RowG w v gs) (hG : BdG 1048576 gs) :
    Calls Tryz.prog 31 #[.agg #[.int .i64 a, .int .i64 b, .int .i64 c, .int .i64 d], v] w fun e w' => e = .returned (.string (textsG a b c d gs)) ∧ Below w.heap.size w w' := by
  obtain ⟨A, cap, rfl⟩ := h.val
  have hl := hG.1
  go_enter Tryz.func31, Tryz.ntmps31
  go_wp2_with fail
  refine (right_spec a b c d _).mono ?_
  rintro e w1 ⟨rfl, hb1⟩
  have sx1 : w1.heap[w.heap.size]? = some (.cells #[.int .i64 a, .int .i64 b, .int .i64 c, .int .i64 d] 24) := (hb1.block w.heap.size (by simp)).trans (World.alloc_heap_new w _)
  have hs1 : w.heap.size + 1 ≤ w1.heap.size := by have := hb1.size; simpa using this
  have hb1' : Below w.heap.size w w1 := ((Below.refl _ _).alloc (Nat.le_refl _) _).trans (hb1.mono (by simp))
  have H1 : Hid (Below w.heap.size w w1 ∧ w1.heap[w.heap.size]? = some (.cells #[.int .i64 a, .int .i64 b, .int .i64 c, .int .i64 d] 24) ∧ RowG w1 (.slice A gs.length cap) gs ∧ BdG 1048576 gs) := ⟨hb1', sx1, h.below hb1', hG⟩
  clear hb1 hb1' sx1 h hG
  cases hr : rightB a b c d
  · go_wp2
    go_ret
    exact ⟨ret_str (textsG_no fun h => by have := h.1; rw [hr] at this; cases this).symm, H1.out.1⟩
  by_cases h200 : 200 < gs.length
  · have d0 : decide ((200 : Int) < (gs.length : Int)) = true := by simp; omega
    go_wp2
    go_ret
    exact ⟨ret_str (textsG_no fun h => by have := h.2.1; omega).symm, H1.out.1⟩
  have d0 : decide ((200 : Int) < (gs.length : Int)) = false := by simp; omega
  go_wp2_with fail
  go_loopw [5, 6] (fun t i wr => ∃ (k : Nat) (x : ByteArray), t = .string x ∧ i = .int .i64 (k : Int) ∧ k ≤ gs.length ∧ (∀ (j : Nat) (g : Seg), j < k → gs[j]? = some g → rightG g.1 g.2 = true) ∧ x.data.toList = catU a b c d gs k ∧ Below w1.heap.size w1 wr) (fun _ i _ => gs.length - (intOf i).toNat)
  case atStart => exact ⟨0, _, rfl, rfl, by omega, fun j g hj => by omega, rfl, Below.refl _ _⟩
  case round =>
    obtain ⟨k, x, rfl, rfl, hk, hA, hx, hb⟩ := hrel
    have q1 := catU_size a b c d gs k
    have hxs : x.size ≤ 4000 * k := by rw [size_list, hx]; exact q1
    by_cases hlt : k < gs.length
    · have hlt' : (k : Int) < (gs.length : Int) := by omega
      obtain ⟨b1, o1, c1, g, u, e, hs, hc, hd, hS, hsz⟩ := (H1.out.2.2.1.below hb).at hlt
      simp only [Value.slice.injEq, true_and] at e
      obtain ⟨rfl, rfl⟩ := e
      obtain ⟨a2, cap2, rfl⟩ := hS.val
      have hwr := hb.size
      have HS : Hid (gs[k]? = some g ∧ RowE wr (.slice a2 g.2.length cap2) g.2 ∧ BdE 1048576 g.2) := ⟨hs, hS, (H1.out.2.2.2.2 k g hs).2⟩
      have HB : Hid (Below w1.heap.size w1 wr ∧ (∀ (j : Nat) (g : Seg), j < k → gs[j]? = some g → rightG g.1 g.2 = true) ∧ x.data.toList = catU a b c d gs k) := ⟨hb, hA, hx⟩
      clear hs hS hb hA hx
      go_wp2_with fail
      refine (right_seg_spec g.1 _ g.2 _ HS.out.2.1 HS.out.2.2).mono ?_
      rintro e w2 ⟨rfl, hb2⟩
      have hb2' : Below w1.heap.size w1 w2 := HB.out.1.trans (hb2.mono hwr)
      cases hg : rightG g.1 g.2
      · have HN : Hid (textsG a b c d gs = ⟨#[]⟩ ∧ Below w.heap.size w w2) := ⟨textsG_no (fun h => by have := h.2.2.1 k g HS.out.1; rw [hg] at this; cases this), H1.out.1.trans (hb2'.mono (by omega))⟩
        clear hb2 hb2'
        go_wp2
        go_ret
        exact ⟨ret_str HN.out.1.symm, HN.out.2⟩
      · have sx := (hb2'.block w.heap.size (by omega)).trans H1.out.2.1
        have x0 : w2.cell? ⟨w.heap.size, 0, none⟩ = some (.int .i64 a) := by simp [World.cell?, sx]
        have x1 : w2.cell? ⟨w.heap.size, 1, none⟩ = some (.int .i64 b) := by simp [World.cell?, sx]
        have x2 : w2.cell? ⟨w.heap.size, 2, none⟩ = some (.int .i64 c) := by simp [World.cell?, sx]
        have x3 : w2.cell? ⟨w.heap.size, 3, none⟩ = some (.int .i64 d) := by simp [World.cell?, sx]
        have x4 : w2.cell? ⟨b1, o1 + k * 2, none⟩ = some (.string g.1) := (hb2.cell (p := ⟨b1, o1 + k * 2, none⟩) (cell_lt hc)).trans hc
        have x5 : w2.cell? ⟨b1, o1 + k * 2 + 1, none⟩ = some (.slice a2 g.2.length cap2) := (hb2.cell (p := ⟨b1, o1 + k * 2 + 1, none⟩) (cell_lt hd)).trans hd
        have HR : Hid (RowE w2.drew (.slice a2 g.2.length cap2) g.2 ∧ Below w1.heap.size w1 w2) := ⟨(HS.out.2.1.below hb2).below (Below.refl _ _).drew, hb2'⟩
        have hw2 := hb2'.size
        clear sx hb2 hb2' hc hd
        go_wp2_with fail
        go_region_held3 (fun W => W.cell? ⟨w.heap.size, 0, none⟩ = some (.int .i64 a) ∧ W.cell? ⟨w.heap.size, 1, none⟩ = some (.int .i64 b) ∧ W.cell? ⟨w.heap.size, 2, none⟩ = some (.int .i64 c) ∧ W.cell? ⟨w.heap.size, 3, none⟩ = some (.int .i64 d) ∧ W.cell? ⟨b1, o1 + k * 2, none⟩ = some (.string g.1) ∧ W.cell? ⟨b1, o1 + k * 2 + 1, none⟩ = some (.slice a2 g.2.length cap2)) (go_keep) (first | (go_at_call 60; refine (txt6 a b c d g _ w2.drew HR.out.1 HS.out.2.2 x0 x1 x2 x3 x4 x5).mono ?_; rintro e w3 ⟨E, rfl, hE, hEs, hb3, y0, y1, y2, y3, y4, y5⟩; have HEE : Hid (E = textG a b c d g.1 g.2) := hE; clear hE; have u2 : ¬ 9223372036854775807 < x.size + E.size := by omega))
        have HB3 : Hid (Below w1.heap.size w1 w3) := HR.out.2.drew.trans (hb3.mono hw2)
        clear hb3
        rename_i hHeld
        clear hHeld
        go_wp2
        go_roundw
        case rel =>
          refine ⟨k + 1, _, rfl, by go_num, by omega, fun j t hj ht => ?_, ?_, HB3.out⟩
          · rcases Nat.lt_or_ge j k with q | q
            · exact HB.out.2.1 j t q ht
            · obtain rfl : j = k := by omega
              rw [HS.out.1] at ht
              cases ht
              exact hg
          · rw [Go.Joins.data_append, HB.out.2.2, HEE.out]
            simp only [catU, HS.out.1, Option.getD_some]
        case measure => simp [intOf]; omega
    · obtain rfl : k = gs.length := by omega
      have hlt' : ¬ (gs.length : Int) < (gs.length : Int) := by omega
      have hwr := hb.size
      have HN : Hid (Below w.heap.size w wr ∧ (∀ (j : Nat) (g : Seg), j < gs.length → gs[j]? = some g → rightG g.1 g.2 = true) ∧ x.data.toList = catU a b c d gs gs.length) := ⟨H1.out.1.trans (hb.mono (by omega)), hA, hx⟩
      have hxl : x.size = (catU a b c d gs gs.length).length := by rw [size_list, hx]
      clear hA hx hb hlt
      by_cases hbig : 20000 < x.size
      · have hbig' : (20000 : Int) < (x.size : Int) := by omega
        go_wp2
        go_ret
        exact ⟨ret_str (textsG_no fun h => by have := h.2.2.2; omega).symm, HN.out.1⟩
      · have hbig' : ¬ (20000 : Int) < (x.size : Int) := by omega
        go_wp2
        go_ret
        refine ⟨ret_str ?_, HN.out.1⟩
        rw [textsG_yes ⟨hr, by omega, fun i g hi => HN.out.2.1 i g (List.getElem?_eq_some_iff.1 hi).1 hi, by omega⟩]
        apply ByteArray.ext
        apply Array.toList_inj.1
        rw [HN.out.2.2]
end Go.Proofs.YtkaolpnbddjdpaaGreatDoor
namespace Go.Proofs.YtkaolpnbddjdpaaGreatDoor
open Go.ChangeShapes Go.WideShapes Go.ChangeAt Go.RowKit
theorem conv4 (W : World) (x0 x1 x2 x3 : Int) : (convert 22 9 (.slice (some ⟨W.heap.size, 0, none⟩) 4 4)).run Tryz.prog (W.alloc (.cells #[.int .u8 x0, .int .u8 x1, .int .u8 x2, .int .u8 x3] 5)) = .ok (.string (strOfNums [x0, x1, x2, x3])) (W.alloc (.cells #[.int .u8 x0, .int .u8 x1, .int .u8 x2, .int .u8 x3] 5)) :=
  run_convert_bytes_arg _ 22 5 Tryz.underlying22 Tryz.underlying5 W.heap.size 0 4 4 [x0, x1, x2, x3] rfl (fun i hi => by
    rcases i with _ | _ | _ | _ | i
    · simp [go_sem]
    · simp [go_sem]
    · simp [go_sem]
    · simp [go_sem]
    · omega) 9 Tryz.underlying9
def synStr (a b c d : Int) : ByteArray := ⟨#[83, 89, 78]⟩ ++ strOfNums [a % 256, b % 256, c % 256, d % 256]
set_option maxHeartbeats 400000 in
theorem text_impl_no (a b c d : Int) (w : World) (h : rightB a b c d = false) : Calls Tryz.prog 35 #[.agg #[.int .i64 a, .int .i64 b, .int .i64 c, .int .i64 d]] w fun e w' => e = .returned (.string ⟨#[]⟩) ∧ Below w.heap.size w w' := by
  go_enter Tryz.func35, Tryz.ntmps35
  go_wp2_with fail
  refine (right_impl a b c d _).mono ?_
  rintro e w1 ⟨rfl, hb⟩
  rw [h]
  go_wp2
  go_ret
  exact ⟨rfl, ((Below.refl _ _).alloc (Nat.le_refl _) _).trans (hb.mono (by simp))⟩
set_option maxHeartbeats 400000 in
theorem text_impl_yes (a b c d : Int) (w : World) (h : rightB a b c d = true) : Calls Tryz.prog 35 #[.agg #[.int .i64 a, .int .i64 b, .int .i64 c, .int .i64 d]] w fun e w' => e = .returned (.string (synStr a b c d)) ∧ Below w.heap.size w w' := by
  go_enter Tryz.func35, Tryz.ntmps35
  go_wp2_with fail
  refine (right_impl a b c d _).mono ?_
  rintro e w1 ⟨rfl, hb⟩
  rw [h]
  obtain ⟨q0, q1, q2, q3, qs⟩ := box4 (hb.mono (by simp))
  have hcv := conv4 w1
  go_wp2
  go_ret
  exact ⟨rfl, (((Below.refl _ _).alloc (Nat.le_refl _) _).trans (hb.mono (by simp))).alloc (by omega) _⟩
def textOf (a b c d : Int) : ByteArray := if rightB a b c d = true then synStr a b c d else ⟨#[]⟩
theorem text_impl (a b c d : Int) (w : World) : Calls Tryz.prog 35 #[.agg #[.int .i64 a, .int .i64 b, .int .i64 c, .int .i64 d]] w fun e w' => e = .returned (.string (textOf a b c d)) ∧ Below w.heap.size w w' := by
  unfold textOf
  cases h : rightB a b c d
  · exact text_impl_no a b c d w h
  · exact text_impl_yes a b c d w h
end Go.Proofs.YtkaolpnbddjdpaaGreatDoor
namespace Go.Proofs.YtkaolpnbddjdpaaGreatDoor
open Go.ChangeShapes Go.WideShapes Go.ChangeAt Go.RowKit
set_option maxHeartbeats 400000 in
theorem text_spec_no (a b c d : Int) (w : World) (h : rightB a b c d = false) : Calls Tryz.prog 34 #[.agg #[.int .i64 a, .int .i64 b, .int .i64 c, .int .i64 d]] w fun e w' => e = .returned (.string ⟨#[]⟩) ∧ Below w.heap.size w w' := by
  go_enter Tryz.func34, Tryz.ntmps34
  go_wp2_with fail
  refine (right_spec a b c d _).mono ?_
  rintro e w1 ⟨rfl, hb⟩
  rw [h]
  go_wp2
  go_ret
  exact ⟨rfl, ((Below.refl _ _).alloc (Nat.le_refl _) _).trans (hb.mono (by simp))⟩
set_option maxHeartbeats 400000 in
theorem text_spec_yes (a b c d : Int) (w : World) (h : rightB a b c d = true) : Calls Tryz.prog 34 #[.agg #[.int .i64 a, .int .i64 b, .int .i64 c, .int .i64 d]] w fun e w' => e = .returned (.string (synStr a b c d)) ∧ Below w.heap.size w w' := by
  go_enter Tryz.func34, Tryz.ntmps34
  go_wp2_with fail
  refine (right_spec a b c d _).mono ?_
  rintro e w1 ⟨rfl, hb⟩
  rw [h]
  obtain ⟨q0, q1, q2, q3, qs⟩ := box4 (hb.mono (by simp))
  have hcv := conv4 w1
  go_wp2
  go_ret
  exact ⟨rfl, (((Below.refl _ _).alloc (Nat.le_refl _) _).trans (hb.mono (by simp))).alloc (by omega) _⟩
theorem text_spec (a b c d : Int) (w : World) : Calls Tryz.prog 34 #[.agg #[.int .i64 a, .int .i64 b, .int .i64 c, .int .i64 d]] w fun e w' => e = .returned (.string (textOf a b c d)) ∧ Below w.heap.size w w' := by
  unfold textOf
  cases h : rightB a b c d
  · exact text_spec_no a b c d w h
  · exact text_spec_yes a b c d w h
end Go.Proofs.YtkaolpnbddjdpaaGreatDoor
namespace Go.Proofs.YtkaolpnbddjdpaaGreatDoor
open Go.ChangeShapes Go.WideShapes Go.ChangeAt Go.RowKit
theorem undrewT {n : Nat} {w w' : World} (h : Below n w.drew w') : Below n w w' := ⟨h.os.trans rfl, h.tape, h.output, h.size, h.block⟩
/-- The segments' text of what ParcelIx tells. -/
noncomputable def ptX (a b c d : Int) (p : Pcl) : ByteArray := textsG a b c d (ixSegsR (ixT p))
/-- What ParcelText tells. -/
noncomputable def ptxT (a b c d : Int) (p : Pcl) : ByteArray := bif rightB a b c d && !(ptX a b c d p).toList.isEmpty && decide ((ptX a b c d p).size + 7 ≤ 20000) then synStr a b c d ++ ptX a b c d p else ⟨#[]⟩
theorem textsG_size (a b c d : Int) (gs : List Seg) : (textsG a b c d gs).size ≤ 20000 := by
  unfold textsG
  split
  · rename_i h
    have := h.2.2.2
    simpa [ByteArray.size] using this
  · decide
theorem isE_nil : (⟨#[]⟩ : ByteArray).toList.isEmpty = true := by
  rw [ByteArray.toList_eq]
  rfl
theorem isE_syn (a b c d : Int) : (synStr a b c d).toList.isEmpty = false := by
  rw [ByteArray.toList_eq]
  rfl
theorem ptX_no {a b c d : Int} {p : Pcl} (h : pclB p = false) : ptX a b c d p = ⟨#[]⟩ := by
  have e : ixT p = ⟨⟨#[]⟩, ⟨#[]⟩, 0, []⟩ := by unfold ixT; rw [h]; rfl
  have hz : ixB ⟨⟨#[]⟩, ⟨#[]⟩, 0, []⟩ = false := by
    cases g : ixB ⟨⟨#[]⟩, ⟨#[]⟩, 0, []⟩
    · rfl
    · have := (ixB_facts g).1
      exact absurd this (by decide)
  unfold ptX
  rw [e]
  unfold ixSegsR textsG
  rw [hz]
  simp [catU]
/-- What is owned reads as an interchange within bounds. -/
theorem OwnBs.riT {N : Nat} {W : World} {v : Value} {bs : List BunV} {p : Pcl} (h : OwnBs N W v bs) (hb : bs.map (·.1) = (ixT p).buns) (hB : BdPc 1048576 p) : RI W v (ixT p) ∧ BdI 1048576 (ixT p) := by
  unfold ixT at hb ⊢
  cases g : pclB p
  · rw [g] at hb
    have hn : bs = [] := by simpa using hb
    subst hn
    have := h.rowB (fun x hx => by cases hx) (by simp) (fun x hx => by cases hx)
    exact ⟨⟨this, by simp [ByteArray.size], by simp [ByteArray.size]⟩, by simp [ByteArray.size], by simp [ByteArray.size], by simp, fun i r hi => by simp at hi⟩
  · rw [g] at hb
    exact h.ri hb (pclB_all g) hB
theorem bdLg_bdG {gs : List Seg} (h : BdLg gs ∧ gs.length ≤ 2400) : BdG 1048576 gs := bdyG_bdG h
set_option maxRecDepth 20000 in
set_option maxHeartbeats 8000000 in
theorem parcelText_impl (a b c d : Int) (p : Pcl) (v : Value) (w : World) (h : PclR w v p) (hI : ∀ q ∈ p.papers, PapI q) (hB : BdPc 1048576 p) (hV : VarsAt w) :
    Calls Tryz.prog 10 #[.agg #[.int .i64 a, .int .i64 b, .int .i64 c, .int .i64 d], .agg #[.string p.frm, .string p.to, .int .i64 p.num, v]] w fun e w' => e = .returned (.string (ptxT a b c d p)) ∧ Below w.heap.size w w' := by
  obtain ⟨frm, tto, num, ps⟩ := p
  have hps := h.ps
  dsimp only at hps
  obtain ⟨A, C, rfl⟩ := hps.val
  obtain ⟨W1, hW1⟩ : ∃ W1, (w.alloc (.cells #[.int .i64 a, .int .i64 b, .int .i64 c, .int .i64 d] 24)).alloc (.cells #[.string frm, .string tto, .int .i64 num, .slice A ps.length C] 27) = W1 := ⟨_, rfl⟩
  have hb1 : Below w.heap.size w W1 := by rw [← hW1]; exact ((Below.refl _ _).alloc (Nat.le_refl _) _).alloc (by simp) _
  have hx0 : W1.heap[w.heap.size]? = some (.cells #[.int .i64 a, .int .i64 b, .int .i64 c, .int .i64 d] 24) := by
    rw [← hW1, (Below.alloc (Below.refl (w.alloc (.cells #[.int .i64 a, .int .i64 b, .int .i64 c, .int .i64 d] 24)).heap.size (w.alloc (.cells #[.int .i64 a, .int .i64 b, .int .i64 c, .int .i64 d] 24))) (Nat.le_refl _) (.cells #[.string frm, .string tto, .int .i64 num, .slice A ps.length C] 27)).block w.heap.size (by simp)]
    exact World.alloc_heap_new w _
  have hy0 : W1.heap[w.heap.size + 1]? = some (.cells #[.string frm, .string tto, .int .i64 num, .slice A ps.length C] 27) := by
    rw [← hW1]
    have := World.alloc_heap_new (w.alloc (.cells #[.int .i64 a, .int .i64 b, .int .i64 c, .int .i64 d] 24)) (.cells #[.string frm, .string tto, .int .i64 num, .slice A ps.length C] 27)
    simpa using this
  have HW1 : Hid ((w.alloc (.cells #[.int .i64 a, .int .i64 b, .int .i64 c, .int .i64 d] 24)).alloc (.cells #[.string frm, .string tto, .int .i64 num, .slice A ps.length C] 27) = W1) := hW1
  have HI : Hid (∀ q ∈ ps, PapI q) := hI
  have HB : Hid (BdPc 1048576 ⟨frm, tto, num, ps⟩) := hB
  have H1 : Hid (∀ W, Below W1.heap.size W1 W → ((W.cell? ⟨w.heap.size, 0, none⟩ = some (.int .i64 a) ∧ W.cell? ⟨w.heap.size, 1, none⟩ = some (.int .i64 b) ∧ W.cell? ⟨w.heap.size, 2, none⟩ = some (.int .i64 c) ∧ W.cell? ⟨w.heap.size, 3, none⟩ = some (.int .i64 d)) ∧ (W.cell? ⟨w.heap.size + 1, 0, none⟩ = some (.string frm) ∧ W.cell? ⟨w.heap.size + 1, 1, none⟩ = some (.string tto) ∧ W.cell? ⟨w.heap.size + 1, 2, none⟩ = some (.int .i64 num) ∧ W.cell? ⟨w.heap.size + 1, 3, none⟩ = some (.slice A ps.length C))) ∧ PclR W (.slice A ps.length C) ⟨frm, tto, num, ps⟩ ∧ VarsAt W ∧ Below w.heap.size w W) := fun W hW => by
    have e0 := (hW.block _ (Array.getElem?_eq_some_iff.1 hx0).1).trans hx0
    have e1 := (hW.block _ (Array.getElem?_eq_some_iff.1 hy0).1).trans hy0
    obtain ⟨_, i0, i1, i2, i3⟩ := ix4 e0
    obtain ⟨_, i4, i5, i6, i7⟩ := ix4 e1
    have hw : Below w.heap.size w W := hb1.trans (hW.mono hb1.size)
    exact ⟨⟨⟨i0, i1, i2, i3⟩, i4, i5, i6, i7⟩, h.below hw, hV.below hw, hw⟩
  obtain ⟨ptx, hptx⟩ : ∃ ptx, ptX a b c d ⟨frm, tto, num, ps⟩ = ptx := ⟨_, rfl⟩
  have HT : Hid (ptxT a b c d ⟨frm, tto, num, ps⟩ = bif rightB a b c d && !ptx.toList.isEmpty && decide (ptx.size + 7 ≤ 20000) then synStr a b c d ++ ptx else ⟨#[]⟩) := by
    show _ = _
    rw [← hptx]
    rfl
  have HX : Hid (textsG a b c d (ixSegsR (ixT ⟨frm, tto, num, ps⟩)) = ptx) := hptx
  have HN : Hid (pclB ⟨frm, tto, num, ps⟩ = false → ptx.toList.isEmpty = true) := fun h0 => by rw [← hptx, ptX_no h0]; exact isE_nil
  have hpz : ptx.size ≤ 20000 := by rw [← hptx]; exact textsG_size _ _ _ _ _
  clear h hI hB hb1 hps hW1 hx0 hy0 hptx hV
  obtain ⟨⟨x0, x1, x2, x3⟩, x4, x5, x6, x7⟩ := (H1.out W1 (Below.refl _ _)).1
  go_enter Tryz.func10, Tryz.ntmps10
  go_upto_region 1 with fail
  try rw [HW1.out]
  go_wp2_with fail
  refine (text_impl a b c d _).mono ?_
  rintro e w1 ⟨rfl, hb1⟩
  have K1 : Hid (∀ W, Below w1.heap.size w1 W → ((W.cell? ⟨w.heap.size, 0, none⟩ = some (.int .i64 a) ∧ W.cell? ⟨w.heap.size, 1, none⟩ = some (.int .i64 b) ∧ W.cell? ⟨w.heap.size, 2, none⟩ = some (.int .i64 c) ∧ W.cell? ⟨w.heap.size, 3, none⟩ = some (.int .i64 d)) ∧ (W.cell? ⟨w.heap.size + 1, 0, none⟩ = some (.string frm) ∧ W.cell? ⟨w.heap.size + 1, 1, none⟩ = some (.string tto) ∧ W.cell? ⟨w.heap.size + 1, 2, none⟩ = some (.int .i64 num) ∧ W.cell? ⟨w.heap.size + 1, 3, none⟩ = some (.slice A ps.length C))) ∧ PclR W (.slice A ps.length C) ⟨frm, tto, num, ps⟩ ∧ VarsAt W ∧ Below w.heap.size w W) := fun W hW => H1.out W (hb1.trans (hW.mono hb1.size))
  clear hb1 x0 x1 x2 x3 x4 x5 x6 x7
  obtain ⟨⟨x0, x1, x2, x3⟩, x4, x5, x6, x7⟩ := (K1.out w1 (Below.refl _ _)).1
  go_upto_region 2 with fail
  go_region_held3 (fun W => (W.cell? ⟨w.heap.size, 0, none⟩ = some (.int .i64 a) ∧ W.cell? ⟨w.heap.size, 1, none⟩ = some (.int .i64 b) ∧ W.cell? ⟨w.heap.size, 2, none⟩ = some (.int .i64 c) ∧ W.cell? ⟨w.heap.size, 3, none⟩ = some (.int .i64 d)) ∧ (W.cell? ⟨w.heap.size + 1, 0, none⟩ = some (.string frm) ∧ W.cell? ⟨w.heap.size + 1, 1, none⟩ = some (.string tto) ∧ W.cell? ⟨w.heap.size + 1, 2, none⟩ = some (.int .i64 num) ∧ W.cell? ⟨w.heap.size + 1, 3, none⟩ = some (.slice A ps.length C))) (go_keep) (first | (go_at_call 19; refine (parcelIx_impl ⟨frm, tto, num, ps⟩ (.slice A ps.length C) _ (by first | exact (K1.out _ (Below.refl _ _)).2.1 | exact (K1.out _ (Below.refl _ _).drew).2.1) HI.out HB.out (by first | exact (K1.out _ (Below.refl _ _)).2.2.1 | exact (K1.out _ (Below.refl _ _).drew).2.2.1)).mono ?_; rintro e wa ⟨u, bs, rfl, hO, hbs, hba⟩; have ba : Below w1.heap.size w1 wa := (by first | exact hba | exact undrewT hba); have HR : Hid (RI wa u (ixT ⟨frm, tto, num, ps⟩) ∧ BdI 1048576 (ixT ⟨frm, tto, num, ps⟩)) := hO.riT hbs HB.out; obtain ⟨⟨j0, j1, j2, j3⟩, j4, j5, j6, j7⟩ := (K1.out wa ba).1; clear hba hO hbs; try dsimp only) | (go_at_call 37; refine (ixSegments_impl (ixT ⟨frm, tto, num, ps⟩) _ _ (by first | exact HR.out.1 | exact HR.out.1.below (Below.refl _ _).drew) HR.out.2 (by first | exact (K1.out _ ba).2.2.1.tab | exact (K1.out _ ba.drew).2.2.1.tab)).mono ?_; rintro e wb ⟨u2, ps2, rfl, hO2, hbb⟩; have bb : Below w1.heap.size w1 wb := ba.trans ((by first | exact hbb | exact undrewT hbb : Below wa.heap.size wa wb).mono ba.size); have HG : Hid (RowG wb u2 (ixSegsR (ixT ⟨frm, tto, num, ps⟩)) ∧ BdG 1048576 (ixSegsR (ixT ⟨frm, tto, num, ps⟩))) := ⟨hO2.rowG (ixSegsR_bd _).1 (ixSegsR_bd _).2, bdLg_bdG (ixSegsR_bd _)⟩; obtain ⟨⟨k0, k1, k2, k3⟩, k4, k5, k6, k7⟩ := (K1.out wb bb).1; clear hbb hO2; try dsimp only) | (go_at_call 36; refine (texts_impl a b c d _ _ _ (by first | exact HG.out.1 | exact HG.out.1.below (Below.refl _ _).drew) HG.out.2).mono ?_; rintro e wc ⟨rfl, hbc⟩; have bc : Below w1.heap.size w1 wc := bb.trans ((by first | exact hbc | exact undrewT hbc : Below wb.heap.size wb wc).mono bb.size); obtain ⟨⟨l0, l1, l2, l3⟩, l4, l5, l6, l7⟩ := (K1.out wc bc).1; clear hbc; try dsimp only) | fail)
  all_goals
    rename_i hHeld
    clear hHeld
    have HB2 : Hid (Below w.heap.size w wc) := (K1.out wc bc).2.2.2
    rw [HX.out]
    clear j0 j1 j2 j3 j4 j5 j6 j7 k0 k1 k2 k3 k4 k5 k6 k7 l0 l1 l2 l3 l4 l5 l6 l7 ba bb bc x0 x1 x2 x3 x4 x5 x6 x7
    unfold textOf
    cases hr : rightB a b c d
    · have HF : Hid (ptxT a b c d ⟨frm, tto, num, ps⟩ = ⟨#[]⟩) := by show _ = _; rw [HT.out, hr]; rfl
      rw [if_neg (by decide)]
      go_wp2
      go_ret
      exact ⟨ret_str HF.out.symm, HB2.out⟩
    · rw [if_pos rfl]
      have e0 := isE_syn a b c d
      have z0 : (synStr a b c d).size = 7 := rfl
      cases e1 : ptx.toList.isEmpty
      · by_cases hz : ptx.size + 7 ≤ 20000
        · have HF : Hid (ptxT a b c d ⟨frm, tto, num, ps⟩ = synStr a b c d ++ ptx) := by show _ = _; rw [HT.out, hr, e1, decide_eq_true hz]; rfl
          have hz' : ¬ ((synStr a b c d).size : Int) + (ptx.size : Int) > 20000 := by rw [z0]; omega
          have hz2 : ¬ (20000 : Int) < 7 + (ptx.size : Int) := by omega
          go_wp2
          go_ret
          exact ⟨ret_str HF.out.symm, HB2.out⟩
        · have HF : Hid (ptxT a b c d ⟨frm, tto, num, ps⟩ = ⟨#[]⟩) := by show _ = _; rw [HT.out, hr, e1, decide_eq_false hz]; rfl
          have hz' : ((synStr a b c d).size : Int) + (ptx.size : Int) > 20000 := by rw [z0]; omega
          have hz2 : (20000 : Int) < 7 + (ptx.size : Int) := by omega
          go_wp2
          go_ret
          exact ⟨ret_str HF.out.symm, HB2.out⟩
      · have HF : Hid (ptxT a b c d ⟨frm, tto, num, ps⟩ = ⟨#[]⟩) := by show _ = _; rw [HT.out, hr, e1]; rfl
        go_wp2
        go_ret
        exact ⟨ret_str HF.out.symm, HB2.out⟩
set_option maxRecDepth 20000 in
set_option maxHeartbeats 8000000 in
theorem parcelText_spec (a b c d : Int) (p : Pcl) (v : Value) (w : World) (h : PclR w v p) (hI : ∀ q ∈ p.papers, PapI q) (hB : BdPc 1048576 p) :
    Calls Tryz.prog 9 #[.agg #[.int .i64 a, .int .i64 b, .int .i64 c, .int .i64 d], .agg #[.string p.frm, .string p.to, .int .i64 p.num, v]] w fun e w' => e = .returned (.string (ptxT a b c d p)) ∧ Below w.heap.size w w' := by
  obtain ⟨frm, tto, num, ps⟩ := p
  have hps := h.ps
  dsimp only at hps
  obtain ⟨A, C, rfl⟩ := hps.val
  obtain ⟨W1, hW1⟩ : ∃ W1, (w.alloc (.cells #[.int .i64 a, .int .i64 b, .int .i64 c, .int .i64 d] 24)).alloc (.cells #[.string frm, .string tto, .int .i64 num, .slice A ps.length C] 27) = W1 := ⟨_, rfl⟩
  have hb1 : Below w.heap.size w W1 := by rw [← hW1]; exact ((Below.refl _ _).alloc (Nat.le_refl _) _).alloc (by simp) _
  have hx0 : W1.heap[w.heap.size]? = some (.cells #[.int .i64 a, .int .i64 b, .int .i64 c, .int .i64 d] 24) := by
    rw [← hW1, (Below.alloc (Below.refl (w.alloc (.cells #[.int .i64 a, .int .i64 b, .int .i64 c, .int .i64 d] 24)).heap.size (w.alloc (.cells #[.int .i64 a, .int .i64 b, .int .i64 c, .int .i64 d] 24))) (Nat.le_refl _) (.cells #[.string frm, .string tto, .int .i64 num, .slice A ps.length C] 27)).block w.heap.size (by simp)]
    exact World.alloc_heap_new w _
  have hy0 : W1.heap[w.heap.size + 1]? = some (.cells #[.string frm, .string tto, .int .i64 num, .slice A ps.length C] 27) := by
    rw [← hW1]
    have := World.alloc_heap_new (w.alloc (.cells #[.int .i64 a, .int .i64 b, .int .i64 c, .int .i64 d] 24)) (.cells #[.string frm, .string tto, .int .i64 num, .slice A ps.length C] 27)
    simpa using this
  have HW1 : Hid ((w.alloc (.cells #[.int .i64 a, .int .i64 b, .int .i64 c, .int .i64 d] 24)).alloc (.cells #[.string frm, .string tto, .int .i64 num, .slice A ps.length C] 27) = W1) := hW1
  have HI : Hid (∀ q ∈ ps, PapI q) := hI
  have HB : Hid (BdPc 1048576 ⟨frm, tto, num, ps⟩) := hB
  have H1 : Hid (∀ W, Below W1.heap.size W1 W → ((W.cell? ⟨w.heap.size, 0, none⟩ = some (.int .i64 a) ∧ W.cell? ⟨w.heap.size, 1, none⟩ = some (.int .i64 b) ∧ W.cell? ⟨w.heap.size, 2, none⟩ = some (.int .i64 c) ∧ W.cell? ⟨w.heap.size, 3, none⟩ = some (.int .i64 d)) ∧ (W.cell? ⟨w.heap.size + 1, 0, none⟩ = some (.string frm) ∧ W.cell? ⟨w.heap.size + 1, 1, none⟩ = some (.string tto) ∧ W.cell? ⟨w.heap.size + 1, 2, none⟩ = some (.int .i64 num) ∧ W.cell? ⟨w.heap.size + 1, 3, none⟩ = some (.slice A ps.length C))) ∧ PclR W (.slice A ps.length C) ⟨frm, tto, num, ps⟩ ∧ True ∧ Below w.heap.size w W) := fun W hW => by
    have e0 := (hW.block _ (Array.getElem?_eq_some_iff.1 hx0).1).trans hx0
    have e1 := (hW.block _ (Array.getElem?_eq_some_iff.1 hy0).1).trans hy0
    obtain ⟨_, i0, i1, i2, i3⟩ := ix4 e0
    obtain ⟨_, i4, i5, i6, i7⟩ := ix4 e1
    have hw : Below w.heap.size w W := hb1.trans (hW.mono hb1.size)
    exact ⟨⟨⟨i0, i1, i2, i3⟩, i4, i5, i6, i7⟩, h.below hw, trivial, hw⟩
  obtain ⟨ptx, hptx⟩ : ∃ ptx, ptX a b c d ⟨frm, tto, num, ps⟩ = ptx := ⟨_, rfl⟩
  have HT : Hid (ptxT a b c d ⟨frm, tto, num, ps⟩ = bif rightB a b c d && !ptx.toList.isEmpty && decide (ptx.size + 7 ≤ 20000) then synStr a b c d ++ ptx else ⟨#[]⟩) := by
    show _ = _
    rw [← hptx]
    rfl
  have HX : Hid (textsG a b c d (ixSegsR (ixT ⟨frm, tto, num, ps⟩)) = ptx) := hptx
  have HN : Hid (pclB ⟨frm, tto, num, ps⟩ = false → ptx.toList.isEmpty = true) := fun h0 => by rw [← hptx, ptX_no h0]; exact isE_nil
  have hpz : ptx.size ≤ 20000 := by rw [← hptx]; exact textsG_size _ _ _ _ _
  clear h hI hB hb1 hps hW1 hx0 hy0 hptx
  obtain ⟨⟨x0, x1, x2, x3⟩, x4, x5, x6, x7⟩ := (H1.out W1 (Below.refl _ _)).1
  go_enter Tryz.func9, Tryz.ntmps9
  go_upto_region 1 with fail
  try rw [HW1.out]
  go_wp2_with fail
  refine (right_spec a b c d _).mono ?_
  rintro e w1 ⟨rfl, hb1⟩
  have K1 : Hid (∀ W, Below w1.heap.size w1 W → ((W.cell? ⟨w.heap.size, 0, none⟩ = some (.int .i64 a) ∧ W.cell? ⟨w.heap.size, 1, none⟩ = some (.int .i64 b) ∧ W.cell? ⟨w.heap.size, 2, none⟩ = some (.int .i64 c) ∧ W.cell? ⟨w.heap.size, 3, none⟩ = some (.int .i64 d)) ∧ (W.cell? ⟨w.heap.size + 1, 0, none⟩ = some (.string frm) ∧ W.cell? ⟨w.heap.size + 1, 1, none⟩ = some (.string tto) ∧ W.cell? ⟨w.heap.size + 1, 2, none⟩ = some (.int .i64 num) ∧ W.cell? ⟨w.heap.size + 1, 3, none⟩ = some (.slice A ps.length C))) ∧ PclR W (.slice A ps.length C) ⟨frm, tto, num, ps⟩ ∧ True ∧ Below w.heap.size w W) := fun W hW => H1.out W (hb1.trans (hW.mono hb1.size))
  clear hb1 x0 x1 x2 x3 x4 x5 x6 x7
  obtain ⟨⟨x0, x1, x2, x3⟩, x4, x5, x6, x7⟩ := (K1.out w1 (Below.refl _ _)).1
  cases hr : rightB a b c d
  · have HF : Hid (ptxT a b c d ⟨frm, tto, num, ps⟩ = ⟨#[]⟩) := by show _ = _; rw [HT.out, hr]; rfl
    go_wp2
    go_ret
    exact ⟨ret_str HF.out.symm, (K1.out w1 (Below.refl _ _)).2.2.2⟩
  · go_wp2_with fail
    refine (parcelRight_spec ⟨frm, tto, num, ps⟩ (.slice A ps.length C) w1 (K1.out w1 (Below.refl _ _)).2.1 HI.out HB.out).mono ?_
    rintro e w2 ⟨rfl, hb2⟩
    have K2 : Hid (∀ W, Below w2.heap.size w2 W → ((W.cell? ⟨w.heap.size, 0, none⟩ = some (.int .i64 a) ∧ W.cell? ⟨w.heap.size, 1, none⟩ = some (.int .i64 b) ∧ W.cell? ⟨w.heap.size, 2, none⟩ = some (.int .i64 c) ∧ W.cell? ⟨w.heap.size, 3, none⟩ = some (.int .i64 d)) ∧ (W.cell? ⟨w.heap.size + 1, 0, none⟩ = some (.string frm) ∧ W.cell? ⟨w.heap.size + 1, 1, none⟩ = some (.string tto) ∧ W.cell? ⟨w.heap.size + 1, 2, none⟩ = some (.int .i64 num) ∧ W.cell? ⟨w.heap.size + 1, 3, none⟩ = some (.slice A ps.length C))) ∧ PclR W (.slice A ps.length C) ⟨frm, tto, num, ps⟩ ∧ True ∧ Below w.heap.size w W) := fun W hW => K1.out W (hb2.trans (hW.mono hb2.size))
    clear hb2 x0 x1 x2 x3 x4 x5 x6 x7
    obtain ⟨⟨x0, x1, x2, x3⟩, x4, x5, x6, x7⟩ := (K2.out w2 (Below.refl _ _)).1
    cases hpc : pclB ⟨frm, tto, num, ps⟩
    · have HF : Hid (ptxT a b c d ⟨frm, tto, num, ps⟩ = ⟨#[]⟩) := by show _ = _; rw [HT.out, HN.out hpc]; simp
      go_wp2
      go_ret
      exact ⟨ret_str HF.out.symm, (K2.out w2 (Below.refl _ _)).2.2.2⟩
    · have HA : Hid (∀ q ∈ ps, papB q = true) := pclB_all hpc
      have ET : Hid (textsG a b c d (ixSegsR (ixP ⟨frm, tto, num, ps⟩)) = ptx) := by
        have e : ixT ⟨frm, tto, num, ps⟩ = ixP ⟨frm, tto, num, ps⟩ := by unfold ixT; rw [hpc]; rfl
        show _ = _
        rw [← e]
        exact HX.out
      go_upto_region 3 with fail
      go_region_held3 (fun W => (W.cell? ⟨w.heap.size, 0, none⟩ = some (.int .i64 a) ∧ W.cell? ⟨w.heap.size, 1, none⟩ = some (.int .i64 b) ∧ W.cell? ⟨w.heap.size, 2, none⟩ = some (.int .i64 c) ∧ W.cell? ⟨w.heap.size, 3, none⟩ = some (.int .i64 d)) ∧ (W.cell? ⟨w.heap.size + 1, 0, none⟩ = some (.string frm) ∧ W.cell? ⟨w.heap.size + 1, 1, none⟩ = some (.string tto) ∧ W.cell? ⟨w.heap.size + 1, 2, none⟩ = some (.int .i64 num) ∧ W.cell? ⟨w.heap.size + 1, 3, none⟩ = some (.slice A ps.length C))) (go_keep) (first | (go_at_call 33; refine (l06Ix_any ⟨frm, tto, num, ps⟩ (.slice A ps.length C) _ (by first | exact (K2.out _ (Below.refl _ _)).2.1 | exact (K2.out _ (Below.refl _ _).drew).2.1) HA.out HI.out HB.out).mono ?_; rintro e wa ⟨u, bs, rfl, hO, hbs, hba⟩; have ba : Below w2.heap.size w2 wa := (by first | exact hba | exact undrewT hba); have HR : Hid (RI wa u (ixP ⟨frm, tto, num, ps⟩) ∧ BdI 1048576 (ixP ⟨frm, tto, num, ps⟩)) := hO.ri hbs HA.out HB.out; obtain ⟨⟨j0, j1, j2, j3⟩, j4, j5, j6, j7⟩ := (K2.out wa ba).1; clear hba hO hbs; try dsimp only) | (go_at_call 32; refine (ixSegments_spec (ixP ⟨frm, tto, num, ps⟩) _ _ (by first | exact HR.out.1 | exact HR.out.1.below (Below.refl _ _).drew) HR.out.2).mono ?_; rintro e wb ⟨u2, ps2, rfl, hO2, hbb⟩; have bb : Below w2.heap.size w2 wb := ba.trans ((by first | exact hbb | exact undrewT hbb : Below wa.heap.size wa wb).mono ba.size); have HG : Hid (RowG wb u2 (ixSegsR (ixP ⟨frm, tto, num, ps⟩)) ∧ BdG 1048576 (ixSegsR (ixP ⟨frm, tto, num, ps⟩))) := ⟨hO2.rowG (ixSegsR_bd _).1 (ixSegsR_bd _).2, bdLg_bdG (ixSegsR_bd _)⟩; obtain ⟨⟨k0, k1, k2, k3⟩, k4, k5, k6, k7⟩ := (K2.out wb bb).1; clear hbb hO2; try dsimp only) | (go_at_call 31; refine (texts_spec a b c d _ _ _ (by first | exact HG.out.1 | exact HG.out.1.below (Below.refl _ _).drew) HG.out.2).mono ?_; rintro e wc ⟨rfl, hbc⟩; have bc : Below w2.heap.size w2 wc := bb.trans ((by first | exact hbc | exact undrewT hbc : Below wb.heap.size wb wc).mono bb.size); obtain ⟨⟨l0, l1, l2, l3⟩, l4, l5, l6, l7⟩ := (K2.out wc bc).1; clear hbc; try dsimp only) | fail)
      all_goals
        rename_i hHeld
        clear hHeld
        have HB2 : Hid (∀ W, Below wc.heap.size wc W → ((W.cell? ⟨w.heap.size, 0, none⟩ = some (.int .i64 a) ∧ W.cell? ⟨w.heap.size, 1, none⟩ = some (.int .i64 b) ∧ W.cell? ⟨w.heap.size, 2, none⟩ = some (.int .i64 c) ∧ W.cell? ⟨w.heap.size, 3, none⟩ = some (.int .i64 d)) ∧ (W.cell? ⟨w.heap.size + 1, 0, none⟩ = some (.string frm) ∧ W.cell? ⟨w.heap.size + 1, 1, none⟩ = some (.string tto) ∧ W.cell? ⟨w.heap.size + 1, 2, none⟩ = some (.int .i64 num) ∧ W.cell? ⟨w.heap.size + 1, 3, none⟩ = some (.slice A ps.length C))) ∧ Below w.heap.size w W) := fun W hW => by
          have := K2.out W (bc.trans (hW.mono bc.size))
          exact ⟨this.1, this.2.2.2⟩
        rw [ET.out]
        clear j0 j1 j2 j3 j4 j5 j6 j7 k0 k1 k2 k3 k4 k5 k6 k7 l0 l1 l2 l3 l4 l5 l6 l7 ba bb bc x0 x1 x2 x3 x4 x5 x6 x7
        cases e1 : ptx.toList.isEmpty
        · by_cases hz : ptx.size + 7 ≤ 20000
          · have HF : Hid (ptxT a b c d ⟨frm, tto, num, ps⟩ = synStr a b c d ++ ptx) := by show _ = _; rw [HT.out, hr, e1, decide_eq_true hz]; rfl
            have hz2 : ¬ (ptx.size : Int) + 7 > 20000 := by omega
            obtain ⟨⟨x0, x1, x2, x3⟩, x4, x5, x6, x7⟩ := (HB2.out wc (Below.refl _ _)).1
            go_wp2_with fail
            refine (text_spec a b c d _).mono ?_
            rintro e wd ⟨rfl, hbd⟩
            have HB3 : Hid (Below w.heap.size w wd) := (HB2.out wd hbd).2
            have ht : textOf a b c d = synStr a b c d := by unfold textOf; rw [if_pos hr]
            rw [ht]
            have z0 : (synStr a b c d).size = 7 := rfl
            clear hbd
            go_wp2
            go_ret
            exact ⟨ret_str HF.out.symm, HB3.out⟩
          · have HF : Hid (ptxT a b c d ⟨frm, tto, num, ps⟩ = ⟨#[]⟩) := by show _ = _; rw [HT.out, hr, e1, decide_eq_false hz]; rfl
            have hz2 : (ptx.size : Int) + 7 > 20000 := by omega
            go_wp2
            go_ret
            exact ⟨ret_str HF.out.symm, (HB2.out wc (Below.refl _ _)).2⟩
        · have HF : Hid (ptxT a b c d ⟨frm, tto, num, ps⟩ = ⟨#[]⟩) := by show _ = _; rw [HT.out, hr, e1]; rfl
          go_wp2
          go_ret
          exact ⟨ret_str HF.out.symm, (HB2.out wc (Below.refl _ _)).2⟩
end Go.Proofs.YtkaolpnbddjdpaaGreatDoor
namespace Go.Proofs.YtkaolpnbddjdpaaGreatDoor
open Go.ChangeShapes Go.WideShapes Go.ChangeAt Go.RowKit
set_option maxHeartbeats 400000 in
theorem toSyntax_any (a b c d : Int) (w : World) : Calls Tryz.prog 24 #[.agg #[.int .i64 a, .int .i64 b, .int .i64 c, .int .i64 d]] w fun e w' => e = .returned (.agg #[.int .i64 a, .int .i64 b, .int .i64 c, .int .i64 d]) ∧ Below w.heap.size w w' := by
  go_enter Tryz.func24, Tryz.ntmps24
  go_wp2
  exact bodyPost_ret (v := .agg #[.int .i64 a, .int .i64 b, .int .i64 c, .int .i64 d]) (by simp [results, Tryz.results24, go_sem]) rfl ⟨rfl, (((Below.refl _ _).alloc (Nat.le_refl _) _).alloc (by simp) _).alloc (by simp; omega) _⟩
end Go.Proofs.YtkaolpnbddjdpaaGreatDoor
