/- FnExactOutboxTick returns true at every outbox and number and leaves them as they were: OutboxTick answers as its model, writes into no argument, keeps nothing of one, and its answer owns its memory; no condition. -/
import Derived.Test.YtfjeaknlooomjaaSzOu
import Derived.Test.YtfjeaknlooomjaaToOu
import Derived.Test.YtfjeaknlooomjaaEqOu
import Derived.Test.YtfjeaknlooomjaaOpenOu
import Derived.Test.YtfjeaknlooomjaaEqOo
import Derived.Test.YtfjeaknlooomjaaMkOo
import Derived.Test.YtfjeaknlooomjaaTkI
import Derived.Test.YtfjeaknlooomjaaTkS
import Derived.Deep.RegionHeld3
import Derived.Lib.SmallJoins
namespace Go.Proofs.Ytfjeaknlooomjaa
open Go.ChangeShapes Go.WideShapes Go.ChangeAt Go.RowKit Go.Joins
open Go.ChangeMaps (open_string shut_string)
set_option linter.unusedVariables false
namespace fnExactOutboxTick
theorem bdC {rs : List OutR} (h : BdOu 1048576 rs) : ∀ d ∈ rs, d.partner.size ≤ 1048576 ∧ d.text.size ≤ 1048576 := fun d hd => by
  obtain ⟨i, hi⟩ := List.getElem?_of_mem hd
  exact h.2 i d hi
theorem lst2Ou {B : Nat} {W : World} {v : Value} {rs : List OutR} (h : OwnOu B W v rs) (hG : BdOu 1048576 rs) : ∃ b, B ≤ b ∧ b < W.heap.size ∧ v = .slice (some ⟨b, 0, none⟩) rs.length rs.length ∧ LOu b W v rs := by
  obtain ⟨b, f, h1, h2, h3, h4⟩ := h
  have hl := hG.len
  exact ⟨b, h1, h3.lt, h2, ⟨_, _, h2, fun _ => ⟨rfl, _, f, h3, Nat.le_refl _, h4⟩⟩, by omega, fun i g hi => by have := hG.2 i g hi; omega⟩
set_option maxRecDepth 20000 in
set_option maxHeartbeats 32000000 in
theorem walk (u : Value) (rs : List OutR) (d : Int) (w : World) (h : RowOu w u rs) :
    Calls Try.prog 5 #[u, .int .i64 d] w fun e w' => e = .returned (.bool true) ∧ Below w.heap.size w w' := by
  obtain ⟨A, cap, rfl⟩ := h.val
  have hlen := h.len
  obtain ⟨W0, hW0⟩ : ∃ W0, W0 = w := ⟨_, rfl⟩
  rw [← hW0] at h ⊢
  have H0 : Hid (∀ W, Below W0.heap.size W0 W → RowOu W (.slice A rs.length cap) rs) := fun W hW => h.below hW
  have HW : Hid (Below W0.heap.size W0 W0) := Below.refl _ _
  clear h hW0 w
  go_enter Try.func5, Try.ntmps5
  go_wp2_with fail
  refine (szOus_any _ rs 1048576 _ (H0.out _ (Below.refl _ _)) (by omega)).mono ?_
  rintro e w1 ⟨r, rfl, hr, hb1⟩
  have H1 : Hid (Below W0.heap.size W0 w1) := hb1
  clear hb1
  rcases hr with rfl | ⟨g0, g1, hG⟩
  · go_wp2
    go_ret
    exact ⟨rfl, HW.out.trans ((H1.out).mono HW.out.size)⟩
  have g0' : ¬ r < 0 := by omega
  have HG : Hid (BdOu 1048576 rs) := BdOu.mono hG (by omega)
  have hrl : rs.length ≤ 1048576 := HG.out.len
  clear hG
  obtain ⟨P, hP⟩ : ∃ P, P = tckO rs d := ⟨_, rfl⟩
  have hPL : P.list.length ≤ 1048577 ∧ P.sent.length ≤ 1048577 ∧ P.lost.length ≤ 1048577 := by rw [hP]; exact ⟨by have := (tckO_len rs d).1; omega, by have := (tckO_len rs d).2.1; omega, by have := (tckO_len rs d).2.2; omega⟩
  obtain ⟨hP1, hP2, hP3⟩ := hPL
  have HQS : Hid (∀ W b, RowOu W (.slice (some ⟨b, 0, none⟩) rs.length rs.length) rs → Calls Try.prog 21 #[.slice (some ⟨b, 0, none⟩) rs.length rs.length, .int .i64 d] W fun e w' => AnsS W P e w') := fun W b hW => by rw [hP]; exact outboxTick_spec _ rs d W hW
  have HQI : Hid (∀ W b, RowOu W (.slice (some ⟨b, 0, none⟩) rs.length rs.length) rs → Calls Try.prog 22 #[.slice (some ⟨b, 0, none⟩) rs.length rs.length, .int .i64 d] W fun e w' => AnsI W P e w') := fun W b hW => by rw [hP]; exact outboxTick_impl _ _ rs d W hW (bdC HG.out)
  clear hP
  go_wp2_with fail
  refine (toOus_any _ rs _ (H0.out _ H1.out) HG.out).mono ?_
  rintro e w2 ⟨v2, rfl, r2, hb2⟩
  have B2 : Below W0.heap.size W0 w2 := H1.out.trans (hb2.mono H1.out.size)
  obtain ⟨bq, fq, _, rfl, _, _⟩ := id r2
  have H2 : Hid (Below W0.heap.size W0 w2 ∧ RowOu w2 (.slice (some ⟨bq, 0, none⟩) rs.length rs.length) rs) := ⟨B2, r2.row HG.out⟩
  clear hb2 r2 B2
  go_wp2_with fail
  refine (HQS.out _ _ H2.out.2).mono ?_
  rintro e w3 hA3
  obtain ⟨us, ss, ls, rfl, hr3, hb3⟩ := hA3
  obtain ⟨s1, sc1, s2, sc2, s3, sc3, rfl, rfl, rfl⟩ := hr3.val
  obtain ⟨W4, hW4⟩ : ∃ W4, w3.alloc (.cells #[.slice s1 P.list.length sc1, .slice s2 P.sent.length sc2, .slice s3 P.lost.length sc3, .int .i64 P.code] 34) = W4 := ⟨_, rfl⟩
  obtain ⟨BW, hBW⟩ : ∃ BW, BW = w3.heap.size := ⟨_, rfl⟩
  have ha4 : Below w3.heap.size w3 W4 := by rw [← hW4]; exact (Below.refl _ _).alloc (Nat.le_refl _) _
  have hx4 : W4.heap[BW]? = some (.cells #[.slice s1 P.list.length sc1, .slice s2 P.sent.length sc2, .slice s3 P.lost.length sc3, .int .i64 P.code] 34) := by rw [← hW4, hBW]; exact World.alloc_heap_new _ _
  have B3 : Below W0.heap.size W0 w3 := H2.out.1.trans (hb3.mono H2.out.1.size)
  have H4 : Hid (Below W0.heap.size W0 W4 ∧ ROo W4 (.slice s1 P.list.length sc1) (.slice s2 P.sent.length sc2) (.slice s3 P.lost.length sc3) P ∧ W4.heap[BW]? = some (.cells #[.slice s1 P.list.length sc1, .slice s2 P.sent.length sc2, .slice s3 P.lost.length sc3, .int .i64 P.code] 34)) := ⟨B3.trans (ha4.mono B3.size), hr3.below ha4, hx4⟩
  go_upto_region 6 with fail
  try rw [hW4]
  try rw [← hBW]
  clear hW4 hBW ha4 hx4 B3 hr3 hb3 H2
  go_wp2_with fail
  refine (toOus_any _ rs _ (H0.out _ H4.out.1) HG.out).mono ?_
  rintro e w5 ⟨v5, rfl, r5, hb5⟩
  obtain ⟨bX, lx, hx5, rfl, L5⟩ := lst2Ou r5 HG.out
  have H5 : Hid (Below W4.heap.size W4 w5 ∧ LOu bX w5 (.slice (some ⟨bX, 0, none⟩) rs.length rs.length) rs) := ⟨hb5, L5⟩
  clear hb5 r5 L5
  go_wp2_with fail
  refine (HQI.out _ _ H5.out.2.row).mono ?_
  rintro e w6 hA6
  obtain ⟨ug, sg, lg, d1, d2, d3, rfl, hd1, hd2, hd3, hL6, hb6⟩ := hA6
  obtain ⟨g1, gc1, g2, gc2, g3, gc3, rfl, rfl, rfl⟩ := hL6.row.val
  obtain ⟨W7, hW7⟩ : ∃ W7, w6.alloc (.cells #[.slice g1 P.list.length gc1, .slice g2 P.sent.length gc2, .slice g3 P.lost.length gc3, .int .i64 P.code] 34) = W7 := ⟨_, rfl⟩
  obtain ⟨BG, hBG⟩ : ∃ BG, BG = w6.heap.size := ⟨_, rfl⟩
  have ha7 : Below w6.heap.size w6 W7 := by rw [← hW7]; exact (Below.refl _ _).alloc (Nat.le_refl _) _
  have hx7 : W7.heap[BG]? = some (.cells #[.slice g1 P.list.length gc1, .slice g2 P.sent.length gc2, .slice g3 P.lost.length gc3, .int .i64 P.code] 34) := by rw [← hW7, hBG]; exact World.alloc_heap_new _ _
  have B6 : Below W4.heap.size W4 w6 := H5.out.1.trans (hb6.mono H5.out.1.size)
  have hs45 := H5.out.1.size
  have hgB : ∀ k, blkO d1 d2 d3 P k → w5.heap.size ≤ k ∧ k < BG := fun k hk => by
    have h1 := hL6.blk_lt hk
    rcases hk with ⟨rfl, _⟩ | ⟨rfl, _⟩ | ⟨rfl, _⟩ <;> omega
  have hXG : bX < BG := by have := hb6.size; omega
  have HN : Hid ((∀ k, blkO d1 d2 d3 P k → W4.heap.size ≤ k ∧ k ≠ BG ∧ k ≠ bX) ∧ W4.heap.size ≤ bX ∧ bX ≠ BG ∧ BW ≠ BG) := ⟨fun k hk => by have := hgB k hk; omega, lx, by omega, by have := (Array.getElem?_eq_some_iff.1 H4.out.2.2).1; omega⟩
  have H7 : Hid (Below W4.heap.size W4 W7 ∧ LOu bX W7 (.slice (some ⟨bX, 0, none⟩) rs.length rs.length) rs ∧ LOo d1 d2 d3 W7 (.slice g1 P.list.length gc1) (.slice g2 P.sent.length gc2) (.slice g3 P.lost.length gc3) P ∧ W7.heap[BG]? = some (.cells #[.slice g1 P.list.length gc1, .slice g2 P.sent.length gc2, .slice g3 P.lost.length gc3, .int .i64 P.code] 34)) := ⟨B6.trans (ha7.mono B6.size), (H5.out.2.below hb6).below ha7, hL6.below ha7, hx7⟩
  go_upto_region 8 with fail
  try rw [hW7]
  try rw [← hBG]
  clear hW7 hBG ha7 hx7 B6 hL6 hb6 hd1 hd2 hd3 hgB hXG hs45 lx hx5 H5
  have HWB : Hid (∀ W, Below W4.heap.size W4 W → W.heap[BW]? = some (.cells #[.slice s1 P.list.length sc1, .slice s2 P.sent.length sc2, .slice s3 P.lost.length sc3, .int .i64 P.code] 34) ∧ ROo W (.slice s1 P.list.length sc1) (.slice s2 P.sent.length sc2) (.slice s3 P.lost.length sc3) P) := fun W hW => ⟨(hW.block _ (Array.getElem?_eq_some_iff.1 H4.out.2.2).1).trans H4.out.2.2, H4.out.2.1.below hW⟩
  have H7' : Hid (Below W4.heap.size W4 W7 ∧ LOo d1 d2 d3 W7 (.slice g1 P.list.length gc1) (.slice g2 P.sent.length gc2) (.slice g3 P.lost.length gc3) P ∧ W7.heap[BG]? = some (.cells #[.slice g1 P.list.length gc1, .slice g2 P.sent.length gc2, .slice g3 P.lost.length gc3, .int .i64 P.code] 34) ∧ LOu bX W7 (.slice (some ⟨bX, 0, none⟩) rs.length rs.length) rs) := ⟨H7.out.1, H7.out.2.2.1, H7.out.2.2.2, H7.out.2.1⟩
  clear H7
  obtain ⟨x0, x1, x2, x3⟩ := bx4 H7'.out.2.2.1
  obtain ⟨y0, y1, y2, y3⟩ := bx4 (HWB.out W7 H7'.out.1).1
  go_wp2_with fail
  refine (eqOo_any P _ _ _ _ _ _ _ H7'.out.2.1.row (HWB.out W7 H7'.out.1).2).mono ?_
  rintro e w8 ⟨rfl, hb8⟩
  have H8 : Hid (Below W4.heap.size W4 w8 ∧ LOo d1 d2 d3 w8 (.slice g1 P.list.length gc1) (.slice g2 P.sent.length gc2) (.slice g3 P.lost.length gc3) P ∧ w8.heap[BG]? = some (.cells #[.slice g1 P.list.length gc1, .slice g2 P.sent.length gc2, .slice g3 P.lost.length gc3, .int .i64 P.code] 34) ∧ LOu bX w8 (.slice (some ⟨bX, 0, none⟩) rs.length rs.length) rs) := ⟨H7'.out.1.trans (hb8.mono H7'.out.1.size), H7'.out.2.1.below hb8, (hb8.block _ (Array.getElem?_eq_some_iff.1 H7'.out.2.2.1).1).trans H7'.out.2.2.1, H7'.out.2.2.2.below hb8⟩
  clear hb8 x0 x1 x2 x3 y0 y1 y2 y3 H7'
  go_wp2_with fail
  refine (toOus_any _ rs _ (H0.out _ (H4.out.1.trans (H8.out.1.mono H4.out.1.size))) HG.out).mono ?_
  rintro e w9 ⟨v9, rfl, r9, hb9⟩
  have H9 : Hid (Below W4.heap.size W4 w9 ∧ LOo d1 d2 d3 w9 (.slice g1 P.list.length gc1) (.slice g2 P.sent.length gc2) (.slice g3 P.lost.length gc3) P ∧ w9.heap[BG]? = some (.cells #[.slice g1 P.list.length gc1, .slice g2 P.sent.length gc2, .slice g3 P.lost.length gc3, .int .i64 P.code] 34) ∧ LOu bX w9 (.slice (some ⟨bX, 0, none⟩) rs.length rs.length) rs) := ⟨H8.out.1.trans (hb9.mono H8.out.1.size), H8.out.2.1.below hb9, (hb9.block _ (Array.getElem?_eq_some_iff.1 H8.out.2.2.1).1).trans H8.out.2.2.1, H8.out.2.2.2.below hb9⟩
  have R9 : Hid (RowOu w9 v9 rs) := r9.row HG.out
  clear hb9 r9 H8
  go_wp2_with fail
  refine (eqOus_any _ _ _ _ H9.out.2.2.2.row R9.out).mono ?_
  rintro e wA ⟨rfl, hbA⟩
  have HA : Hid (Below W4.heap.size W4 wA ∧ LOo d1 d2 d3 wA (.slice g1 P.list.length gc1) (.slice g2 P.sent.length gc2) (.slice g3 P.lost.length gc3) P ∧ wA.heap[BG]? = some (.cells #[.slice g1 P.list.length gc1, .slice g2 P.sent.length gc2, .slice g3 P.lost.length gc3, .int .i64 P.code] 34) ∧ LOu bX wA (.slice (some ⟨bX, 0, none⟩) rs.length rs.length) rs) := ⟨H9.out.1.trans (hbA.mono H9.out.1.size), H9.out.2.1.below hbA, (hbA.block _ (Array.getElem?_eq_some_iff.1 H9.out.2.2.1).1).trans H9.out.2.2.1, H9.out.2.2.2.below hbA⟩
  clear hbA H9 R9
  go_wp2_with fail
  refine (markOu_p bX _ rs 1 _ HA.out.2.2.2 ⟨by omega, by omega⟩).mono ?_
  rintro e wB ⟨rfl, lB, kB⟩
  have HBB : Hid (Below W4.heap.size W4 wB ∧ LOo d1 d2 d3 wB (.slice g1 P.list.length gc1) (.slice g2 P.sent.length gc2) (.slice g3 P.lost.length gc3) P ∧ wB.heap[BG]? = some (.cells #[.slice g1 P.list.length gc1, .slice g2 P.sent.length gc2, .slice g3 P.lost.length gc3, .int .i64 P.code] 34)) := ⟨HA.out.1.trans (kB.below (fun k hk => by have := HN.out.2.1; have := hk.1; omega) HA.out.1.size), HA.out.2.1.keepP kB (fun k hk hs => (HN.out.1 k hk).2.2 hs.1), (kB.block _ (Array.getElem?_eq_some_iff.1 HA.out.2.2.1).1 (fun hs => HN.out.2.2.1 hs.1.symm)).trans HA.out.2.2.1⟩
  have gk : ¬ ((1 + rs.length * 5 : Nat) : Int) < 0 := by omega
  clear lB kB HA
  obtain ⟨x0, x1, x2, x3⟩ := bx4 HBB.out.2.2
  obtain ⟨y0, y1, y2, y3⟩ := bx4 (HWB.out wB HBB.out.1).1
  go_wp2_with fail
  refine (eqOo_any P _ _ _ _ _ _ _ HBB.out.2.1.row (HWB.out wB HBB.out.1).2).mono ?_
  rintro e wD ⟨rfl, hbD⟩
  have HD : Hid (Below W4.heap.size W4 wD ∧ LOo d1 d2 d3 wD (.slice g1 P.list.length gc1) (.slice g2 P.sent.length gc2) (.slice g3 P.lost.length gc3) P ∧ wD.heap[BG]? = some (.cells #[.slice g1 P.list.length gc1, .slice g2 P.sent.length gc2, .slice g3 P.lost.length gc3, .int .i64 P.code] 34)) := ⟨HBB.out.1.trans (hbD.mono HBB.out.1.size), HBB.out.2.1.below hbD, (hbD.block _ (Array.getElem?_eq_some_iff.1 HBB.out.2.2).1).trans HBB.out.2.2⟩
  clear hbD x0 x1 x2 x3 y0 y1 y2 y3 HBB gk
  obtain ⟨x0, x1, x2, x3⟩ := bx4 HD.out.2.2
  go_wp2_with fail
  refine (markOo_any d1 d2 d3 _ _ _ P 1 _ HD.out.2.1 ⟨by omega, by omega⟩).mono ?_
  rintro e wE ⟨rfl, lE, kE⟩
  have HE : Hid (Below W4.heap.size W4 wE ∧ LOo d1 d2 d3 wE (.slice g1 P.list.length gc1) (.slice g2 P.sent.length gc2) (.slice g3 P.lost.length gc3) (mkOo 1 P) ∧ wE.heap[BG]? = some (.cells #[.slice g1 P.list.length gc1, .slice g2 P.sent.length gc2, .slice g3 P.lost.length gc3, .int .i64 P.code] 34)) := ⟨HD.out.1.trans (kE.below (fun k hk => (HN.out.1 k hk).1) HD.out.1.size), lE, (kE.block _ (Array.getElem?_eq_some_iff.1 HD.out.2.2).1 (fun hs => (HN.out.1 _ hs).2.1 rfl)).trans HD.out.2.2⟩
  clear lE kE x0 x1 x2 x3 HD
  obtain ⟨x0, x1, x2, x3⟩ := bx4 HE.out.2.2
  go_wp2_with fail
  refine (heldOo_any _ _ _ P 1 _ HE.out.2.1.row ⟨by omega, by omega⟩).mono ?_
  rintro e wF ⟨rfl, hbF⟩
  have HF : Hid (Below W4.heap.size W4 wF ∧ LOo d1 d2 d3 wF (.slice g1 P.list.length gc1) (.slice g2 P.sent.length gc2) (.slice g3 P.lost.length gc3) (mkOo 1 P) ∧ wF.heap[BG]? = some (.cells #[.slice g1 P.list.length gc1, .slice g2 P.sent.length gc2, .slice g3 P.lost.length gc3, .int .i64 P.code] 34)) := ⟨HE.out.1.trans (hbF.mono HE.out.1.size), HE.out.2.1.below hbF, (hbF.block _ (Array.getElem?_eq_some_iff.1 HE.out.2.2).1).trans HE.out.2.2⟩
  have gq : ¬ ((1 + P.list.length * 5 + P.sent.length * 3 + P.lost.length * 5 : Nat) : Int) < 0 := by omega
  clear hbF x0 x1 x2 x3 HE
  go_wp2_with fail
  refine (toOus_any _ rs _ (H0.out _ (H4.out.1.trans (HF.out.1.mono H4.out.1.size))) HG.out).mono ?_
  rintro e wG ⟨vG, rfl, rG, hbG⟩
  obtain ⟨bq2, fq2, _, rfl, _, _⟩ := id rG
  have HGG : Hid (Below W4.heap.size W4 wG ∧ LOo d1 d2 d3 wG (.slice g1 P.list.length gc1) (.slice g2 P.sent.length gc2) (.slice g3 P.lost.length gc3) (mkOo 1 P) ∧ wG.heap[BG]? = some (.cells #[.slice g1 P.list.length gc1, .slice g2 P.sent.length gc2, .slice g3 P.lost.length gc3, .int .i64 P.code] 34)) := ⟨HF.out.1.trans (hbG.mono HF.out.1.size), HF.out.2.1.below hbG, (hbG.block _ (Array.getElem?_eq_some_iff.1 HF.out.2.2).1).trans HF.out.2.2⟩
  have RG : Hid (RowOu wG (.slice (some ⟨bq2, 0, none⟩) rs.length rs.length) rs) := rG.row HG.out
  clear hbG rG HF
  go_wp2_with fail
  refine (HQI.out _ _ RG.out).mono ?_
  rintro e wH hAH
  obtain ⟨uh, sh, lh, e1, e2, e3, rfl, -, -, -, hLH, hbH⟩ := hAH
  obtain ⟨h1, hc1, h2, hc2, h3, hc3, rfl, rfl, rfl⟩ := hLH.row.val
  obtain ⟨W8, hW8⟩ : ∃ W8, wH.alloc (.cells #[.slice h1 P.list.length hc1, .slice h2 P.sent.length hc2, .slice h3 P.lost.length hc3, .int .i64 P.code] 34) = W8 := ⟨_, rfl⟩
  obtain ⟨BH, hBH⟩ : ∃ BH, BH = wH.heap.size := ⟨_, rfl⟩
  have ha8 : Below wH.heap.size wH W8 := by rw [← hW8]; exact (Below.refl _ _).alloc (Nat.le_refl _) _
  have hx8 : W8.heap[BH]? = some (.cells #[.slice h1 P.list.length hc1, .slice h2 P.sent.length hc2, .slice h3 P.lost.length hc3, .int .i64 P.code] 34) := by rw [← hW8, hBH]; exact World.alloc_heap_new _ _
  have hb8 : Below wG.heap.size wG W8 := hbH.trans (ha8.mono hbH.size)
  have HI : Hid (Below W4.heap.size W4 W8 ∧ LOo d1 d2 d3 W8 (.slice g1 P.list.length gc1) (.slice g2 P.sent.length gc2) (.slice g3 P.lost.length gc3) (mkOo 1 P) ∧ W8.heap[BG]? = some (.cells #[.slice g1 P.list.length gc1, .slice g2 P.sent.length gc2, .slice g3 P.lost.length gc3, .int .i64 P.code] 34)) := ⟨HGG.out.1.trans (hb8.mono HGG.out.1.size), HGG.out.2.1.below hb8, (hb8.block _ (Array.getElem?_eq_some_iff.1 HGG.out.2.2).1).trans HGG.out.2.2⟩
  have HH : Hid (ROo W8 (.slice h1 P.list.length hc1) (.slice h2 P.sent.length hc2) (.slice h3 P.lost.length hc3) P ∧ W8.heap[BH]? = some (.cells #[.slice h1 P.list.length hc1, .slice h2 P.sent.length hc2, .slice h3 P.lost.length hc3, .int .i64 P.code] 34)) := ⟨hLH.row.below ha8, hx8⟩
  go_upto_region 25 with fail
  try rw [hW8]
  try rw [← hBH]
  clear hW8 hBH ha8 hx8 hb8 hLH hbH HGG
  obtain ⟨x0, x1, x2, x3⟩ := bx4 HH.out.2
  obtain ⟨y0, y1, y2, y3⟩ := bx4 (HWB.out W8 HI.out.1).1
  go_wp2_with fail
  refine (eqOo_any P _ _ _ _ _ _ _ HH.out.1 (HWB.out W8 HI.out.1).2).mono ?_
  rintro e wJ ⟨rfl, hbJ⟩
  have HJ : Hid (Below W4.heap.size W4 wJ ∧ LOo d1 d2 d3 wJ (.slice g1 P.list.length gc1) (.slice g2 P.sent.length gc2) (.slice g3 P.lost.length gc3) (mkOo 1 P) ∧ wJ.heap[BG]? = some (.cells #[.slice g1 P.list.length gc1, .slice g2 P.sent.length gc2, .slice g3 P.lost.length gc3, .int .i64 P.code] 34)) := ⟨HI.out.1.trans (hbJ.mono HI.out.1.size), HI.out.2.1.below hbJ, (hbJ.block _ (Array.getElem?_eq_some_iff.1 HI.out.2.2).1).trans HI.out.2.2⟩
  clear hbJ x0 x1 x2 x3 y0 y1 y2 y3 HI HH
  obtain ⟨x0, x1, x2, x3⟩ := bx4 HJ.out.2.2
  go_wp2_with fail
  refine (heldOo_any _ _ _ P 1 _ HJ.out.2.1.row ⟨by omega, by omega⟩).mono ?_
  rintro e wK ⟨rfl, hbK⟩
  have HK : Hid (Below W0.heap.size W0 wK) := by
    have b := HJ.out.1.trans (hbK.mono HJ.out.1.size)
    exact H4.out.1.trans (b.mono H4.out.1.size)
  clear hbK x0 x1 x2 x3
  go_wp2
  go_ret
  exact ⟨rfl, HW.out.trans ((HK.out).mono HW.out.size)⟩
theorem own : ownKnob Try.prog.godebug = none := by kernel_rfl
theorem laidOut : laidOutB Try.prog = true := by kernel_rfl
set_option maxRecDepth 100000 in
theorem lifted (os : Os) (started : os.Started) (H : Type) (enc : TypeId × Value → H) :
    ReturnsInHanded {} Try.checked os 5 .any (Rows.fnExactOutboxTickSpec.pre6 enc Try.prog Try.f5 Rows.fnExactOutboxTickRow.domain false) (Rows.fnExactOutboxTickSpec.post enc Try.prog Try.f5 false true false false) := by
  refine returnsInHanded_of_change (C := Try.checked) own started (by kernel_rfl) Try.func5
    (ChangeSpec.witness6 (enc := enc) (C := Try.checked) false ⟨#[], #[.slice none 0 0, .int .i64 0], []⟩ 8 (by kernel_rfl) (by kernel_rfl) (by kernel_rfl) (by kernel_rfl)) ?_
  intro W base args ds gs before hval0 hW hcnd _
  have hval : ∀ (j : Nat) t v, Try.f5.params[j]? = some t → args[j]? = some v → Value.okWide Try.prog W .any base t v := hval0
  have hW' := hW
  obtain ⟨p, q, hA0, hV, rfl, hfz, hnd⟩ := hW
  have hA : DataW.TrodAll enc Try.prog W 0 (fun _ => true) true Try.f5.params.toList args.toList ds p := hA0
  rw [Try.params5] at hA hval
  obtain ⟨v0, vs0, d0, ds0, p0, q0, hargs, rfl, rfl, h0, r0⟩ := trodAll_cons hA
  obtain ⟨v1, vs1, d1, ds1, p1, q1, rfl, rfl, rfl, h1, r1⟩ := trodAll_cons r0
  obtain ⟨rfl, rfl, rfl⟩ := trodAll_nil r1
  obtain rfl : args = #[v0, v1] := by cases args; simp_all
  obtain ⟨rfl, rfl⟩ := trodVars_none hV
  have k0 := h0
  have lt0 : ∀ x ∈ p0, x.block < W.heap.size := by obtain ⟨m, hm⟩ := k0; exact DataW.trod_lt m _ _ _ hm
  obtain ⟨rs0, hr0⟩ := openOusa (hval 0 22 v0 rfl rfl) h0
  have k1 := h1
  have lt1 : ∀ x ∈ p1, x.block < W.heap.size := by obtain ⟨m, hm⟩ := k1; exact DataW.trod_lt m _ _ _ hm
  obtain ⟨n1, rfl⟩ : ∃ n : Int, v1 = .int .i64 n := by
    obtain ⟨n, rfl, _, _, _⟩ := open_int Try.underlying2 (hval 1 2 v1 rfl rfl) h1
    exact ⟨n, rfl⟩
  clear hA0 hval0
  refine (walk v0 rs0 n1 W hr0).mono fun e W' ⟨he, bel⟩ => ?_
  subst he
  exact ⟨_, rfl, _, _, _, [], _, [], hW', trodAll_mk1 (shut_bool Try.underlying4 _), (trodAll_cons_mk (Below.trod laidOut (by kernel_rfl) (of_decide_eq_true (by kernel_rfl)) k0 bel lt0) (trodAll_cons_mk (Below.trod laidOut (by kernel_rfl) (of_decide_eq_true (by kernel_rfl)) k1 bel lt1) trodAll_mk0)), rfl, bel.frame _, fun h => by cases h⟩
theorem over : Rows.fnExactOutboxTickRow.holds Try.pinned (OpenSpec.ofChange Rows.fnExactOutboxTickSpec) :=
  OpenClaim.holds_of_wide 5 Try.f5 rfl rfl rfl rfl rfl rfl rfl ⟨rfl, rfl, rfl, rfl, rfl⟩ rfl rfl rfl rfl rfl (by kernel_rfl) Try.func5 (by kernel_rfl)
    (of_decide_eq_true (by kernel_rfl)) (by unfold Func.isWrapper; first | (rw [if_pos (by decide +kernel)]; kernel_rfl) | (rw [if_neg (by decide +kernel)]; exact ⟨rfl, rfl⟩))
    (fun os started H enc _ => lifted os started H enc)
end fnExactOutboxTick
theorem fnExactOutboxTick_holds : Rows.FnExactOutboxTickSaid := fnExactOutboxTick.over
#print axioms fnExactOutboxTick_holds
end Go.Proofs.Ytfjeaknlooomjaa
