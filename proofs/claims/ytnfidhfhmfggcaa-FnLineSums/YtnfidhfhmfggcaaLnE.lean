/- Contract of the model's DrawLinePost: some line, kind and quantity. -/
import Derived.Test.YtnfidhfhmfggcaaLnD
import Derived.Deep.RegionHeld3
import Derived.Deep.RegionLaw
namespace Go.Proofs.Ytnfidhfhmfggcaa
open Go.ChangeShapes Go.WideShapes Go.ChangeAt Go.RowKit
theorem l01Max_any (a b : Int) (w : World) : Calls Try.prog 22 #[.int .i64 a, .int .i64 b] w fun e w' => e = .returned (.int .i64 (max a b)) ∧ w' = w := by
  by_cases h : b < a
  · have HE : Hid (max a b = a) := by show max a b = a; omega
    go_enter Try.func22, Try.ntmps22
    go_wp2
    go_ret
    exact ⟨by rw [HE.out]; rfl, rfl⟩
  · have HE : Hid (max a b = b) := by show max a b = b; omega
    go_enter Try.func22, Try.ntmps22
    go_wp2
    go_ret
    exact ⟨by rw [HE.out]; rfl, rfl⟩
theorem bytesAt_belowL {w w' : World} {a : Option Addr} {len : Nat} {zs : List Int} (h : BytesAt w a len zs) (hb : Below w.heap.size w w') : BytesAt w' a len zs := by
  intro g
  obtain ⟨b, off, e, hc⟩ := h g
  exact ⟨b, off, e, fun i hi => (hb.cell (p := ⟨b, off + i, none⟩) (cell_lt (hc i hi))).trans (hc i hi)⟩
/-- The drawn line in its box P; the answer's box; the source. -/
structure EQ (B P : Nat) (w W : World) (l : OLn) : Prop where
  src : IsSrc B W
  bel : Below w.heap.size w W
  rb : W.heap[w.heap.size]? = some (.cells #[.string ⟨#[]⟩, .string ⟨#[]⟩, .int .i64 0, .string ⟨#[]⟩, .int .i64 0, .int .i64 0, .int .i64 0, .int .i64 0] 24)
  box : W.heap[P]? = some (.cells #[.string l.partner, .string l.ref, .int .i64 l.no, .string l.item, .int .i64 l.ordered, .int .i64 l.sent, .int .i64 l.got, .int .i64 l.cut] 24)
  hB : w.heap.size < B
  hP : B < P
theorem EQ.keep {B P : Nat} {w W W' : World} {l : OLn} (h : EQ B P w W l) (hk : Keep B W W') (hs : IsSrc B W') : EQ B P w W' l := by
  have hB := h.hB
  have hP := h.hP
  have hz := h.bel.size
  exact ⟨hs, h.bel.trans (hk.below (by omega) (by omega)), (hk.block _ (Array.getElem?_eq_some_iff.1 h.rb).1 (by omega)).trans h.rb, (hk.block _ (Array.getElem?_eq_some_iff.1 h.box).1 (by omega)).trans h.box, hB, hP⟩
theorem EQ.below {B P : Nat} {w W W' : World} {l : OLn} (h : EQ B P w W l) (hb : Below W.heap.size W W') : EQ B P w W' l := h.keep (Keep.of_below hb) (h.src.below (hb.mono h.src.lt))
theorem EQ.fin {B P : Nat} {w W : World} {l : OLn} (h : EQ B P w W l) : ((((((((W.setCell ⟨w.heap.size, 0, none⟩ (.string l.partner)).setCell ⟨w.heap.size, 1, none⟩ (.string l.ref)).setCell ⟨w.heap.size, 2, none⟩ (.int .i64 l.no)).setCell ⟨w.heap.size, 3, none⟩ (.string l.item)).setCell ⟨w.heap.size, 4, none⟩ (.int .i64 l.ordered)).setCell ⟨w.heap.size, 5, none⟩ (.int .i64 l.sent)).setCell ⟨w.heap.size, 6, none⟩ (.int .i64 l.got)).setCell ⟨w.heap.size, 7, none⟩ (.int .i64 l.cut)).heap[w.heap.size]? = some (.cells #[.string l.partner, .string l.ref, .int .i64 l.no, .string l.item, .int .i64 l.ordered, .int .i64 l.sent, .int .i64 l.got, .int .i64 l.cut] 24) ∧ Below w.heap.size w ((((((((W.setCell ⟨w.heap.size, 0, none⟩ (.string l.partner)).setCell ⟨w.heap.size, 1, none⟩ (.string l.ref)).setCell ⟨w.heap.size, 2, none⟩ (.int .i64 l.no)).setCell ⟨w.heap.size, 3, none⟩ (.string l.item)).setCell ⟨w.heap.size, 4, none⟩ (.int .i64 l.ordered)).setCell ⟨w.heap.size, 5, none⟩ (.int .i64 l.sent)).setCell ⟨w.heap.size, 6, none⟩ (.int .i64 l.got)).setCell ⟨w.heap.size, 7, none⟩ (.int .i64 l.cut)) := ⟨set8 h.rb, ((((((((h.bel.setCell (Nat.le_refl _) _).setCell (Nat.le_refl _) _).setCell (Nat.le_refl _) _).setCell (Nat.le_refl _) _).setCell (Nat.le_refl _) _).setCell (Nat.le_refl _) _).setCell (Nat.le_refl _) _).setCell (Nat.le_refl _) _)⟩
set_option maxRecDepth 100000 in
set_option maxHeartbeats 4000000 in
theorem drawLinePost_any (a : Option Addr) (len cap : Nat) (zs : List Int) (w : World) (hl : len ≤ 1048576) (hr : BytesAt w a len zs) :
    Calls Try.prog 5 #[.slice a len cap] w fun e w' => ∃ (l : OLn) (kind qty : Int), e = .returned (.tuple #[.agg #[.string l.partner, .string l.ref, .int .i64 l.no, .string l.item, .int .i64 l.ordered, .int .i64 l.sent, .int .i64 l.got, .int .i64 l.cut], .int .i64 kind, .int .i64 qty]) ∧ SmL l ∧ Below w.heap.size w w' := by
  obtain ⟨W0, hW0⟩ : ∃ W0, w.alloc (.cells #[.string ⟨#[]⟩, .string ⟨#[]⟩, .int .i64 0, .string ⟨#[]⟩, .int .i64 0, .int .i64 0, .int .i64 0, .int .i64 0] 24) = W0 := ⟨_, rfl⟩
  have hb0 : Below w.heap.size w W0 := by rw [← hW0]; exact (Below.refl _ _).alloc (Nat.le_refl _) _
  have hr0 : W0.heap[w.heap.size]? = some (.cells #[.string ⟨#[]⟩, .string ⟨#[]⟩, .int .i64 0, .string ⟨#[]⟩, .int .i64 0, .int .i64 0, .int .i64 0, .int .i64 0] 24) := by rw [← hW0]; exact World.alloc_heap_new _ _
  have hs0 : w.heap.size < W0.heap.size := (Array.getElem?_eq_some_iff.1 hr0).1
  have HR : Hid (BytesAt W0 a len zs ∧ Below w.heap.size w W0 ∧ W0.heap[w.heap.size]? = some (.cells #[.string ⟨#[]⟩, .string ⟨#[]⟩, .int .i64 0, .string ⟨#[]⟩, .int .i64 0, .int .i64 0, .int .i64 0, .int .i64 0] 24)) := ⟨bytesAt_belowL hr hb0, hb0, hr0⟩
  clear hr hb0 hr0
  go_enter Try.func5, Try.ntmps5
  go_upto_region 1 with fail
  try rw [hW0]
  clear hW0
  go_wp2_with fail
  refine (source_any a len cap zs _ hl HR.out.1).mono ?_
  rintro e w1 ⟨rfl, hs1, hb1⟩
  obtain ⟨B, hB⟩ : ∃ B, B = W0.heap.size := ⟨_, rfl⟩
  rw [← hB] at hs1
  have H1 : Hid (IsSrc B w1 ∧ Below w.heap.size w w1 ∧ w1.heap[w.heap.size]? = some (.cells #[.string ⟨#[]⟩, .string ⟨#[]⟩, .int .i64 0, .string ⟨#[]⟩, .int .i64 0, .int .i64 0, .int .i64 0, .int .i64 0] 24)) := ⟨hs1, HR.out.2.1.trans (hb1.mono HR.out.2.1.size), (hb1.block _ hs0).trans HR.out.2.2⟩
  have hwB : w.heap.size < B := by omega
  have HB : Hid (B = W0.heap.size) := hB
  clear hs1 hb1 HR hB hs0
  go_upto_region 2 with fail
  rw [← HB.out]
  clear HB
  go_wp2_with fail
  refine (l09Line_any B _ H1.out.1).mono ?_
  rintro e w2 ⟨l, rfl, hsm, s2, k2⟩
  obtain ⟨W2, hW2⟩ : ∃ W2, w2.alloc (.cells #[.string l.partner, .string l.ref, .int .i64 l.no, .string l.item, .int .i64 l.ordered, .int .i64 l.sent, .int .i64 l.got, .int .i64 l.cut] 24) = W2 := ⟨_, rfl⟩
  obtain ⟨P, hP⟩ : ∃ P, P = w2.heap.size := ⟨_, rfl⟩
  have H2 : Hid (EQ B P w W2 l) := by
    have hl1 := H1.out.2.1.size
    have hB1 := H1.out.1.lt
    have hz := k2.size
    have ha : Below w2.heap.size w2 W2 := by rw [← hW2]; exact (Below.refl _ _).alloc (Nat.le_refl _) _
    have hb2 : Below w.heap.size w w2 := H1.out.2.1.trans (k2.below (by omega) (by omega))
    exact ⟨s2.below (ha.mono (by have := s2.lt; omega)), hb2.trans (ha.mono hb2.size), (ha.block _ (by omega)).trans ((k2.block _ (Array.getElem?_eq_some_iff.1 H1.out.2.2).1 (by omega)).trans H1.out.2.2), by rw [← hW2, hP]; exact World.alloc_heap_new _ _, hwB, by rw [hP]; omega⟩
  have HW2 : Hid (w2.alloc (.cells #[.string l.partner, .string l.ref, .int .i64 l.no, .string l.item, .int .i64 l.ordered, .int .i64 l.sent, .int .i64 l.got, .int .i64 l.cut] 24) = W2 ∧ P = w2.heap.size) := ⟨hW2, hP⟩
  have HSM : Hid (SmL l) := hsm
  clear hW2 hP s2 k2 H1 hsm
  go_upto_region 3 with fail
  try rw [HW2.out.1]
  try rw [← HW2.out.2]
  clear HW2
  go_wp2_with fail
  refine (n_any B 40 _ (by omega) (by omega) H2.out.src).mono ?_
  rintro e w3 ⟨q0, rfl, q0a, q0b, s3, k3⟩
  have H3 : Hid (EQ B P w w3 l) := H2.out.keep k3 s3
  clear s3 k3 H2
  go_upto_region 4 with fail
  go_wp2_with fail
  refine (one_any B 10 _ (by omega) (by omega) H3.out.src).mono ?_
  rintro e w4 ⟨on, rfl, s4, k4⟩
  have H4 : Hid (EQ B P w w4 l) := H3.out.keep k4 s4
  clear s4 k4 H3
  go_upto_if 16 with fail
  go_cut [7] from 17 to 21 (fun s7 wx => ∃ q : Int, s7 = .int .i64 q ∧ EQ B P w wx l)
  case first =>
    cases on with
    | false =>
      go_wp2_with fail
      go_meet
      exact ⟨_, rfl, H4.out⟩
    | true =>
      have ha := H4.out.below ((Below.refl _ _).alloc (Nat.le_refl _) (.cells #[.int .i64 0, .int .i64 1000000, .int .i64 1000001] 2))
      have hg := World.alloc_heap_new w4 (.cells #[.int .i64 0, .int .i64 1000000, .int .i64 1000001] 2)
      have HA : Hid _ := And.intro ha hg
      have hBw : B < w4.heap.size := H4.out.src.lt
      clear ha hg
      go_wp2_with fail
      refine (n_any B 3 _ (by omega) (by omega) HA.out.1.src).mono ?_
      rintro e w5 ⟨y, rfl, y0, y1, s5, k5⟩
      have h5 := HA.out.1.keep k5 s5
      have hg3 := (k5.block w4.heap.size (by simp) (by omega)).trans HA.out.2
      have g0 : w5.cell? ⟨w4.heap.size, 0, none⟩ = some (.int .i64 0) := by simp [World.cell?, hg3]
      have g1 : w5.cell? ⟨w4.heap.size, 1, none⟩ = some (.int .i64 1000000) := by simp [World.cell?, hg3]
      have g2 : w5.cell? ⟨w4.heap.size, 2, none⟩ = some (.int .i64 1000001) := by simp [World.cell?, hg3]
      have H5 : Hid (EQ B P w w5 l) := h5
      clear k5 s5 h5 H4 HA hg3
      obtain rfl | rfl | rfl : y = 0 ∨ y = 1 ∨ y = 2 := by omega
      all_goals go_wp2_with fail
      all_goals go_meet
      all_goals exact ⟨_, rfl, H5.out⟩
  case rest =>
    clear H4
    obtain ⟨q, rfl, hq⟩ := hcut
    rename World => w6
    obtain ⟨c0, c1, c2, c3, c4, c5, c6, c7⟩ := box8 hq.box
    obtain ⟨r0, r1, r2, r3, r4, r5, r6, r7⟩ := box8 hq.rb
    have hrf : ∀ o, w6.frozen? ⟨w.heap.size, o, none⟩ = false := fun o => by simp [World.frozen?, hq.rb]
    have hPw : w.heap.size < P := by have := hq.hP; omega
    have hPne : w.heap.size ≠ P := by omega
    have H6 : Hid (EQ B P w w6 l) := hq
    clear hq
    go_upto_region 6 with fail
    go_region_law (first | (have _g := nA; have _h := nB; go_simp; go_at_call 22; refine (l01Max_any _ _ _).mono ?_; rintro e w9 ⟨rfl, rfl⟩; try dsimp only) | (have _g := nA; go_simp; go_at_call 20; refine (n_any B 6 _ (by omega) (by omega) HA7.out.src).mono ?_; rintro e w8 ⟨nB, rfl, nBa, nBb, s8, k8⟩; have HA8 : Hid (EQ B P w w8 l) := HA7.out.keep k8 s8; obtain ⟨g0, g1, g2, g3, g4, g5, g6, g7⟩ := box8 HA8.out.box; obtain ⟨t0, t1, t2, t3, t4, t5, t6, t7⟩ := box8 HA8.out.rb; have hrf8 := HA8.out.rb; have hrg : ∀ o, w8.frozen? ⟨w.heap.size, o, none⟩ = false := fun o => (by simp [World.frozen?, hrf8]); clear s8 k8 hrf8; try dsimp only) | (go_simp; go_at_call 20; refine (n_any B 5 _ (by omega) (by omega) (H6.out.below (Below.refl _ _).drew).src).mono ?_; rintro e w7 ⟨nA, rfl, nAa, nAb, s7, k7⟩; have HA7 : Hid (EQ B P w w7 l) := (H6.out.below (Below.refl _ _).drew).keep k7 s7; obtain ⟨d0, d1, d2, d3, d4, d5, d6, d7⟩ := box8 HA7.out.box; clear s7 k7; try dsimp only) | fail)
    all_goals go_wp2
    all_goals obtain ⟨hf, hbf⟩ := HA8.out.fin
    all_goals obtain ⟨f0, f1, f2, f3, f4, f5, f6, f7⟩ := box8 hf
    all_goals exact bodyPost_ret (v := .tuple #[.agg #[.string l.partner, .string l.ref, .int .i64 l.no, .string l.item, .int .i64 l.ordered, .int .i64 l.sent, .int .i64 l.got, .int .i64 l.cut], .int .i64 (IntKind.i64.wrap (nA - max 0 (IntKind.i64.wrap (nB - 4)))), .int .i64 q]) (by simp [results, Try.results5, go_sem, f0, f1, f2, f3, f4, f5, f6, f7]) rfl ⟨l, _, _, rfl, HSM.out, hbf⟩
end Go.Proofs.Ytnfidhfhmfggcaa
