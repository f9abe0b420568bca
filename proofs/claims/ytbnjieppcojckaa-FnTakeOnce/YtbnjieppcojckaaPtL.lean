/- The model's l07Partner: the walk. -/
import Derived.Test.YtbnjieppcojckaaPtD
import Derived.Deep.RegionLaw
namespace Go.Proofs.Ytbnjieppcojckaa
open Go.ChangeShapes Go.WideShapes Go.ChangeAt Go.RowKit
theorem box_new {W W' : World} {o : Obj} (h : Below (W.alloc o).heap.size (W.alloc o) W') : W'.heap[W.heap.size]? = some o := (h.block _ (by simp)).trans (World.alloc_heap_new _ _)
theorem keep9 {X : Nat} (W : World) (x0 x1 x2 x3 x4 x5 x6 x7 x8 : Value) : Keep X W (((((((((W.setCell ⟨X, 0, none⟩ x0).setCell ⟨X, 1, none⟩ x1).setCell ⟨X, 2, none⟩ x2).setCell ⟨X, 3, none⟩ x3).setCell ⟨X, 4, none⟩ x4).setCell ⟨X, 5, none⟩ x5).setCell ⟨X, 6, none⟩ x6).setCell ⟨X, 7, none⟩ x7).setCell ⟨X, 8, none⟩ x8) :=
  (((((((((Keep.refl _ _).setCell _ _).setCell _ _).setCell _ _).setCell _ _).setCell _ _).setCell _ _).setCell _ _).setCell _ _).setCell _ _
theorem QD.fin {B P : Nat} {w W : World} {p : Ptn} {v : Value} (h : QD B P w W p v) (x0 x1 x2 x3 : Value) : (∃ b, w.heap.size ≤ b ∧ LSn b ((((W.setCell ⟨w.heap.size, 0, none⟩ x0).setCell ⟨w.heap.size, 1, none⟩ x1).setCell ⟨w.heap.size, 2, none⟩ x2).setCell ⟨w.heap.size, 3, none⟩ x3) v p.seen) ∧ IsSrc B ((((W.setCell ⟨w.heap.size, 0, none⟩ x0).setCell ⟨w.heap.size, 1, none⟩ x1).setCell ⟨w.heap.size, 2, none⟩ x2).setCell ⟨w.heap.size, 3, none⟩ x3) ∧ Keep B w ((((W.setCell ⟨w.heap.size, 0, none⟩ x0).setCell ⟨w.heap.size, 1, none⟩ x1).setCell ⟨w.heap.size, 2, none⟩ x2).setCell ⟨w.heap.size, 3, none⟩ x3) := by
  have hk : Keep w.heap.size W ((((W.setCell ⟨w.heap.size, 0, none⟩ x0).setCell ⟨w.heap.size, 1, none⟩ x1).setCell ⟨w.heap.size, 2, none⟩ x2).setCell ⟨w.heap.size, 3, none⟩ x3) := ((((Keep.refl _ _).setCell _ _).setCell _ _).setCell _ _).setCell _ _
  have hB := h.hB
  have hl := h.len
  have hs := h.src.lt
  have hz := h.kp.size
  refine ⟨(h.row.kept (keep_grown hk) (h.row.ne_box h.rb (by decide))).lsn (by omega), h.src.below (hk.below (by omega) (by omega)), ⟨hk.os.trans h.kp.os, hk.tape.trans h.kp.tape, hk.output.trans h.kp.output, Nat.le_trans hz hk.size, fun k hk' hne => (hk.block k (by omega) (by omega)).trans (h.kp.block k hk' hne)⟩⟩
theorem take_specT (p : Ptn) (v : Value) (k c : Int) (w : World) (h : RPt w v p) (hv : Fair v) : Calls Try.prog 9 #[.agg #[.string p.name, .int .i64 p.low, .int .i64 p.next, v], .int .i64 k, .int .i64 c] w fun e w' => ∃ (t : Tk) (u : Value), Hid (t = takeT p k c) ∧ e = .returned (.agg #[.string t.p.name, .int .i64 t.p.low, .int .i64 t.p.next, u, .int .i64 t.kind, .int .i64 t.seen.number, .int .i64 t.seen.answer, .int .i64 t.seen.code, .int .i64 t.code]) ∧ Fair u ∧ (∃ b, w.heap.size ≤ b ∧ OSn b w' u t.p.seen) ∧ Below w.heap.size w w' :=
  (take_specO p v k c w h hv).mono fun _ _ ⟨u, he, hf, hb, hw⟩ => ⟨_, u, rfl, he, hf, hb, hw⟩
set_option maxRecDepth 100000 in
set_option maxHeartbeats 16000000 in
theorem l07Partner_any (B : Nat) (w : World) (hS : IsSrc B w) :
    Calls Try.prog 26 #[.pointer (some ⟨B, 0, none⟩)] w fun e w' => ∃ (p : Ptn) (v : Value), e = .returned (.agg #[.string p.name, .int .i64 p.low, .int .i64 p.next, v]) ∧ RPt w' v p ∧ Fair v ∧ (∃ b, w.heap.size ≤ b ∧ LSn b w' v p.seen) ∧ IsSrc B w' ∧ Keep B w w' := by
  have hB := hS.lt
  have HS : Hid (IsSrc B w) := hS
  clear hS
  obtain ⟨W0, hW0⟩ : ∃ W0, w.alloc (.cells #[.string ⟨#[]⟩, .int .i64 0, .int .i64 0, .slice none 0 0] 30) = W0 := ⟨_, rfl⟩
  have hb0 : Below w.heap.size w W0 := by rw [← hW0]; exact (Below.refl _ _).alloc (Nat.le_refl _) _
  have hr0 : W0.heap[w.heap.size]? = some (.cells #[.string ⟨#[]⟩, .int .i64 0, .int .i64 0, .slice none 0 0] 30) := by rw [← hW0]; exact World.alloc_heap_new _ _
  have hs0 : W0.heap.size = w.heap.size + 1 := by rw [← hW0]; simp
  go_enter Try.func26, Try.ntmps26
  go_upto_region 1 with fail
  try rw [hW0]
  clear hW0
  have ha1 : Below W0.heap.size W0 (W0.alloc (.cells #[.string ⟨#[65, 67, 77, 69]⟩, .string ⟨#[66, 79, 76, 84]⟩, .string ⟨#[67, 45, 49]⟩] 9)) := (Below.refl _ _).alloc (Nat.le_refl _) _
  have HB : Hid (Below w.heap.size w (W0.alloc (.cells #[.string ⟨#[65, 67, 77, 69]⟩, .string ⟨#[66, 79, 76, 84]⟩, .string ⟨#[67, 45, 49]⟩] 9)) ∧ (W0.alloc (.cells #[.string ⟨#[65, 67, 77, 69]⟩, .string ⟨#[66, 79, 76, 84]⟩, .string ⟨#[67, 45, 49]⟩] 9)).heap[w.heap.size]? = some (.cells #[.string ⟨#[]⟩, .int .i64 0, .int .i64 0, .slice none 0 0] 30)) := ⟨hb0.trans (ha1.mono hb0.size), (ha1.block _ (by omega)).trans hr0⟩
  clear hb0 hr0 ha1
  go_wp2_with fail
  refine (pick_any B (w.heap.size + 1) 3 3 [⟨#[65, 67, 77, 69]⟩, ⟨#[66, 79, 76, 84]⟩, ⟨#[67, 45, 49]⟩] _ (by omega) (by omega) rfl (by omega) (three_cells W0 _ _ _ _ (by omega)) (HS.out.below (HB.out.1.mono hB))).mono ?_
  rintro e w2 ⟨s, rfl, hs, hs2, hk2⟩
  have hsz : s.size ≤ 100 := by
    simp only [List.mem_cons, List.not_mem_nil, or_false] at hs
    rcases hs with rfl | rfl | rfl <;> decide
  have hz2 := hk2.size
  simp only [World.size_alloc] at hz2
  have H2 : Hid (IsSrc B w2 ∧ Keep B w w2 ∧ w2.heap[w.heap.size]? = some (.cells #[.string ⟨#[]⟩, .int .i64 0, .int .i64 0, .slice none 0 0] 30)) := ⟨hs2, (Keep.of_below HB.out.1).trans hk2, (hk2.block _ (by simp; omega) (by omega)).trans HB.out.2⟩
  clear hs hs2 hk2
  go_wp2_with fail
  refine (ptNew_spec s _).mono ?_
  rintro e w3 ⟨rfl, hb3⟩
  have h3 : IsSrc B w3 ∧ Keep B w w3 ∧ w3.heap[w.heap.size]? = some (.cells #[.string ⟨#[]⟩, .int .i64 0, .int .i64 0, .slice none 0 0] 30) := by
    have hl := H2.out.1.lt
    exact ⟨H2.out.1.below (hb3.mono hl), H2.out.2.1.trans (Keep.of_below hb3), (hb3.block _ (Array.getElem?_eq_some_iff.1 H2.out.2.2).1).trans H2.out.2.2⟩
  have hz3 := hb3.size
  have ha4 : Below w3.heap.size w3 (w3.alloc (.cells #[.string (newP s).name, .int .i64 (newP s).low, .int .i64 (newP s).next, .slice none 0 0] 30)) := (Below.refl _ _).alloc (Nat.le_refl _) _
  have hq4 : QD B w3.heap.size w (w3.alloc (.cells #[.string (newP s).name, .int .i64 (newP s).low, .int .i64 (newP s).next, .slice none 0 0] 30)) (newP s) (.slice none 0 0) :=
    ⟨h3.1.below (ha4.mono h3.1.lt), h3.2.1.trans (Keep.of_below ha4), (ha4.block _ (Array.getElem?_eq_some_iff.1 h3.2.2).1).trans h3.2.2, World.alloc_heap_new _ _, by rw [newP_seen]; exact OSn.nil _ _, .inl rfl, by have := newP_size s; omega, by rw [newP_seen]; simp, hB, by omega⟩
  go_upto_region 2 with fail
  obtain ⟨P, hPd⟩ : ∃ P, P = w3.heap.size := ⟨_, rfl⟩
  obtain ⟨W4, hW4⟩ : ∃ W4, w3.alloc (.cells #[.string (newP s).name, .int .i64 (newP s).low, .int .i64 (newP s).next, .slice none 0 0] 30) = W4 := ⟨_, rfl⟩
  obtain ⟨p4, hp4⟩ : ∃ p4, p4 = newP s := ⟨_, rfl⟩
  rw [hW4, ← hPd, ← hp4] at hq4
  have H4 : Hid (QD B P w W4 p4 (.slice none 0 0)) := hq4
  have hp40 : p4.seen.length ≤ 99 := by rw [hp4, newP_seen]; simp
  clear hq4 h3 ha4 hb3 hz3 H2 HB HS
  try rw [hW4]
  try rw [← hPd]
  clear hW4 hPd hp4
  go_wp2_with fail
  refine (n_any B 12 _ (by omega) (by omega) H4.out.src).mono ?_
  rintro e w5 ⟨nn, rfl, n0, n1, hs5, hk5⟩
  have H5 : Hid (QD B P w w5 p4 (.slice none 0 0)) := H4.out.keep hk5 hs5
  clear hs5 hk5 H4
  go_wp2_with fail
  refine (l07Numbers_z B nn _ n0 (by omega) H5.out.src).mono ?_
  rintro e w6 ⟨lv, xs, rfl, hxl, hN⟩
  obtain ⟨ad, Cl, rfl⟩ := hN.nn
  obtain ⟨bl, hbl, hLN⟩ := LN.of_owns hN.row (by omega)
  have hq6 := H5.out.keep hN.kp hN.src
  have h5P := H5.out.lt
  have h5z := H5.out.kp.size
  have HX : Hid (bl ≠ B ∧ bl ≠ P ∧ w.heap.size ≤ bl) := ⟨by omega, by omega, by omega⟩
  have H6 : Hid (QD B P w w6 p4 (.slice none 0 0) ∧ LN bl w6 (.slice (some ad) xs.length Cl) xs) := ⟨hq6, hLN⟩
  clear hN hbl hLN hq6 h5P h5z H5
  go_wp2_with fail
  go_loopw [5] (fun i wr => ∃ (k : Nat) (p : Ptn) (v : Value), i = .int .i64 (k : Int) ∧ k ≤ xs.length ∧ p.seen.length ≤ 99 ∧ QD B P w wr p v ∧ LN bl wr (.slice (some ad) xs.length Cl) xs) (fun i _ => xs.length - (intOf i).toNat)
  case atStart => exact ⟨0, p4, _, rfl, by omega, hp40, H6.out.1, H6.out.2⟩
  case round =>
    obtain ⟨k, p, v, rfl, hk, hl99, hq, hln⟩ := hrel
    obtain ⟨Av, Cv, hvv⟩ := hq.row.val
    subst hvv
    by_cases hlt : k < xs.length
    · have hlt' : (k : Int) < (xs.length : Int) := by omega
      obtain ⟨bb, oo, cap', z, e, hsx, q0⟩ := hln.row.at hlt
      simp only [Value.slice.injEq, true_and, Option.some.injEq] at e
      obtain ⟨rfl, rfl⟩ := e
      obtain ⟨c0, c1, c2, c3, cf⟩ := hq.cells
      have HQ : Hid (QD B P w wr p (.slice Av p.seen.length Cv) ∧ LN bl wr (.slice (some ⟨bb, oo, none⟩) xs.length Cl) xs) := ⟨hq, hln⟩
      have hPl := hq.lt
      have hbbl : bb < wr.heap.size := cell_lt q0
      obtain ⟨hbe, hbe2⟩ : bb = bl ∧ oo = 0 := by
        obtain ⟨A0, C0, e0, hcc⟩ := hln.shape
        have := (hcc (by intro e; rw [e] at hlt; simp at hlt)).1
        simp only [Value.slice.injEq] at e0
        rw [← e0.1] at this
        simpa using this
      have HX1 : Hid (bb ≠ B ∧ bb ≠ P) := ⟨by rw [hbe]; exact HX.out.1, by rw [hbe]; exact HX.out.2.1⟩
      clear hbe hbe2 hq hln
      go_upto_region 6 with fail
      go_cut [6] from 21 to 28 (fun x wx => ∃ (X : Nat) (t : Tk) (Au : Option Addr) (Cu : Nat) (cc : Int), x = .pointer (some ⟨X, 0, none⟩) ∧ t = takeT p z cc ∧ QT B P X w wx p (.slice Av p.seen.length Cv) t (.slice Au t.p.seen.length Cu) ∧ LN bl wx (.slice (some ⟨bb, oo, none⟩) xs.length Cl) xs)
      case first =>
        have HN : Hid (IsSrc B wr.drew ∧ IsSrc B (wr.alloc (.cells #[.string ⟨#[]⟩, .int .i64 0, .int .i64 0, .slice none 0 0, .int .i64 0, .int .i64 0, .int .i64 0, .int .i64 0, .int .i64 0] 36)).drew) := ⟨HQ.out.1.src.below (Below.refl _ _).drew, HQ.out.1.src.below ((Below.refl _ _).alloc HQ.out.1.src.lt _).drew⟩
        go_region_held3 (fun W => W.cell? ⟨P, 0, none⟩ = some (.string p.name) ∧ W.cell? ⟨P, 1, none⟩ = some (.int .i64 p.low) ∧ W.cell? ⟨P, 2, none⟩ = some (.int .i64 p.next) ∧ W.cell? ⟨P, 3, none⟩ = some (.slice Av p.seen.length Cv) ∧ W.cell? ⟨bb, oo + k, none⟩ = some (.int .i64 z)) (first | go_keep | exact ⟨kp9D v0 (by omega) _ _ _ _ _ _ _ _ _, kp9D v1 (by omega) _ _ _ _ _ _ _ _ _, kp9D v2 (by omega) _ _ _ _ _ _ _ _ _, kp9D v3 (by omega) _ _ _ _ _ _ _ _ _, kp9D v4 (by omega) _ _ _ _ _ _ _ _ _⟩) (first | (go_at_call 16; refine (n_any B 14 _ (by omega) (by omega) (by with_reducible first | exact HN.out.1 | exact HN.out.2)).mono ?_; rintro e wa ⟨x, rfl, x0, x1, sa, ka⟩; have ka' : Keep B wr wa := (by first | exact (Keep.of_below (Below.refl _ _).drew).trans ka | exact (Keep.of_below ((Below.refl _ _).alloc (Nat.le_refl _) _).drew).trans ka); have qa := HQ.out.1.keep ka' sa; have HA : Hid (QD B P w wa p (.slice Av p.seen.length Cv) ∧ LN bl wa (.slice (some ⟨bb, oo, none⟩) xs.length Cl) xs) := ⟨qa, HQ.out.2.keep ka' (fun _ => HX.out.1)⟩; obtain ⟨y0, y1, y2, y3, yf⟩ := qa.cells; have y4 := ka'.cell q0 HX1.out.1; have hza := ka'.size; (try (have hbx : wa.heap[wr.heap.size]? = some (.cells #[.string ⟨#[]⟩, .int .i64 0, .int .i64 0, .slice none 0 0, .int .i64 0, .int .i64 0, .int .i64 0, .int .i64 0, .int .i64 0] 36) := (ka.block wr.heap.size (by simp) (by have := HQ.out.1.src.lt; omega)).trans (World.alloc_heap_new _ _); obtain ⟨k0, k1, k2, k3, k4, k5, k6, k7, k8, kz⟩ := boxTD hbx)); clear qa ka') | (go_at_call 9; refine (take_specT p _ z x _ (by with_reducible first | exact HA.out.1.rpt | exact (HA.out.1.below ((Below.refl _ _).alloc (Nat.le_refl _) _)).rpt) HA.out.1.fair).mono ?_; rintro e wb ⟨t, u, ht, rfl, hf, ⟨bu, hbu, hOu⟩, hbb⟩; obtain ⟨Au, Cu, hu⟩ := hOu.val; subst hu; have bw : Below wa.heap.size wa wb := (by first | exact hbb | exact ((Below.refl _ _).alloc (Nat.le_refl _) _).trans (hbb.mono (by simp))); obtain ⟨v0, v1, v2, v3, vf⟩ := (HA.out.1.below bw).cells; have v4 := (bw.cell (p := ⟨bb, oo + k, none⟩) (show bb < wa.heap.size by omega)).trans y4; have hzb := bw.size; (try (have hbx2 := (bw.block wr.heap.size (Array.getElem?_eq_some_iff.1 hbx).1).trans hbx; obtain ⟨r0, r1, r2, r3, r4, r5, r6, r7, r8, rz⟩ := boxTD hbx2)); (try (have hbx3 := box_new hbb; obtain ⟨r0, r1, r2, r3, r4, r5, r6, r7, r8, rz⟩ := boxTD hbx3))))
        all_goals (go_wp2_with fail; go_meet)
        all_goals (have hPw := HQ.out.1.hP; have hwz := HQ.out.1.kp.size; have hblr : xs ≠ [] → bl < wr.heap.size := fun hn => HQ.out.2.lt hn)
        all_goals first | (have _h := hbx2; exact ⟨_, t, Au, Cu, x, rfl, ht.out, QT.mkB HA.out.1 bw hbx hOu hbu hf (by omega), (HA.out.2.below bw).keep (keep9 _ _ _ _ _ _ _ _ _ _) (fun hn => by have := hblr hn; omega)⟩) | (have _h := hbx3; exact ⟨_, t, Au, Cu, x, rfl, ht.out, QT.mkB (HA.out.1.below ((Below.refl _ _).alloc (Nat.le_refl _) _)) hbb (World.alloc_heap_new _ _) hOu hbu hf (by omega), (HA.out.2.below bw).keep (keep9 _ _ _ _ _ _ _ _ _ _) (fun hn => by have := hblr hn; omega)⟩) | exact ⟨_, t, Au, Cu, x, rfl, ht.out, QT.mkA HA.out.1 bw hOu hbu hf, (HA.out.2.below bw).below ((Below.refl _ _).alloc (Nat.le_refl _) _)⟩
      case rest =>
        obtain ⟨X, t, Au, Cu, cc, rfl, htk, hqt, hln2⟩ := hcut
        rename World => w7
        have x3 : w7.cell? ⟨X, 8, none⟩ = some (.int .i64 t.code) := cell_blkD hqt.xb rfl
        clear c0 c1 c2 c3 cf q0
        by_cases hcd : t.code = 0
        · have x0 : w7.cell? ⟨X, 0, none⟩ = some (.string t.p.name) := cell_blkD hqt.xb rfl
          have x1 : w7.cell? ⟨X, 1, none⟩ = some (.int .i64 t.p.low) := cell_blkD hqt.xb rfl
          have x2 : w7.cell? ⟨X, 2, none⟩ = some (.int .i64 t.p.next) := cell_blkD hqt.xb rfl
          have x4 : w7.cell? ⟨X, 3, none⟩ = some (.slice Au t.p.seen.length Cu) := cell_blkD hqt.xb rfl
          obtain ⟨c0, c1, c2, c3, cf⟩ := hqt.q.cells
          obtain ⟨hn1, hn2⟩ : t.p.name.size ≤ 100 ∧ t.p.seen.length ≤ 99 := by
            rw [htk] at hcd ⊢
            exact takeT_ok hcd hqt.q.nm hl99
          have hk4 : Keep P w7 ((((w7.setCell ⟨P, 0, none⟩ (.string t.p.name)).setCell ⟨P, 1, none⟩ (.int .i64 t.p.low)).setCell ⟨P, 2, none⟩ (.int .i64 t.p.next)).setCell ⟨P, 3, none⟩ (.slice Au t.p.seen.length Cu)) := ((((Keep.refl _ _).setCell _ _).setCell _ _).setCell _ _).setCell _ _
          have H8 : Hid (QD B P w ((((w7.setCell ⟨P, 0, none⟩ (.string t.p.name)).setCell ⟨P, 1, none⟩ (.int .i64 t.p.low)).setCell ⟨P, 2, none⟩ (.int .i64 t.p.next)).setCell ⟨P, 3, none⟩ (.slice Au t.p.seen.length Cu)) t.p (.slice Au t.p.seen.length Cu) ∧ LN bl ((((w7.setCell ⟨P, 0, none⟩ (.string t.p.name)).setCell ⟨P, 1, none⟩ (.int .i64 t.p.low)).setCell ⟨P, 2, none⟩ (.int .i64 t.p.next)).setCell ⟨P, 3, none⟩ (.slice Au t.p.seen.length Cu)) (.slice (some ⟨bb, oo, none⟩) xs.length Cl) xs) := ⟨hqt.q.write hk4 (set4_at hqt.q.box) hqt.row hqt.fair hn1 (by omega), hln2.keep hk4 (fun _ => HX.out.2.1)⟩
          clear hqt hln2 htk hk4
          go_wp2
          go_roundw
          case rel => exact ⟨k + 1, t.p, _, by go_num, by omega, hn2, H8.out.1, H8.out.2⟩
          case measure => simp [intOf]; omega
        · have hcd' : (t.code == 0) = false := by simpa using hcd
          have H8 : Hid (QD B P w w7 p (.slice Av p.seen.length Cv) ∧ LN bl w7 (.slice (some ⟨bb, oo, none⟩) xs.length Cl) xs) := ⟨hqt.q, hln2⟩
          clear hqt hln2 htk
          go_wp2
          go_roundw
          case rel => exact ⟨k + 1, p, _, by go_num, by omega, hl99, H8.out.1, H8.out.2⟩
          case measure => simp [intOf]; omega
    · obtain rfl : k = xs.length := by omega
      have HQ : Hid (QD B P w wr p (.slice Av p.seen.length Cv)) := hq
      clear hq hln
      go_wp2_with fail
      refine (one_any B 12 _ (by omega) (by omega) HQ.out.src).mono ?_
      rintro e w8 ⟨on, rfl, hs8, hk8⟩
      have H8 : Hid (QD B P w w8 p (.slice Av p.seen.length Cv)) := HQ.out.keep hk8 hs8
      clear hs8 hk8 HQ
      obtain ⟨j0, hj0i, hi0, hi1, hi2⟩ := info_parts infoSnA
      go_upto_if 35 with fail
      go_cut [] from 36 to 85 (fun wx => ∃ (q : Ptn) (A : Option Addr) (C : Nat), QD B P w wx q (.slice A q.seen.length C))
      case first =>
        cases on with
        | false =>
          go_wp2_with fail
          go_meet
          exact ⟨p, Av, Cv, H8.out⟩
        | true =>
          go_wp2_with fail
          refine (n_any B 6 _ (by omega) (by omega) H8.out.src).mono ?_
          rintro e w9 ⟨d, rfl, d0, d1, hs9, hk9⟩
          have H9 : Hid (QD B P w w9 p (.slice Av p.seen.length Cv)) := H8.out.keep hk9 hs9
          clear hs9 hk9 H8
          obtain rfl | rfl | rfl | rfl | rfl | rfl : d = 0 ∨ d = 1 ∨ d = 2 ∨ d = 3 ∨ d = 4 ∨ d = 5 := by omega
          · obtain ⟨c0, c1, c2, c3, cf⟩ := H9.out.cells
            go_wp2_with fail
            go_meet
            exact ⟨⟨⟨#[97]⟩, p.low, p.next, p.seen⟩, Av, Cv, H9.out.write ((Keep.refl _ _).setCell _ _) (set1_0 H9.out.box) H9.out.row H9.out.fair (show (⟨#[97]⟩ : ByteArray).size ≤ 100 by decide) H9.out.len⟩
          · go_wp2_with fail
            refine (n_any B 2 _ (by omega) (by omega) H9.out.src).mono ?_
            rintro e wa ⟨x, rfl, x0, x1, sa, ka⟩
            have HA : Hid (QD B P w wa p (.slice Av p.seen.length Cv)) := H9.out.keep ka sa
            clear sa ka
            obtain ⟨c0, c1, c2, c3, cf⟩ := HA.out.cells
            go_wp2_with fail
            go_meet
            exact ⟨⟨p.name, p.low, _, p.seen⟩, Av, Cv, HA.out.write ((Keep.refl _ _).setCell _ _) (set1_2 HA.out.box) HA.out.row HA.out.fair HA.out.nm HA.out.len⟩
          · obtain ⟨c0, c1, c2, c3, cf⟩ := H9.out.cells
            go_wp2_with fail
            go_meet
            exact ⟨⟨p.name, _, p.next, p.seen⟩, Av, Cv, H9.out.write ((Keep.refl _ _).setCell _ _) (set1_1 H9.out.box) H9.out.row H9.out.fair H9.out.nm H9.out.len⟩
          · go_wp2_with fail
            refine (n_any B 3 _ (by omega) (by omega) H9.out.src).mono ?_
            rintro e wa ⟨x, rfl, x0, x1, sa, ka⟩
            have HA : Hid (QD B P w wa p (.slice Av p.seen.length Cv)) := H9.out.keep ka sa
            clear sa ka
            obtain ⟨c0, c1, c2, c3, cf⟩ := HA.out.cells
            go_wp2_with fail
            go_meet
            exact ⟨⟨p.name, _, p.next, []⟩, none, 0, HA.out.write (((Keep.refl _ _).setCell _ _).setCell _ _) (set1_3 (set1_1 HA.out.box)) (OSn.nil _ _) (.inl rfl) HA.out.nm (by simp)⟩
          · obtain ⟨c0, c1, c2, c3, cf⟩ := H9.out.cells
            have HN : Hid (IsSrc B w9.drew) := H9.out.src.below (Below.refl _ _).drew
            have HO : Hid (some P ≠ (Value.slice Av p.seen.length Cv).ownBlock) := fun e => H9.out.row.ne_box H9.out.box (by decide) P e.symm rfl
            have hlp := hl99
            go_upto_region 22 with fail
            go_region_law (first | (go_simp; go_at_call 16; refine (n_any B 2 _ (by omega) (by omega) HN.out).mono ?_; rintro e wa ⟨x, rfl, x0, x1, sa, ka⟩; have ka' : Keep B w9 wa := (Keep.of_below (Below.refl _ _).drew).trans ka; have qa := H9.out.keep ka' sa; obtain ⟨y0, y1, y2, y3, yf⟩ := qa.cells; have HA : Hid (QD B P w wa p (.slice Av p.seen.length Cv)) := qa; have hza : w.heap.size ≤ wa.heap.size := qa.kp.size; have hPa := qa.lt; clear qa ka') | (refine step_append_lies _ (by rfl) _ _ _ (by rfl) w.heap.size 34 j0 _ 3 24 Try.underlying28 hj0i hi0 hi1 hi2 rfl (by omega) (.slice Av p.seen.length Cv) p.seen.length (clSns p.seen) (by rfl) (World.ownsRow.alloc HA.out.row _) ⟨wa.heap.size, 0, none⟩ 1 1 [_, _, _] (by rfl) (by rfl) (World.news_of_block (cs := #[_, _, _]) (t := 34) (fr := (0, 0)) (World.alloc_heap_new wa _)) (by simp [Value.oneCell']) (by omega) (by unfold maxLen; omega) (by omega) (by simp; omega) (wa.heap.size + 1) (by simp) ?_; intro gg cap w4 hown4 hgrow hat4 hlt4; have u1 := hgrow.cell ((World.cell?_alloc_lt wa _ ⟨P, 1, none⟩ hPa).trans y1) HO.out; have u3 := hgrow.cell ((World.cell?_alloc_lt wa _ ⟨P, 3, none⟩ hPa).trans y3) HO.out; have hbp := (hgrow.block P (by simp; omega) HO.out).trans ((Below.heap_alloc wa _ P hPa).trans HA.out.box); have uf : ∀ o, w4.frozen? ⟨P, o, none⟩ = false := (fun o => by simp [World.frozen?, hbp]); try dsimp only))
            all_goals (go_wp2_with fail; go_meet)
            all_goals exact ⟨⟨p.name, p.low, p.next, p.seen ++ [⟨_, _, _⟩]⟩, some ⟨gg, 0, none⟩, cap, by simpa using HA.out.app (s := ⟨_, _, _⟩) hlp hgrow hown4 (.inr ⟨_, _, _, rfl⟩)⟩
          · obtain ⟨c0, c1, c2, c3, cf⟩ := H9.out.cells
            have HN : Hid (IsSrc B w9.drew) := H9.out.src.below (Below.refl _ _).drew
            have HO : Hid (some P ≠ (Value.slice Av p.seen.length Cv).ownBlock) := fun e => H9.out.row.ne_box H9.out.box (by decide) P e.symm rfl
            have hlp := hl99
            go_upto_region 11 with fail
            go_region_law (first | (go_simp; go_at_call 16; refine (n_any B 2 _ (by omega) (by omega) HN.out).mono ?_; rintro e wa ⟨x, rfl, x0, x1, sa, ka⟩; have ka' : Keep B w9 wa := (Keep.of_below (Below.refl _ _).drew).trans ka; have qa := H9.out.keep ka' sa; obtain ⟨y0, y1, y2, y3, yf⟩ := qa.cells; have HA : Hid (QD B P w wa p (.slice Av p.seen.length Cv)) := qa; have hza : w.heap.size ≤ wa.heap.size := qa.kp.size; have hPa := qa.lt; clear qa ka') | (refine step_append_lies _ (by rfl) _ _ _ (by rfl) w.heap.size 34 j0 _ 3 24 Try.underlying28 hj0i hi0 hi1 hi2 rfl (by omega) (.slice Av p.seen.length Cv) p.seen.length (clSns p.seen) (by rfl) (World.ownsRow.alloc HA.out.row _) ⟨wa.heap.size, 0, none⟩ 1 1 [_, _, _] (by rfl) (by rfl) (World.news_of_block (cs := #[_, _, _]) (t := 34) (fr := (0, 0)) (World.alloc_heap_new wa _)) (by simp [Value.oneCell']) (by omega) (by unfold maxLen; omega) (by omega) (by simp; omega) (wa.heap.size + 1) (by simp) ?_; intro gg cap w4 hown4 hgrow hat4 hlt4; have u1 := hgrow.cell ((World.cell?_alloc_lt wa _ ⟨P, 1, none⟩ hPa).trans y1) HO.out; have u3 := hgrow.cell ((World.cell?_alloc_lt wa _ ⟨P, 3, none⟩ hPa).trans y3) HO.out; have hbp := (hgrow.block P (by simp; omega) HO.out).trans ((Below.heap_alloc wa _ P hPa).trans HA.out.box); have uf : ∀ o, w4.frozen? ⟨P, o, none⟩ = false := (fun o => by simp [World.frozen?, hbp]); try dsimp only))
            all_goals (go_wp2_with fail; go_meet)
            all_goals exact ⟨⟨p.name, p.low, p.next, p.seen ++ [⟨_, _, _⟩]⟩, some ⟨gg, 0, none⟩, cap, by simpa using HA.out.app (s := ⟨_, _, _⟩) hlp hgrow hown4 (.inr ⟨_, _, _, rfl⟩)⟩
      case rest =>
        obtain ⟨q, Aq, Cq, hqd⟩ := hcut
        rename World => wz
        have HZ : Hid (QD B P w wz q (.slice Aq q.seen.length Cq)) := hqd
        obtain ⟨c0, c1, c2, c3, cf⟩ := hqd.cells
        have hrb := hqd.rb
        have r0 : wz.cell? ⟨w.heap.size, 0, none⟩ = some (.string ⟨#[]⟩) := cell_blkD hrb rfl
        have r1 : wz.cell? ⟨w.heap.size, 1, none⟩ = some (.int .i64 0) := cell_blkD hrb rfl
        have r2 : wz.cell? ⟨w.heap.size, 2, none⟩ = some (.int .i64 0) := cell_blkD hrb rfl
        have r3 : wz.cell? ⟨w.heap.size, 3, none⟩ = some (.slice none 0 0) := cell_blkD hrb rfl
        have rf : ∀ o, wz.frozen? ⟨w.heap.size, o, none⟩ = false := fun o => by simp [World.frozen?, hrb]
        clear hrb hqd
        go_wp2
        obtain ⟨f1, f2, f3⟩ := HZ.out.fin (.string q.name) (.int .i64 q.low) (.int .i64 q.next) (.slice Aq q.seen.length Cq)
        have hnm := HZ.out.nm
        exact bodyPost_ret (v := .agg #[.string q.name, .int .i64 q.low, .int .i64 q.next, .slice Aq q.seen.length Cq]) (by simp [results, Try.results26, go_sem, r0, r1, r2, r3]) rfl ⟨q, _, rfl, ⟨by obtain ⟨b, _, hL⟩ := f1; exact hL.row, by omega⟩, HZ.out.fair, f1, f2, f3⟩
end Go.Proofs.Ytbnjieppcojckaa
