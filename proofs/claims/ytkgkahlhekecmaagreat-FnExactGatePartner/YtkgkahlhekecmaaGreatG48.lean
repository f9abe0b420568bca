/- Texts of ours put together: GpSe. -/
import Derived.Test.YtkgkahlhekecmaaGreatG47
import Derived.Test.YtkgkahlhekecmaaGreatG36
import Derived.Test.YtkgkahlhekecmaaGreatG43
import Derived.Test.YtkgkahlhekecmaaGreatG46
import Derived.Test.YtkgkahlhekecmaaGreatG17
import Derived.Test.YtkgkahlhekecmaaGreatG30
import Derived.Test.YtkgkahlhekecmaaGreatG44
import Derived.Deep.RegionLaw
namespace Go.Proofs.YtkgkahlhekecmaaGreat
open Go.ChangeShapes Go.WideShapes Go.ChangeAt Go.RowKit
set_option maxRecDepth 20000 in
set_option maxHeartbeats 16000000 in
theorem gpS_err (g : Gat) (up uc us ul ud uo : Value) (t : ByteArray) (w : World) (h : RGt w up uc us ul ud uo g) (hP : BdGt 1048576 g) (hcase : 20000 < t.size ∨ gtB g = false ∨ nameB t = false ∨ hasP g t = true ∨ g.ptns.length = 20) :
    Calls Tryz.prog 5 #[.agg #[.string g.name, .int .i64 g.day, up, uc, us, ul, ud, uo], .string t] w fun e w' => AnsGoS (gpR g t).2 w (gpR g t).1 e w' := by
  obtain ⟨a0, c0, a1, c1, a2, c2, a3, c3, a4, c4, a5, c5, rfl, rfl, rfl, rfl, rfl, rfl⟩ := h.val
  obtain ⟨W0, hW0⟩ : ∃ W0, (w.alloc (.cells #[.string g.name, .int .i64 g.day, (.slice a0 g.ptns.length c0), (.slice a1 g.crss.length c1), (.slice a2 g.book.stocks.length c2), (.slice a3 g.book.lines.length c3), (.slice a4 g.dffs.length c4), (.slice a5 g.outs.length c5)] 42)).alloc (.cells #[.string ⟨#[]⟩, .int .i64 0, .slice none 0 0, .slice none 0 0, .slice none 0 0, .slice none 0 0, .slice none 0 0, .slice none 0 0, .string ⟨#[]⟩, .int .i64 0, .int .i64 0, .int .i64 0, .int .i64 0, .int .i64 0] 44) = W0 := ⟨_, rfl⟩
  have hb0 : Below w.heap.size w W0 := by rw [← hW0]; exact ((Below.refl _ _).alloc (Nat.le_refl _) _).alloc (by simp) _
  obtain ⟨k0, k1⟩ := fl_twoH w (.cells #[.string g.name, .int .i64 g.day, (.slice a0 g.ptns.length c0), (.slice a1 g.crss.length c1), (.slice a2 g.book.stocks.length c2), (.slice a3 g.book.lines.length c3), (.slice a4 g.dffs.length c4), (.slice a5 g.outs.length c5)] 42) (.cells #[.string ⟨#[]⟩, .int .i64 0, .slice none 0 0, .slice none 0 0, .slice none 0 0, .slice none 0 0, .slice none 0 0, .slice none 0 0, .string ⟨#[]⟩, .int .i64 0, .int .i64 0, .int .i64 0, .int .i64 0, .int .i64 0] 44)
  rw [hW0] at k0 k1
  have hs0 : W0.heap.size = w.heap.size + 2 := by rw [← hW0]; simp
  have H0 : Hid (Below w.heap.size w W0 ∧ RGt W0 (.slice a0 g.ptns.length c0) (.slice a1 g.crss.length c1) (.slice a2 g.book.stocks.length c2) (.slice a3 g.book.lines.length c3) (.slice a4 g.dffs.length c4) (.slice a5 g.outs.length c5) g ∧ W0.heap[w.heap.size]? = some (.cells #[.string g.name, .int .i64 g.day, (.slice a0 g.ptns.length c0), (.slice a1 g.crss.length c1), (.slice a2 g.book.stocks.length c2), (.slice a3 g.book.lines.length c3), (.slice a4 g.dffs.length c4), (.slice a5 g.outs.length c5)] 42) ∧ W0.heap[w.heap.size + 1]? = some (.cells #[.string ⟨#[]⟩, .int .i64 0, .slice none 0 0, .slice none 0 0, .slice none 0 0, .slice none 0 0, .slice none 0 0, .slice none 0 0, .string ⟨#[]⟩, .int .i64 0, .int .i64 0, .int .i64 0, .int .i64 0, .int .i64 0] 44) ∧ w.heap.size + 2 ≤ W0.heap.size) := ⟨hb0, h.below hb0, k0, k1, by omega⟩
  have HPP : Hid (BdGt 1048576 g) := hP
  have hl0 := (bdp hP).1
  clear h hb0 k0 k1 hs0 hP
  by_cases h20 : 20000 < t.size
  · have h20' : (t.size : Int) > 20000 := by omega
    have HR : Hid (gpR g t = (zG, 2)) := gpR_size h20
    go_enter Tryz.func5, Tryz.ntmps5
    go_upto_region 1 with fail
    try rw [hW0]
    clear hW0
    obtain ⟨r0, r1, r2, r3, r4, r5, r6, r7, r8, r9, r10, r11, r12, r13⟩ := bx14 H0.out.2.2.2.1
    have fr := fz8 H0.out.2.2.2.1
    go_wp2
    obtain ⟨f0, f1, f2, f3, f4, f5, f6, f7, f8, f9, f10, f11, f12, f13⟩ := bx14 (st14 (y0 := (.string ⟨#[]⟩)) (y1 := (.int .i64 0)) (y2 := (.slice none 0 0)) (y3 := (.slice none 0 0)) (y4 := (.slice none 0 0)) (y5 := (.slice none 0 0)) (y6 := (.slice none 0 0)) (y7 := (.slice none 0 0)) (y8 := (.string ⟨#[]⟩)) (y9 := (.int .i64 0)) (y10 := (.int .i64 0)) (y11 := (.int .i64 0)) (y12 := (.int .i64 0)) (y13 := (.int .i64 2)) H0.out.2.2.2.1)
    refine bodyPost_ret (v := .agg #[(.string ⟨#[]⟩), (.int .i64 0), (.slice none 0 0), (.slice none 0 0), (.slice none 0 0), (.slice none 0 0), (.slice none 0 0), (.slice none 0 0), (.string ⟨#[]⟩), (.int .i64 0), (.int .i64 0), (.int .i64 0), (.int .i64 0), (.int .i64 2)]) (by simp [results, Tryz.results5, go_sem, f0, f1, f2, f3, f4, f5, f6, f7, f8, f9, f10, f11, f12, f13]) rfl ?_
    rw [HR.out]
    exact ansGoS_zero 2 ((((((((((((((H0.out.1.setCell (Nat.le_succ _) _).setCell (Nat.le_succ _) _).setCell (Nat.le_succ _) _).setCell (Nat.le_succ _) _).setCell (Nat.le_succ _) _).setCell (Nat.le_succ _) _).setCell (Nat.le_succ _) _).setCell (Nat.le_succ _) _).setCell (Nat.le_succ _) _).setCell (Nat.le_succ _) _).setCell (Nat.le_succ _) _).setCell (Nat.le_succ _) _).setCell (Nat.le_succ _) _).setCell (Nat.le_succ _) _)
  have h20' : ¬ (t.size : Int) > 20000 := by omega
  go_enter Tryz.func5, Tryz.ntmps5
  go_upto_region 1 with fail
  try rw [hW0]
  clear hW0
  obtain ⟨x0, x1, x2, x3, x4, x5, x6, x7⟩ := bx8 H0.out.2.2.1
  have Q := fun W h => gateRight_spec g (.slice a0 g.ptns.length c0) (.slice a1 g.crss.length c1) (.slice a2 g.book.stocks.length c2) (.slice a3 g.book.lines.length c3) (.slice a4 g.dffs.length c4) (.slice a5 g.outs.length c5) W h
  obtain ⟨y, hy⟩ : ∃ y, y = gtB g := ⟨_, rfl⟩
  have HY : Hid (y = gtB g) := hy
  rw [← hy] at Q
  have QN := l01Name_any t
  obtain ⟨z, hz⟩ : ∃ z, z = nameB t := ⟨_, rfl⟩
  have HZ : Hid (z = nameB t) := hz
  rw [← hz] at QN
  clear hy hz
  go_wp2_with fail
  refine (Q _ H0.out.2.1).mono ?_
  rintro e wa ⟨rfl, hb⟩
  have H1 : Hid (Below w.heap.size w wa ∧ RGt wa (.slice a0 g.ptns.length c0) (.slice a1 g.crss.length c1) (.slice a2 g.book.stocks.length c2) (.slice a3 g.book.lines.length c3) (.slice a4 g.dffs.length c4) (.slice a5 g.outs.length c5) g ∧ wa.heap[w.heap.size]? = some (.cells #[.string g.name, .int .i64 g.day, (.slice a0 g.ptns.length c0), (.slice a1 g.crss.length c1), (.slice a2 g.book.stocks.length c2), (.slice a3 g.book.lines.length c3), (.slice a4 g.dffs.length c4), (.slice a5 g.outs.length c5)] 42) ∧ wa.heap[w.heap.size + 1]? = some (.cells #[.string ⟨#[]⟩, .int .i64 0, .slice none 0 0, .slice none 0 0, .slice none 0 0, .slice none 0 0, .slice none 0 0, .slice none 0 0, .string ⟨#[]⟩, .int .i64 0, .int .i64 0, .int .i64 0, .int .i64 0, .int .i64 0] 44) ∧ w.heap.size + 2 ≤ wa.heap.size) := ⟨H0.out.1.trans (hb.mono H0.out.1.size), H0.out.2.1.below hb, (hb.block _ (Array.getElem?_eq_some_iff.1 H0.out.2.2.1).1).trans H0.out.2.2.1, (hb.block _ (Array.getElem?_eq_some_iff.1 H0.out.2.2.2.1).1).trans H0.out.2.2.2.1, Nat.le_trans H0.out.2.2.2.2 hb.size⟩
  clear hb x0 x1 x2 x3 x4 x5 x6 x7 H0 Q
  cases y with
  | false =>
    have HR : Hid (gpR g t = (zG, 1)) := gpR_form h20 (.inl HY.out.symm)
    obtain ⟨r0, r1, r2, r3, r4, r5, r6, r7, r8, r9, r10, r11, r12, r13⟩ := bx14 H1.out.2.2.2.1
    have fr := fz8 H1.out.2.2.2.1
    go_wp2
    obtain ⟨f0, f1, f2, f3, f4, f5, f6, f7, f8, f9, f10, f11, f12, f13⟩ := bx14 (st14 (y0 := (.string ⟨#[]⟩)) (y1 := (.int .i64 0)) (y2 := (.slice none 0 0)) (y3 := (.slice none 0 0)) (y4 := (.slice none 0 0)) (y5 := (.slice none 0 0)) (y6 := (.slice none 0 0)) (y7 := (.slice none 0 0)) (y8 := (.string ⟨#[]⟩)) (y9 := (.int .i64 0)) (y10 := (.int .i64 0)) (y11 := (.int .i64 0)) (y12 := (.int .i64 0)) (y13 := (.int .i64 1)) H1.out.2.2.2.1)
    refine bodyPost_ret (v := .agg #[(.string ⟨#[]⟩), (.int .i64 0), (.slice none 0 0), (.slice none 0 0), (.slice none 0 0), (.slice none 0 0), (.slice none 0 0), (.slice none 0 0), (.string ⟨#[]⟩), (.int .i64 0), (.int .i64 0), (.int .i64 0), (.int .i64 0), (.int .i64 1)]) (by simp [results, Tryz.results5, go_sem, f0, f1, f2, f3, f4, f5, f6, f7, f8, f9, f10, f11, f12, f13]) rfl ?_
    rw [HR.out]
    exact ansGoS_zero 1 ((((((((((((((H1.out.1.setCell (Nat.le_succ _) _).setCell (Nat.le_succ _) _).setCell (Nat.le_succ _) _).setCell (Nat.le_succ _) _).setCell (Nat.le_succ _) _).setCell (Nat.le_succ _) _).setCell (Nat.le_succ _) _).setCell (Nat.le_succ _) _).setCell (Nat.le_succ _) _).setCell (Nat.le_succ _) _).setCell (Nat.le_succ _) _).setCell (Nat.le_succ _) _).setCell (Nat.le_succ _) _).setCell (Nat.le_succ _) _)
  | true =>
  go_wp2_with fail
  refine (QN _).mono ?_
  rintro e w1 ⟨rfl, rfl⟩
  cases z with
  | false =>
    have HR : Hid (gpR g t = (zG, 1)) := gpR_form h20 (.inr HZ.out.symm)
    obtain ⟨r0, r1, r2, r3, r4, r5, r6, r7, r8, r9, r10, r11, r12, r13⟩ := bx14 H1.out.2.2.2.1
    have fr := fz8 H1.out.2.2.2.1
    go_wp2
    obtain ⟨f0, f1, f2, f3, f4, f5, f6, f7, f8, f9, f10, f11, f12, f13⟩ := bx14 (st14 (y0 := (.string ⟨#[]⟩)) (y1 := (.int .i64 0)) (y2 := (.slice none 0 0)) (y3 := (.slice none 0 0)) (y4 := (.slice none 0 0)) (y5 := (.slice none 0 0)) (y6 := (.slice none 0 0)) (y7 := (.slice none 0 0)) (y8 := (.string ⟨#[]⟩)) (y9 := (.int .i64 0)) (y10 := (.int .i64 0)) (y11 := (.int .i64 0)) (y12 := (.int .i64 0)) (y13 := (.int .i64 1)) H1.out.2.2.2.1)
    refine bodyPost_ret (v := .agg #[(.string ⟨#[]⟩), (.int .i64 0), (.slice none 0 0), (.slice none 0 0), (.slice none 0 0), (.slice none 0 0), (.slice none 0 0), (.slice none 0 0), (.string ⟨#[]⟩), (.int .i64 0), (.int .i64 0), (.int .i64 0), (.int .i64 0), (.int .i64 1)]) (by simp [results, Tryz.results5, go_sem, f0, f1, f2, f3, f4, f5, f6, f7, f8, f9, f10, f11, f12, f13]) rfl ?_
    rw [HR.out]
    exact ansGoS_zero 1 ((((((((((((((H1.out.1.setCell (Nat.le_succ _) _).setCell (Nat.le_succ _) _).setCell (Nat.le_succ _) _).setCell (Nat.le_succ _) _).setCell (Nat.le_succ _) _).setCell (Nat.le_succ _) _).setCell (Nat.le_succ _) _).setCell (Nat.le_succ _) _).setCell (Nat.le_succ _) _).setCell (Nat.le_succ _) _).setCell (Nat.le_succ _) _).setCell (Nat.le_succ _) _).setCell (Nat.le_succ _) _).setCell (Nat.le_succ _) _)
  | true =>
  have HRP : Hid (RightP g.ptns) := by
    have h := HY.out.symm
    simp only [gtB, Bool.and_eq_true] at h
    exact ptsB_iff.1 h.2.2.1
  obtain ⟨x0, x1, x2, x3, x4, x5, x6, x7⟩ := bx8 H1.out.2.2.1
  go_wp2_with fail
  refine (l13Find_any g _ _ _ _ _ _ t _ H1.out.2.1 HPP.out).mono ?_
  rintro e w2 ⟨r, rfl, hr, hb⟩
  rw [← hasP_iff HRP.out.ris] at hr
  have H2 : Hid (Below w.heap.size w w2 ∧ RGt w2 (.slice a0 g.ptns.length c0) (.slice a1 g.crss.length c1) (.slice a2 g.book.stocks.length c2) (.slice a3 g.book.lines.length c3) (.slice a4 g.dffs.length c4) (.slice a5 g.outs.length c5) g ∧ w2.heap[w.heap.size]? = some (.cells #[.string g.name, .int .i64 g.day, (.slice a0 g.ptns.length c0), (.slice a1 g.crss.length c1), (.slice a2 g.book.stocks.length c2), (.slice a3 g.book.lines.length c3), (.slice a4 g.dffs.length c4), (.slice a5 g.outs.length c5)] 42) ∧ w2.heap[w.heap.size + 1]? = some (.cells #[.string ⟨#[]⟩, .int .i64 0, .slice none 0 0, .slice none 0 0, .slice none 0 0, .slice none 0 0, .slice none 0 0, .slice none 0 0, .string ⟨#[]⟩, .int .i64 0, .int .i64 0, .int .i64 0, .int .i64 0, .int .i64 0] 44) ∧ w.heap.size + 2 ≤ w2.heap.size) := ⟨H1.out.1.trans (hb.mono H1.out.1.size), H1.out.2.1.below hb, (hb.block _ (Array.getElem?_eq_some_iff.1 H1.out.2.2.1).1).trans H1.out.2.2.1, (hb.block _ (Array.getElem?_eq_some_iff.1 H1.out.2.2.2.1).1).trans H1.out.2.2.2.1, Nat.le_trans H1.out.2.2.2.2 hb.size⟩
  clear hb x0 x1 x2 x3 x4 x5 x6 x7 H1
  by_cases hhp : hasP g t = true
  · have hr' : r ≥ 0 := hr.2 hhp
    have HR : Hid (gpR g t = (zG, 11)) := gpR_there h20 HY.out.symm HZ.out.symm hhp
    clear hr
    obtain ⟨r0, r1, r2, r3, r4, r5, r6, r7, r8, r9, r10, r11, r12, r13⟩ := bx14 H2.out.2.2.2.1
    have fr := fz8 H2.out.2.2.2.1
    go_wp2
    obtain ⟨f0, f1, f2, f3, f4, f5, f6, f7, f8, f9, f10, f11, f12, f13⟩ := bx14 (st14 (y0 := (.string ⟨#[]⟩)) (y1 := (.int .i64 0)) (y2 := (.slice none 0 0)) (y3 := (.slice none 0 0)) (y4 := (.slice none 0 0)) (y5 := (.slice none 0 0)) (y6 := (.slice none 0 0)) (y7 := (.slice none 0 0)) (y8 := (.string ⟨#[]⟩)) (y9 := (.int .i64 0)) (y10 := (.int .i64 0)) (y11 := (.int .i64 0)) (y12 := (.int .i64 0)) (y13 := (.int .i64 11)) H2.out.2.2.2.1)
    refine bodyPost_ret (v := .agg #[(.string ⟨#[]⟩), (.int .i64 0), (.slice none 0 0), (.slice none 0 0), (.slice none 0 0), (.slice none 0 0), (.slice none 0 0), (.slice none 0 0), (.string ⟨#[]⟩), (.int .i64 0), (.int .i64 0), (.int .i64 0), (.int .i64 0), (.int .i64 11)]) (by simp [results, Tryz.results5, go_sem, f0, f1, f2, f3, f4, f5, f6, f7, f8, f9, f10, f11, f12, f13]) rfl ?_
    rw [HR.out]
    exact ansGoS_zero 11 ((((((((((((((H2.out.1.setCell (Nat.le_succ _) _).setCell (Nat.le_succ _) _).setCell (Nat.le_succ _) _).setCell (Nat.le_succ _) _).setCell (Nat.le_succ _) _).setCell (Nat.le_succ _) _).setCell (Nat.le_succ _) _).setCell (Nat.le_succ _) _).setCell (Nat.le_succ _) _).setCell (Nat.le_succ _) _).setCell (Nat.le_succ _) _).setCell (Nat.le_succ _) _).setCell (Nat.le_succ _) _).setCell (Nat.le_succ _) _)
  have hr' : ¬ r ≥ 0 := fun e => hhp (hr.1 e)
  have hhf : hasP g t = false := by simpa using hhp
  have hln := HRP.out.len
  clear hr hhp
  obtain ⟨x0, x1, x2, x3, x4, x5, x6, x7⟩ := bx8 H2.out.2.2.1
  by_cases hle : g.ptns.length = 20
  · have hle' : (g.ptns.length : Int) ≥ 20 := by omega
    have HR : Hid (gpR g t = (zG, 12)) := gpR_full h20 HY.out.symm HZ.out.symm hhf hle
    clear hhf
    obtain ⟨r0, r1, r2, r3, r4, r5, r6, r7, r8, r9, r10, r11, r12, r13⟩ := bx14 H2.out.2.2.2.1
    have fr := fz8 H2.out.2.2.2.1
    go_wp2
    obtain ⟨f0, f1, f2, f3, f4, f5, f6, f7, f8, f9, f10, f11, f12, f13⟩ := bx14 (st14 (y0 := (.string ⟨#[]⟩)) (y1 := (.int .i64 0)) (y2 := (.slice none 0 0)) (y3 := (.slice none 0 0)) (y4 := (.slice none 0 0)) (y5 := (.slice none 0 0)) (y6 := (.slice none 0 0)) (y7 := (.slice none 0 0)) (y8 := (.string ⟨#[]⟩)) (y9 := (.int .i64 0)) (y10 := (.int .i64 0)) (y11 := (.int .i64 0)) (y12 := (.int .i64 0)) (y13 := (.int .i64 12)) H2.out.2.2.2.1)
    refine bodyPost_ret (v := .agg #[(.string ⟨#[]⟩), (.int .i64 0), (.slice none 0 0), (.slice none 0 0), (.slice none 0 0), (.slice none 0 0), (.slice none 0 0), (.slice none 0 0), (.string ⟨#[]⟩), (.int .i64 0), (.int .i64 0), (.int .i64 0), (.int .i64 0), (.int .i64 12)]) (by simp [results, Tryz.results5, go_sem, f0, f1, f2, f3, f4, f5, f6, f7, f8, f9, f10, f11, f12, f13]) rfl ?_
    rw [HR.out]
    exact ansGoS_zero 12 ((((((((((((((H2.out.1.setCell (Nat.le_succ _) _).setCell (Nat.le_succ _) _).setCell (Nat.le_succ _) _).setCell (Nat.le_succ _) _).setCell (Nat.le_succ _) _).setCell (Nat.le_succ _) _).setCell (Nat.le_succ _) _).setCell (Nat.le_succ _) _).setCell (Nat.le_succ _) _).setCell (Nat.le_succ _) _).setCell (Nat.le_succ _) _).setCell (Nat.le_succ _) _).setCell (Nat.le_succ _) _).setCell (Nat.le_succ _) _)
  have hle' : ¬ (g.ptns.length : Int) ≥ 20 := by omega
  exfalso
  have h1 := HY.out.symm
  have h2 := HZ.out.symm
  rcases hcase with h | h | h | h | h
  · exact h20 h
  · rw [h1] at h
    cases h
  · rw [h2] at h
    cases h
  · rw [hhf] at h
    cases h
  · exact hle h
end Go.Proofs.YtkgkahlhekecmaaGreat
