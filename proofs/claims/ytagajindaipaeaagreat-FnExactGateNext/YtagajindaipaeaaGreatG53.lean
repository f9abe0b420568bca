/- Texts of ours put together: GtY. -/
import Derived.Test.YtagajindaipaeaaGreatG47
import Derived.Test.YtagajindaipaeaaGreatG52
namespace Go.Proofs.YtagajindaipaeaaGreat
open Go.ChangeShapes Go.WideShapes Go.ChangeAt Go.RowKit
theorem st8_1 {W : World} {b t : Nat} {x0 x1 x2 x3 x4 x5 x6 x7 : Value} (y : Value) (h : W.heap[b]? = some (.cells #[x0, x1, x2, x3, x4, x5, x6, x7] t)) : (W.setCell ⟨b, 1, none⟩ y).heap[b]? = some (.cells #[x0, y, x2, x3, x4, x5, x6, x7] t) := by
  simp [World.setCell, Array.getElem?_modify, h]
set_option maxRecDepth 20000 in
set_option maxHeartbeats 8000000 in
theorem gateNext_impl (g : Gat) (up uc us ul ud uo : Value) (w : World) (h : RGt w up uc us ul ud uo g) (hP : BdGt 1048576 g) :
    Calls Tryz.prog 21 #[.agg #[.string g.name, .int .i64 g.day, up, uc, us, ul, ud, uo]] w fun e w' => AnsG w (nxtG g) e w' := by
  obtain ⟨a0, c0, a1, c1, a2, c2, a3, c3, a4, c4, a5, c5, rfl, rfl, rfl, rfl, rfl, rfl⟩ := h.val
  obtain ⟨W0, hW0⟩ : ∃ W0, (w.alloc (.cells #[.string g.name, .int .i64 g.day, (.slice a0 g.ptns.length c0), (.slice a1 g.crss.length c1), (.slice a2 g.book.stocks.length c2), (.slice a3 g.book.lines.length c3), (.slice a4 g.dffs.length c4), (.slice a5 g.outs.length c5)] 42)).alloc (.cells #[.string ⟨#[]⟩, .int .i64 0, .slice none 0 0, .slice none 0 0, .slice none 0 0, .slice none 0 0, .slice none 0 0, .slice none 0 0] 42) = W0 := ⟨_, rfl⟩
  have hb0 : Below w.heap.size w W0 := by rw [← hW0]; exact ((Below.refl _ _).alloc (Nat.le_refl _) _).alloc (by simp) _
  obtain ⟨k0, k1⟩ := fl_twoH w (.cells #[.string g.name, .int .i64 g.day, (.slice a0 g.ptns.length c0), (.slice a1 g.crss.length c1), (.slice a2 g.book.stocks.length c2), (.slice a3 g.book.lines.length c3), (.slice a4 g.dffs.length c4), (.slice a5 g.outs.length c5)] 42) (.cells #[.string ⟨#[]⟩, .int .i64 0, .slice none 0 0, .slice none 0 0, .slice none 0 0, .slice none 0 0, .slice none 0 0, .slice none 0 0] 42)
  rw [hW0] at k0 k1
  have hs0 : W0.heap.size = w.heap.size + 2 := by rw [← hW0]; simp
  have H0 : Hid (Below w.heap.size w W0 ∧ RGt W0 (.slice a0 g.ptns.length c0) (.slice a1 g.crss.length c1) (.slice a2 g.book.stocks.length c2) (.slice a3 g.book.lines.length c3) (.slice a4 g.dffs.length c4) (.slice a5 g.outs.length c5) g ∧ W0.heap[w.heap.size]? = some (.cells #[.string g.name, .int .i64 g.day, (.slice a0 g.ptns.length c0), (.slice a1 g.crss.length c1), (.slice a2 g.book.stocks.length c2), (.slice a3 g.book.lines.length c3), (.slice a4 g.dffs.length c4), (.slice a5 g.outs.length c5)] 42) ∧ W0.heap[w.heap.size + 1]? = some (.cells #[.string ⟨#[]⟩, .int .i64 0, .slice none 0 0, .slice none 0 0, .slice none 0 0, .slice none 0 0, .slice none 0 0, .slice none 0 0] 42) ∧ w.heap.size + 2 ≤ W0.heap.size) := ⟨hb0, h.below hb0, k0, k1, by omega⟩
  have HPP : Hid (BdGt 1048576 g) := hP
  clear h hb0 k0 k1 hs0 hP
  go_enter Tryz.func21, Tryz.ntmps21
  go_upto_region 1 with fail
  try rw [hW0]
  clear hW0
  obtain ⟨x0, x1, x2, x3, x4, x5, x6, x7⟩ := bx8 H0.out.2.2.1
  have Q := fun W h => gateRight_impl g (.slice a0 g.ptns.length c0) (.slice a1 g.crss.length c1) (.slice a2 g.book.stocks.length c2) (.slice a3 g.book.lines.length c3) (.slice a4 g.dffs.length c4) (.slice a5 g.outs.length c5) W h
  obtain ⟨y, hy⟩ : ∃ y, y = gtB g := ⟨_, rfl⟩
  have HY : Hid (y = gtB g) := hy
  rw [← hy] at Q
  clear hy
  go_wp2_with fail
  refine (Q _ H0.out.2.1).mono ?_
  rintro e w1 ⟨rfl, hb⟩
  have H1 : Hid (Below w.heap.size w w1 ∧ RGt w1 (.slice a0 g.ptns.length c0) (.slice a1 g.crss.length c1) (.slice a2 g.book.stocks.length c2) (.slice a3 g.book.lines.length c3) (.slice a4 g.dffs.length c4) (.slice a5 g.outs.length c5) g ∧ w1.heap[w.heap.size]? = some (.cells #[.string g.name, .int .i64 g.day, (.slice a0 g.ptns.length c0), (.slice a1 g.crss.length c1), (.slice a2 g.book.stocks.length c2), (.slice a3 g.book.lines.length c3), (.slice a4 g.dffs.length c4), (.slice a5 g.outs.length c5)] 42) ∧ w1.heap[w.heap.size + 1]? = some (.cells #[.string ⟨#[]⟩, .int .i64 0, .slice none 0 0, .slice none 0 0, .slice none 0 0, .slice none 0 0, .slice none 0 0, .slice none 0 0] 42) ∧ w.heap.size + 2 ≤ w1.heap.size) := ⟨H0.out.1.trans (hb.mono H0.out.1.size), H0.out.2.1.below hb, (hb.block _ (Array.getElem?_eq_some_iff.1 H0.out.2.2.1).1).trans H0.out.2.2.1, (hb.block _ (Array.getElem?_eq_some_iff.1 H0.out.2.2.2.1).1).trans H0.out.2.2.2.1, Nat.le_trans H0.out.2.2.2.2 hb.size⟩
  clear hb x0 x1 x2 x3 x4 x5 x6 x7 H0 Q
  obtain ⟨x0, x1, x2, x3, x4, x5, x6, x7⟩ := bx8 H1.out.2.2.1
  by_cases hno : y = false ∨ g.day = 100000
  case pos =>
    have HN : Hid (nxtG g = g) := by
      rcases hno with h | h
      · exact nxtG_no (by rw [← HY.out]; exact h)
      · exact nxtG_last h
    have QC : Hid (∀ W, RGt W (.slice a0 g.ptns.length c0) (.slice a1 g.crss.length c1) (.slice a2 g.book.stocks.length c2) (.slice a3 g.book.lines.length c3) (.slice a4 g.dffs.length c4) (.slice a5 g.outs.length c5) g → Calls Tryz.prog 60 #[.agg #[.string g.name, .int .i64 g.day, (.slice a0 g.ptns.length c0), (.slice a1 g.crss.length c1), (.slice a2 g.book.stocks.length c2), (.slice a3 g.book.lines.length c3), (.slice a4 g.dffs.length c4), (.slice a5 g.outs.length c5)]] W fun e w' => ∃ P0 P1 C0 C1 S0 S1 L0 L1 D0 D1 O0 O1 qs bc bs bl bd bo, e = .returned (.agg #[.string g.name, .int .i64 g.day, (.slice P0 qs.length P1), (.slice C0 g.crss.length C1), (.slice S0 g.book.stocks.length S1), (.slice L0 g.book.lines.length L1), (.slice D0 g.dffs.length D1), (.slice O0 g.outs.length O1)]) ∧ OGt W.heap.size w' (.slice P0 qs.length P1) (.slice C0 g.crss.length C1) (.slice S0 g.book.stocks.length S1) (.slice L0 g.book.lines.length L1) (.slice D0 g.dffs.length D1) (.slice O0 g.outs.length O1) g qs bc bs bl bd bo ∧ Below W.heap.size W w') := fun W hW => copyGt_any g _ _ _ _ _ _ W hW HPP.out
    have HD : Hid (∀ (w2 : World), Below w1.heap.size w1 w2 → ∀ (P0 : Option Addr) (P1 : Nat) (C0 : Option Addr) (C1 : Nat) (S0 : Option Addr) (S1 : Nat) (L0 : Option Addr) (L1 : Nat) (D0 : Option Addr) (D1 : Nat) (O0 : Option Addr) (O1 : Nat) (qs : List (Ptn × Value)) (bc bs bl bd bo : Nat), OGt w1.heap.size w2 (.slice P0 qs.length P1) (.slice C0 g.crss.length C1) (.slice S0 g.book.stocks.length S1) (.slice L0 g.book.lines.length L1) (.slice D0 g.dffs.length D1) (.slice O0 g.outs.length O1) g qs bc bs bl bd bo → ∃ b f β, LGt w2 (.slice P0 qs.length P1) (.slice C0 g.crss.length C1) (.slice S0 g.book.stocks.length S1) (.slice L0 g.book.lines.length L1) (.slice D0 g.dffs.length D1) (.slice O0 g.outs.length O1) g b f β bc bs bl bd bo ∧ ∀ k, blkG g b β bc bs bl bd bo k → w1.heap.size ≤ k) := fun w2 _ P0 P1 C0 C1 S0 S1 L0 L1 D0 D1 O0 O1 qs bc bs bl bd bo hO => lgt_of_ogt hO HPP.out
    cases y
    case false =>
      clear hno
      go_wp2_with fail
      refine (QC.out _ H1.out.2.1).mono ?_
      rintro e w2 ⟨P0, P1, C0, C1, S0, S1, L0, L1, D0, D1, O0, O1, qs, bc, bs, bl, bd, bo, rfl, hO, hb⟩
      obtain ⟨b, f, β, hLG, hge⟩ := HD.out w2 hb P0 P1 C0 C1 S0 S1 L0 L1 D0 D1 O0 O1 qs bc bs bl bd bo hO
      have hx := (hb.block _ (Array.getElem?_eq_some_iff.1 H1.out.2.2.2.1).1).trans H1.out.2.2.2.1
      have H2 : Hid (Below w.heap.size w w2 ∧ w2.heap[w.heap.size + 1]? = some (.cells #[.string ⟨#[]⟩, .int .i64 0, .slice none 0 0, .slice none 0 0, .slice none 0 0, .slice none 0 0, .slice none 0 0, .slice none 0 0] 42) ∧ LGt w2 (.slice P0 qs.length P1) (.slice C0 g.crss.length C1) (.slice S0 g.book.stocks.length S1) (.slice L0 g.book.lines.length L1) (.slice D0 g.dffs.length D1) (.slice O0 g.outs.length O1) g b f β bc bs bl bd bo) := ⟨H1.out.1.trans (hb.mono H1.out.1.size), hx, hLG⟩
      have HGE : Hid (∀ k, blkG g b β bc bs bl bd bo k → w.heap.size + 2 ≤ k) := fun k hk => Nat.le_trans H1.out.2.2.2.2 (hge k hk)
      obtain ⟨r0, r1, r2, r3, r4, r5, r6, r7⟩ := bx8 hx
      have fr := fz8 hx
      clear hx hb hO hLG hge x0 x1 x2 x3 x4 x5 x6 x7
      go_wp2
      obtain ⟨f0, f1, f2, f3, f4, f5, f6, f7⟩ := bx8 (st8a (y0 := (.string g.name)) (y1 := (.int .i64 g.day)) (y2 := (.slice P0 qs.length P1)) (y3 := (.slice C0 g.crss.length C1)) (y4 := (.slice S0 g.book.stocks.length S1)) (y5 := (.slice L0 g.book.lines.length L1)) (y6 := (.slice D0 g.dffs.length D1)) (y7 := (.slice O0 g.outs.length O1)) H2.out.2.1)
      have stp : ∀ (W : World) (j : Nat) (x : Value), (Below w.heap.size w W ∧ LGt W (.slice P0 qs.length P1) (.slice C0 g.crss.length C1) (.slice S0 g.book.stocks.length S1) (.slice L0 g.book.lines.length L1) (.slice D0 g.dffs.length D1) (.slice O0 g.outs.length O1) g b f β bc bs bl bd bo) → (Below w.heap.size w (W.setCell ⟨w.heap.size + 1, j, none⟩ x) ∧ LGt (W.setCell ⟨w.heap.size + 1, j, none⟩ x) (.slice P0 qs.length P1) (.slice C0 g.crss.length C1) (.slice S0 g.book.stocks.length S1) (.slice L0 g.book.lines.length L1) (.slice D0 g.dffs.length D1) (.slice O0 g.outs.length O1) g b f β bc bs bl bd bo) := fun W j x ⟨m1, m2⟩ => ⟨m1.setCell (Nat.le_succ _) x, m2.of_blocks fun k hk => setNe x (by have := HGE.out k hk; omega)⟩
      have hE := stp _ 7 (.slice O0 g.outs.length O1) (stp _ 6 (.slice D0 g.dffs.length D1) (stp _ 5 (.slice L0 g.book.lines.length L1) (stp _ 4 (.slice S0 g.book.stocks.length S1) (stp _ 3 (.slice C0 g.crss.length C1) (stp _ 2 (.slice P0 qs.length P1) (stp _ 1 (.int .i64 g.day) (stp _ 0 (.string g.name) (⟨H2.out.1, H2.out.2.2⟩))))))))
      refine bodyPost_ret (v := .agg #[.string g.name, .int .i64 g.day, (.slice P0 qs.length P1), (.slice C0 g.crss.length C1), (.slice S0 g.book.stocks.length S1), (.slice L0 g.book.lines.length L1), (.slice D0 g.dffs.length D1), (.slice O0 g.outs.length O1)]) (by simp [results, Tryz.results21, go_sem, f0, f1, f2, f3, f4, f5, f6, f7]) rfl ?_
      rw [HN.out]
      exact ⟨_, _, _, _, _, _, b, f, β, bc, bs, bl, bd, bo, rfl, hE.2, fun k hk => by have := HGE.out k hk; omega, hE.1⟩
    case true =>
      have hdt : (g.day == 100000) = true := beq_iff_eq.2 (hno.resolve_left (by decide))
      clear hno
      go_wp2_with fail
      refine (QC.out _ H1.out.2.1).mono ?_
      rintro e w2 ⟨P0, P1, C0, C1, S0, S1, L0, L1, D0, D1, O0, O1, qs, bc, bs, bl, bd, bo, rfl, hO, hb⟩
      obtain ⟨b, f, β, hLG, hge⟩ := HD.out w2 hb P0 P1 C0 C1 S0 S1 L0 L1 D0 D1 O0 O1 qs bc bs bl bd bo hO
      clear hdt
      have hx := (hb.block _ (Array.getElem?_eq_some_iff.1 H1.out.2.2.2.1).1).trans H1.out.2.2.2.1
      have H2 : Hid (Below w.heap.size w w2 ∧ w2.heap[w.heap.size + 1]? = some (.cells #[.string ⟨#[]⟩, .int .i64 0, .slice none 0 0, .slice none 0 0, .slice none 0 0, .slice none 0 0, .slice none 0 0, .slice none 0 0] 42) ∧ LGt w2 (.slice P0 qs.length P1) (.slice C0 g.crss.length C1) (.slice S0 g.book.stocks.length S1) (.slice L0 g.book.lines.length L1) (.slice D0 g.dffs.length D1) (.slice O0 g.outs.length O1) g b f β bc bs bl bd bo) := ⟨H1.out.1.trans (hb.mono H1.out.1.size), hx, hLG⟩
      have HGE : Hid (∀ k, blkG g b β bc bs bl bd bo k → w.heap.size + 2 ≤ k) := fun k hk => Nat.le_trans H1.out.2.2.2.2 (hge k hk)
      obtain ⟨r0, r1, r2, r3, r4, r5, r6, r7⟩ := bx8 hx
      have fr := fz8 hx
      clear hx hb hO hLG hge x0 x1 x2 x3 x4 x5 x6 x7
      go_wp2
      obtain ⟨f0, f1, f2, f3, f4, f5, f6, f7⟩ := bx8 (st8a (y0 := (.string g.name)) (y1 := (.int .i64 g.day)) (y2 := (.slice P0 qs.length P1)) (y3 := (.slice C0 g.crss.length C1)) (y4 := (.slice S0 g.book.stocks.length S1)) (y5 := (.slice L0 g.book.lines.length L1)) (y6 := (.slice D0 g.dffs.length D1)) (y7 := (.slice O0 g.outs.length O1)) H2.out.2.1)
      have stp : ∀ (W : World) (j : Nat) (x : Value), (Below w.heap.size w W ∧ LGt W (.slice P0 qs.length P1) (.slice C0 g.crss.length C1) (.slice S0 g.book.stocks.length S1) (.slice L0 g.book.lines.length L1) (.slice D0 g.dffs.length D1) (.slice O0 g.outs.length O1) g b f β bc bs bl bd bo) → (Below w.heap.size w (W.setCell ⟨w.heap.size + 1, j, none⟩ x) ∧ LGt (W.setCell ⟨w.heap.size + 1, j, none⟩ x) (.slice P0 qs.length P1) (.slice C0 g.crss.length C1) (.slice S0 g.book.stocks.length S1) (.slice L0 g.book.lines.length L1) (.slice D0 g.dffs.length D1) (.slice O0 g.outs.length O1) g b f β bc bs bl bd bo) := fun W j x ⟨m1, m2⟩ => ⟨m1.setCell (Nat.le_succ _) x, m2.of_blocks fun k hk => setNe x (by have := HGE.out k hk; omega)⟩
      have hE := stp _ 7 (.slice O0 g.outs.length O1) (stp _ 6 (.slice D0 g.dffs.length D1) (stp _ 5 (.slice L0 g.book.lines.length L1) (stp _ 4 (.slice S0 g.book.stocks.length S1) (stp _ 3 (.slice C0 g.crss.length C1) (stp _ 2 (.slice P0 qs.length P1) (stp _ 1 (.int .i64 g.day) (stp _ 0 (.string g.name) (⟨H2.out.1, H2.out.2.2⟩))))))))
      refine bodyPost_ret (v := .agg #[.string g.name, .int .i64 g.day, (.slice P0 qs.length P1), (.slice C0 g.crss.length C1), (.slice S0 g.book.stocks.length S1), (.slice L0 g.book.lines.length L1), (.slice D0 g.dffs.length D1), (.slice O0 g.outs.length O1)]) (by simp [results, Tryz.results21, go_sem, f0, f1, f2, f3, f4, f5, f6, f7]) rfl ?_
      rw [HN.out]
      exact ⟨_, _, _, _, _, _, b, f, β, bc, bs, bl, bd, bo, rfl, hE.2, fun k hk => by have := HGE.out k hk; omega, hE.1⟩
  case neg =>
    obtain ⟨hy1, hd1⟩ := not_or.1 hno
    obtain rfl : y = true := by cases y <;> simp_all
    have hday := gtB_day HY.out.symm
    have hdz : ¬ g.day = 100000 := hd1
    have HN : Hid (nxtG g = nextG g) := nxtG_yes HY.out.symm hd1
    clear hno hy1
    go_wp2_with fail
    refine (keeperOf_any g _ _ _ _ _ _ _ H1.out.2.1 HPP.out).mono ?_
    rintro e w3 ⟨P0, P1, C0, C1, S0, S1, L0, L1, D0, D1, O0, O1, qs, bc, bs, bl, bd, bo, w2, rfl, rfl, hO, hb⟩
    have QT := nextDay_any g P0 P1 C0 C1 S0 S1 L0 L1 D0 D1 O0 O1 qs bo w2 hday hO.ou (bdo HPP.out).2
    obtain ⟨b, f, β, hLG, hge⟩ := lgt_of_ogt hO HPP.out
    have hx := (hb.block _ (Array.getElem?_eq_some_iff.1 H1.out.2.2.2.1).1).trans H1.out.2.2.2.1
    have H2 : Hid (Below w.heap.size w w2 ∧ w2.heap[w.heap.size + 1]? = some (.cells #[.string ⟨#[]⟩, .int .i64 0, .slice none 0 0, .slice none 0 0, .slice none 0 0, .slice none 0 0, .slice none 0 0, .slice none 0 0] 42) ∧ LGt w2 (.slice P0 qs.length P1) (.slice C0 g.crss.length C1) (.slice S0 g.book.stocks.length S1) (.slice L0 g.book.lines.length L1) (.slice D0 g.dffs.length D1) (.slice O0 g.outs.length O1) g b f β bc bs bl bd bo ∧ w.heap.size + 2 ≤ w2.heap.size ∧ ∀ k, blkG g b β bc bs bl bd bo k → w.heap.size + 2 ≤ k) := ⟨H1.out.1.trans (hb.mono H1.out.1.size), hx, hLG, Nat.le_trans H1.out.2.2.2.2 hb.size, fun k hk => Nat.le_trans H1.out.2.2.2.2 (hge k hk)⟩
    clear hO hb hx hLG hge x0 x1 x2 x3 x4 x5 x6 x7 H1
    go_wp2_with fail
    refine QT.mono ?_
    rintro e w4 ⟨i1, j1, d1, rfl, hd, hL, hB⟩
    have hx4 := (hB.block _ (Array.getElem?_eq_some_iff.1 H2.out.2.1).1).trans H2.out.2.1
    have hL4 := H2.out.2.2.1.below hB
    have H4 : Hid (Below w.heap.size w w4 ∧ w4.heap[w.heap.size + 1]? = some (.cells #[.string ⟨#[]⟩, .int .i64 0, .slice none 0 0, .slice none 0 0, .slice none 0 0, .slice none 0 0, .slice none 0 0, .slice none 0 0] 42) ∧ LGt w4 (.slice P0 qs.length P1) (.slice C0 g.crss.length C1) (.slice S0 g.book.stocks.length S1) (.slice L0 g.book.lines.length L1) (.slice D0 g.dffs.length D1) (.slice i1 (tckO g.outs g.day).list.length j1) (nextG g) b f β bc bs bl bd d1) := ⟨H2.out.1.trans (hB.mono H2.out.1.size), hx4, ⟨hL4.nm, hL4.pt, hL4.cs, hL4.st, hL4.ln, hL4.df, hL⟩⟩
    have HGE : Hid (∀ k, blkG (nextG g) b β bc bs bl bd d1 k → w.heap.size + 2 ≤ k) := fun k hk => by
      rcases hk with hk | hk | hk | hk | hk | ⟨rfl, _⟩
      · exact H2.out.2.2.2.2 k (.inl hk)
      · exact H2.out.2.2.2.2 k (.inr (.inl hk))
      · exact H2.out.2.2.2.2 k (.inr (.inr (.inl hk)))
      · exact H2.out.2.2.2.2 k (.inr (.inr (.inr (.inl hk))))
      · exact H2.out.2.2.2.2 k (.inr (.inr (.inr (.inr (.inl hk)))))
      · exact Nat.le_trans H2.out.2.2.2.1 hd
    obtain ⟨r0, r1, r2, r3, r4, r5, r6, r7⟩ := bx8 hx4
    have fr := fz8 hx4
    clear hx4 hL4 hL hB hd QT
    go_wp2
    obtain ⟨f0, f1, f2, f3, f4, f5, f6, f7⟩ := bx8 (st8a (y0 := (.string g.name)) (y1 := (.int .i64 (g.day + 1))) (y2 := (.slice P0 qs.length P1)) (y3 := (.slice C0 g.crss.length C1)) (y4 := (.slice S0 g.book.stocks.length S1)) (y5 := (.slice L0 g.book.lines.length L1)) (y6 := (.slice D0 g.dffs.length D1)) (y7 := (.slice i1 (tckO g.outs g.day).list.length j1)) H4.out.2.1)
    have stp : ∀ (W : World) (j : Nat) (x : Value), (Below w.heap.size w W ∧ LGt W (.slice P0 qs.length P1) (.slice C0 g.crss.length C1) (.slice S0 g.book.stocks.length S1) (.slice L0 g.book.lines.length L1) (.slice D0 g.dffs.length D1) (.slice i1 (tckO g.outs g.day).list.length j1) (nextG g) b f β bc bs bl bd d1) → (Below w.heap.size w (W.setCell ⟨w.heap.size + 1, j, none⟩ x) ∧ LGt (W.setCell ⟨w.heap.size + 1, j, none⟩ x) (.slice P0 qs.length P1) (.slice C0 g.crss.length C1) (.slice S0 g.book.stocks.length S1) (.slice L0 g.book.lines.length L1) (.slice D0 g.dffs.length D1) (.slice i1 (tckO g.outs g.day).list.length j1) (nextG g) b f β bc bs bl bd d1) := fun W j x ⟨m1, m2⟩ => ⟨m1.setCell (Nat.le_succ _) x, m2.of_blocks fun k hk => setNe x (by have := HGE.out k hk; omega)⟩
    have hE := stp _ 7 (.slice i1 (tckO g.outs g.day).list.length j1) (stp _ 6 (.slice D0 g.dffs.length D1) (stp _ 5 (.slice L0 g.book.lines.length L1) (stp _ 4 (.slice S0 g.book.stocks.length S1) (stp _ 3 (.slice C0 g.crss.length C1) (stp _ 2 (.slice P0 qs.length P1) (stp _ 1 (.int .i64 (g.day + 1)) (stp _ 0 (.string g.name) (⟨H4.out.1, H4.out.2.2⟩))))))))
    refine bodyPost_ret (v := .agg #[.string g.name, .int .i64 (g.day + 1), (.slice P0 qs.length P1), (.slice C0 g.crss.length C1), (.slice S0 g.book.stocks.length S1), (.slice L0 g.book.lines.length L1), (.slice D0 g.dffs.length D1), (.slice i1 (tckO g.outs g.day).list.length j1)]) (by simp [results, Tryz.results21, go_sem, f0, f1, f2, f3, f4, f5, f6, f7]) rfl ?_
    rw [HN.out]
    exact ⟨_, _, _, _, _, _, b, f, β, bc, bs, bl, bd, d1, rfl, hE.2, fun k hk => by have := HGE.out k hk; omega, hE.1⟩
set_option maxRecDepth 20000 in
set_option maxHeartbeats 8000000 in
theorem gateNext_spec (g : Gat) (up uc us ul ud uo : Value) (w : World) (h : RGt w up uc us ul ud uo g) (hP : BdGt 1048576 g) :
    Calls Tryz.prog 20 #[.agg #[.string g.name, .int .i64 g.day, up, uc, us, ul, ud, uo]] w fun e w' => AnsGS w (nxtG g) e w' := by
  obtain ⟨a0, c0, a1, c1, a2, c2, a3, c3, a4, c4, a5, c5, rfl, rfl, rfl, rfl, rfl, rfl⟩ := h.val
  obtain ⟨W0, hW0⟩ : ∃ W0, (w.alloc (.cells #[.string g.name, .int .i64 g.day, (.slice a0 g.ptns.length c0), (.slice a1 g.crss.length c1), (.slice a2 g.book.stocks.length c2), (.slice a3 g.book.lines.length c3), (.slice a4 g.dffs.length c4), (.slice a5 g.outs.length c5)] 42)).alloc (.cells #[.string ⟨#[]⟩, .int .i64 0, .slice none 0 0, .slice none 0 0, .slice none 0 0, .slice none 0 0, .slice none 0 0, .slice none 0 0] 42) = W0 := ⟨_, rfl⟩
  have hb0 : Below w.heap.size w W0 := by rw [← hW0]; exact ((Below.refl _ _).alloc (Nat.le_refl _) _).alloc (by simp) _
  obtain ⟨k0, k1⟩ := fl_twoH w (.cells #[.string g.name, .int .i64 g.day, (.slice a0 g.ptns.length c0), (.slice a1 g.crss.length c1), (.slice a2 g.book.stocks.length c2), (.slice a3 g.book.lines.length c3), (.slice a4 g.dffs.length c4), (.slice a5 g.outs.length c5)] 42) (.cells #[.string ⟨#[]⟩, .int .i64 0, .slice none 0 0, .slice none 0 0, .slice none 0 0, .slice none 0 0, .slice none 0 0, .slice none 0 0] 42)
  rw [hW0] at k0 k1
  have hs0 : W0.heap.size = w.heap.size + 2 := by rw [← hW0]; simp
  have H0 : Hid (Below w.heap.size w W0 ∧ RGt W0 (.slice a0 g.ptns.length c0) (.slice a1 g.crss.length c1) (.slice a2 g.book.stocks.length c2) (.slice a3 g.book.lines.length c3) (.slice a4 g.dffs.length c4) (.slice a5 g.outs.length c5) g ∧ W0.heap[w.heap.size]? = some (.cells #[.string g.name, .int .i64 g.day, (.slice a0 g.ptns.length c0), (.slice a1 g.crss.length c1), (.slice a2 g.book.stocks.length c2), (.slice a3 g.book.lines.length c3), (.slice a4 g.dffs.length c4), (.slice a5 g.outs.length c5)] 42) ∧ W0.heap[w.heap.size + 1]? = some (.cells #[.string ⟨#[]⟩, .int .i64 0, .slice none 0 0, .slice none 0 0, .slice none 0 0, .slice none 0 0, .slice none 0 0, .slice none 0 0] 42) ∧ w.heap.size + 2 ≤ W0.heap.size) := ⟨hb0, h.below hb0, k0, k1, by omega⟩
  have HPP : Hid (BdGt 1048576 g) := hP
  clear h hb0 k0 k1 hs0 hP
  go_enter Tryz.func20, Tryz.ntmps20
  go_upto_region 1 with fail
  try rw [hW0]
  clear hW0
  obtain ⟨x0, x1, x2, x3, x4, x5, x6, x7⟩ := bx8 H0.out.2.2.1
  go_wp2_with fail
  refine (l13Copy_any g _ _ _ _ _ _ _ H0.out.2.1 HPP.out).mono ?_
  rintro e w1 ⟨P0, P1, C0, C1, S0, S1, L0, L1, D0, D1, O0, O1, rfl, ⟨K, k0, k1, k2, k3⟩, hb⟩
  have H1 : Hid (Below w.heap.size w w1 ∧ RGt w1 (.slice a0 g.ptns.length c0) (.slice a1 g.crss.length c1) (.slice a2 g.book.stocks.length c2) (.slice a3 g.book.lines.length c3) (.slice a4 g.dffs.length c4) (.slice a5 g.outs.length c5) g ∧ w1.heap[w.heap.size]? = some (.cells #[.string g.name, .int .i64 g.day, (.slice a0 g.ptns.length c0), (.slice a1 g.crss.length c1), (.slice a2 g.book.stocks.length c2), (.slice a3 g.book.lines.length c3), (.slice a4 g.dffs.length c4), (.slice a5 g.outs.length c5)] 42) ∧ w1.heap[w.heap.size + 1]? = some (.cells #[.string ⟨#[]⟩, .int .i64 0, .slice none 0 0, .slice none 0 0, .slice none 0 0, .slice none 0 0, .slice none 0 0, .slice none 0 0] 42) ∧ w.heap.size + 2 ≤ w1.heap.size) := ⟨H0.out.1.trans (hb.mono H0.out.1.size), H0.out.2.1.below hb, (hb.block _ (Array.getElem?_eq_some_iff.1 H0.out.2.2.1).1).trans H0.out.2.2.1, (hb.block _ (Array.getElem?_eq_some_iff.1 H0.out.2.2.2.1).1).trans H0.out.2.2.2.1, Nat.le_trans H0.out.2.2.2.2 hb.size⟩
  have HK : Hid (K w1 ∧ (∀ W W', K W → Below W.heap.size W W' → K W') ∧ (∀ (W : World) (B i : Nat) (x : Value), K W → B < w.heap.size + 2 → K (W.setCell ⟨B, i, none⟩ x)) ∧ ∀ W, K W → RGt W (.slice P0 g.ptns.length P1) (.slice C0 g.crss.length C1) (.slice S0 g.book.stocks.length S1) (.slice L0 g.book.lines.length L1) (.slice D0 g.dffs.length D1) (.slice O0 g.outs.length O1) g) := ⟨k0, k1, fun W B i x h hB => k2 W B i x h (by have := H0.out.2.2.2.2; omega), k3⟩
  clear hb k0 k1 k2 k3 x0 x1 x2 x3 x4 x5 x6 x7 H0
  obtain ⟨W2, hW2⟩ : ∃ W2, w1.alloc (.cells #[.string g.name, .int .i64 g.day, (.slice P0 g.ptns.length P1), (.slice C0 g.crss.length C1), (.slice S0 g.book.stocks.length S1), (.slice L0 g.book.lines.length L1), (.slice D0 g.dffs.length D1), (.slice O0 g.outs.length O1)] 42) = W2 := ⟨_, rfl⟩
  obtain ⟨BX, hBX⟩ : ∃ BX, BX = w1.heap.size := ⟨_, rfl⟩
  have hb : Below w1.heap.size w1 W2 := by rw [← hW2]; exact (Below.refl _ _).alloc (Nat.le_refl _) _
  have hx2 : W2.heap[BX]? = some (.cells #[.string g.name, .int .i64 g.day, (.slice P0 g.ptns.length P1), (.slice C0 g.crss.length C1), (.slice S0 g.book.stocks.length S1), (.slice L0 g.book.lines.length L1), (.slice D0 g.dffs.length D1), (.slice O0 g.outs.length O1)] 42) := by rw [← hW2, hBX]; exact World.alloc_heap_new _ _
  have H2a : Hid (Below w.heap.size w W2 ∧ RGt W2 (.slice a0 g.ptns.length c0) (.slice a1 g.crss.length c1) (.slice a2 g.book.stocks.length c2) (.slice a3 g.book.lines.length c3) (.slice a4 g.dffs.length c4) (.slice a5 g.outs.length c5) g ∧ W2.heap[w.heap.size]? = some (.cells #[.string g.name, .int .i64 g.day, (.slice a0 g.ptns.length c0), (.slice a1 g.crss.length c1), (.slice a2 g.book.stocks.length c2), (.slice a3 g.book.lines.length c3), (.slice a4 g.dffs.length c4), (.slice a5 g.outs.length c5)] 42) ∧ W2.heap[w.heap.size + 1]? = some (.cells #[.string ⟨#[]⟩, .int .i64 0, .slice none 0 0, .slice none 0 0, .slice none 0 0, .slice none 0 0, .slice none 0 0, .slice none 0 0] 42) ∧ w.heap.size + 2 ≤ W2.heap.size) := ⟨H1.out.1.trans (hb.mono H1.out.1.size), H1.out.2.1.below hb, (hb.block _ (Array.getElem?_eq_some_iff.1 H1.out.2.2.1).1).trans H1.out.2.2.1, (hb.block _ (Array.getElem?_eq_some_iff.1 H1.out.2.2.2.1).1).trans H1.out.2.2.2.1, Nat.le_trans H1.out.2.2.2.2 hb.size⟩
  have H2 : Hid (W2.heap[BX]? = some (.cells #[.string g.name, .int .i64 g.day, (.slice P0 g.ptns.length P1), (.slice C0 g.crss.length C1), (.slice S0 g.book.stocks.length S1), (.slice L0 g.book.lines.length L1), (.slice D0 g.dffs.length D1), (.slice O0 g.outs.length O1)] 42) ∧ Below w1.heap.size w1 W2 ∧ w1.heap.size ≤ BX) := ⟨hx2, hb, by omega⟩
  have hBR : w.heap.size + 2 ≤ BX := by rw [hBX]; exact H1.out.2.2.2.2
  go_upto_region 2 with fail
  try rw [hW2]
  try rw [← hBX]
  clear hW2 hBX hx2 hb
  obtain ⟨x0, x1, x2, x3, x4, x5, x6, x7⟩ := bx8 H2a.out.2.2.1
  have Q := fun W h => gateRight_spec g (.slice a0 g.ptns.length c0) (.slice a1 g.crss.length c1) (.slice a2 g.book.stocks.length c2) (.slice a3 g.book.lines.length c3) (.slice a4 g.dffs.length c4) (.slice a5 g.outs.length c5) W h
  obtain ⟨y, hy⟩ : ∃ y, y = gtB g := ⟨_, rfl⟩
  have HY : Hid (y = gtB g) := hy
  rw [← hy] at Q
  clear hy
  go_wp2_with fail
  refine (Q _ H2a.out.2.1).mono ?_
  rintro e w3 ⟨rfl, hb⟩
  have H3 : Hid (Below w.heap.size w w3 ∧ RGt w3 (.slice a0 g.ptns.length c0) (.slice a1 g.crss.length c1) (.slice a2 g.book.stocks.length c2) (.slice a3 g.book.lines.length c3) (.slice a4 g.dffs.length c4) (.slice a5 g.outs.length c5) g ∧ w3.heap[w.heap.size]? = some (.cells #[.string g.name, .int .i64 g.day, (.slice a0 g.ptns.length c0), (.slice a1 g.crss.length c1), (.slice a2 g.book.stocks.length c2), (.slice a3 g.book.lines.length c3), (.slice a4 g.dffs.length c4), (.slice a5 g.outs.length c5)] 42) ∧ w3.heap[w.heap.size + 1]? = some (.cells #[.string ⟨#[]⟩, .int .i64 0, .slice none 0 0, .slice none 0 0, .slice none 0 0, .slice none 0 0, .slice none 0 0, .slice none 0 0] 42) ∧ w.heap.size + 2 ≤ w3.heap.size) := ⟨H2a.out.1.trans (hb.mono H2a.out.1.size), H2a.out.2.1.below hb, (hb.block _ (Array.getElem?_eq_some_iff.1 H2a.out.2.2.1).1).trans H2a.out.2.2.1, (hb.block _ (Array.getElem?_eq_some_iff.1 H2a.out.2.2.2.1).1).trans H2a.out.2.2.2.1, Nat.le_trans H2a.out.2.2.2.2 hb.size⟩
  have H3a : Hid (w3.heap[BX]? = some (.cells #[.string g.name, .int .i64 g.day, (.slice P0 g.ptns.length P1), (.slice C0 g.crss.length C1), (.slice S0 g.book.stocks.length S1), (.slice L0 g.book.lines.length L1), (.slice D0 g.dffs.length D1), (.slice O0 g.outs.length O1)] 42) ∧ Below w1.heap.size w1 w3) := ⟨(hb.block _ (Array.getElem?_eq_some_iff.1 H2.out.1).1).trans H2.out.1, H2.out.2.1.trans (hb.mono H2.out.2.1.size)⟩
  clear hb x0 x1 x2 x3 x4 x5 x6 x7 H2a Q
  obtain ⟨x0, x1, x2, x3, x4, x5, x6, x7⟩ := bx8 H3.out.2.2.1
  obtain ⟨y0, y1, y2, y3, y4, y5, y6, y7⟩ := bx8 H3a.out.1
  obtain ⟨r0, r1, r2, r3, r4, r5, r6, r7⟩ := bx8 H3.out.2.2.2.1
  have fr := fz8 H3.out.2.2.2.1
  have fo := fz8 H3a.out.1
  have hBg := H2.out.2.2
  by_cases hno : y = false ∨ g.day = 100000
  case pos =>
    have HN : Hid (nxtG g = g) := by
      rcases hno with h | h
      · exact nxtG_no (by rw [← HY.out]; exact h)
      · exact nxtG_last h
    have K3 : Hid (K w3) := HK.out.2.1 _ _ HK.out.1 H3a.out.2
    cases y
    case false =>
      clear hno
      go_wp2
      obtain ⟨f0, f1, f2, f3, f4, f5, f6, f7⟩ := bx8 (st8a (y0 := (.string g.name)) (y1 := (.int .i64 g.day)) (y2 := (.slice P0 g.ptns.length P1)) (y3 := (.slice C0 g.crss.length C1)) (y4 := (.slice S0 g.book.stocks.length S1)) (y5 := (.slice L0 g.book.lines.length L1)) (y6 := (.slice D0 g.dffs.length D1)) (y7 := (.slice O0 g.outs.length O1)) H3.out.2.2.2.1)
      have stp : ∀ (W : World) (j : Nat) (x : Value), (Below w.heap.size w W ∧ K W) → (Below w.heap.size w (W.setCell ⟨w.heap.size + 1, j, none⟩ x) ∧ K (W.setCell ⟨w.heap.size + 1, j, none⟩ x)) := fun W j x ⟨m1, m2⟩ => ⟨m1.setCell (Nat.le_succ _) x, HK.out.2.2.1 _ _ _ _ m2 (by omega)⟩
      have hE := stp _ 7 (.slice O0 g.outs.length O1) (stp _ 6 (.slice D0 g.dffs.length D1) (stp _ 5 (.slice L0 g.book.lines.length L1) (stp _ 4 (.slice S0 g.book.stocks.length S1) (stp _ 3 (.slice C0 g.crss.length C1) (stp _ 2 (.slice P0 g.ptns.length P1) (stp _ 1 (.int .i64 g.day) (stp _ 0 (.string g.name) (⟨H3.out.1, K3.out⟩))))))))
      refine bodyPost_ret (v := .agg #[.string g.name, .int .i64 g.day, (.slice P0 g.ptns.length P1), (.slice C0 g.crss.length C1), (.slice S0 g.book.stocks.length S1), (.slice L0 g.book.lines.length L1), (.slice D0 g.dffs.length D1), (.slice O0 g.outs.length O1)]) (by simp [results, Tryz.results20, go_sem, f0, f1, f2, f3, f4, f5, f6, f7]) rfl ?_
      rw [HN.out]
      exact ⟨_, _, _, _, _, _, rfl, HK.out.2.2.2 _ hE.2, hE.1⟩
    case true =>
      have hdt : (g.day == 100000) = true := beq_iff_eq.2 (hno.resolve_left (by decide))
      clear hno
      go_wp2
      obtain ⟨f0, f1, f2, f3, f4, f5, f6, f7⟩ := bx8 (st8a (y0 := (.string g.name)) (y1 := (.int .i64 g.day)) (y2 := (.slice P0 g.ptns.length P1)) (y3 := (.slice C0 g.crss.length C1)) (y4 := (.slice S0 g.book.stocks.length S1)) (y5 := (.slice L0 g.book.lines.length L1)) (y6 := (.slice D0 g.dffs.length D1)) (y7 := (.slice O0 g.outs.length O1)) H3.out.2.2.2.1)
      have stp : ∀ (W : World) (j : Nat) (x : Value), (Below w.heap.size w W ∧ K W) → (Below w.heap.size w (W.setCell ⟨w.heap.size + 1, j, none⟩ x) ∧ K (W.setCell ⟨w.heap.size + 1, j, none⟩ x)) := fun W j x ⟨m1, m2⟩ => ⟨m1.setCell (Nat.le_succ _) x, HK.out.2.2.1 _ _ _ _ m2 (by omega)⟩
      have hE := stp _ 7 (.slice O0 g.outs.length O1) (stp _ 6 (.slice D0 g.dffs.length D1) (stp _ 5 (.slice L0 g.book.lines.length L1) (stp _ 4 (.slice S0 g.book.stocks.length S1) (stp _ 3 (.slice C0 g.crss.length C1) (stp _ 2 (.slice P0 g.ptns.length P1) (stp _ 1 (.int .i64 g.day) (stp _ 0 (.string g.name) (⟨H3.out.1, K3.out⟩))))))))
      refine bodyPost_ret (v := .agg #[.string g.name, .int .i64 g.day, (.slice P0 g.ptns.length P1), (.slice C0 g.crss.length C1), (.slice S0 g.book.stocks.length S1), (.slice L0 g.book.lines.length L1), (.slice D0 g.dffs.length D1), (.slice O0 g.outs.length O1)]) (by simp [results, Tryz.results20, go_sem, f0, f1, f2, f3, f4, f5, f6, f7]) rfl ?_
      rw [HN.out]
      exact ⟨_, _, _, _, _, _, rfl, HK.out.2.2.2 _ hE.2, hE.1⟩
  case neg =>
    obtain ⟨hy1, hd1⟩ := not_or.1 hno
    obtain rfl : y = true := by cases y <;> simp_all
    have hday := gtB_day HY.out.symm
    have hdz : ¬ g.day = 100000 := hd1
    have HN : Hid (nxtG g = nextG g) := nxtG_yes HY.out.symm hd1
    have HDO : Hid (dayO g = tckO g.outs g.day) := dayO_yes HY.out.symm
    have hwr : IntKind.i64.wrap (g.day + 1) = g.day + 1 := by rw [IntKind.wrap_i64]; omega
    clear hno hy1
    have QD : Hid (∀ W, RGt W (.slice a0 g.ptns.length c0) (.slice a1 g.crss.length c1) (.slice a2 g.book.stocks.length c2) (.slice a3 g.book.lines.length c3) (.slice a4 g.dffs.length c4) (.slice a5 g.outs.length c5) g → Calls Tryz.prog 15 #[.agg #[.string g.name, .int .i64 g.day, (.slice a0 g.ptns.length c0), (.slice a1 g.crss.length c1), (.slice a2 g.book.stocks.length c2), (.slice a3 g.book.lines.length c3), (.slice a4 g.dffs.length c4), (.slice a5 g.outs.length c5)]] W fun e w' => AnsI W (tckO g.outs g.day) e w') := fun W hW => by
      have q := gateDay_spec g _ _ _ _ _ _ W hW
      rw [HDO.out] at q
      exact q
    have hfld := fldOo
    have K3 : Hid (K w3) := HK.out.2.1 _ _ HK.out.1 H3a.out.2
    go_wp2_with fail
    refine (QD.out _ H3.out.2.1).mono ?_
    rintro e w4 ⟨u, s, l, d1, d2, d3, rfl, hd4, _, _, hL, hb⟩
    obtain ⟨i1, j1, i2, j2, i3, j3, rfl, rfl, rfl⟩ := hL.row.val
    have H4 : Hid (Below w.heap.size w w4 ∧ w4.heap[w.heap.size]? = some (.cells #[.string g.name, .int .i64 g.day, (.slice a0 g.ptns.length c0), (.slice a1 g.crss.length c1), (.slice a2 g.book.stocks.length c2), (.slice a3 g.book.lines.length c3), (.slice a4 g.dffs.length c4), (.slice a5 g.outs.length c5)] 42) ∧ w4.heap[w.heap.size + 1]? = some (.cells #[.string ⟨#[]⟩, .int .i64 0, .slice none 0 0, .slice none 0 0, .slice none 0 0, .slice none 0 0, .slice none 0 0, .slice none 0 0] 42) ∧ w4.heap[BX]? = some (.cells #[.string g.name, .int .i64 g.day, (.slice P0 g.ptns.length P1), (.slice C0 g.crss.length C1), (.slice S0 g.book.stocks.length S1), (.slice L0 g.book.lines.length L1), (.slice D0 g.dffs.length D1), (.slice O0 g.outs.length O1)] 42) ∧ K w4 ∧ LOu d1 w4 (.slice i1 (tckO g.outs g.day).list.length j1) (tckO g.outs g.day).list ∧ Below w3.heap.size w3 w4) := ⟨H3.out.1.trans (hb.mono H3.out.1.size), (hb.block _ (Array.getElem?_eq_some_iff.1 H3.out.2.2.1).1).trans H3.out.2.2.1, (hb.block _ (Array.getElem?_eq_some_iff.1 H3.out.2.2.2.1).1).trans H3.out.2.2.2.1, (hb.block _ (Array.getElem?_eq_some_iff.1 H3a.out.1).1).trans H3a.out.1, HK.out.2.1 _ _ K3.out hb, hL.li, hb⟩
    have hB3 : BX < w3.heap.size := (Array.getElem?_eq_some_iff.1 H3a.out.1).1
    have HNE : Hid (w.heap.size + 2 ≤ d1 ∧ d1 ≠ BX ∧ w.heap.size + 2 ≤ BX) := ⟨by have := H3.out.2.2.2.2; omega, by omega, hBR⟩
    clear hL hb x0 x1 x2 x3 x4 x5 x6 x7 y0 y1 y2 y3 y4 y5 y6 y7 r0 r1 r2 r3 r4 r5 r6 r7 fr fo
    obtain ⟨x0, x1, x2, x3, x4, x5, x6, x7⟩ := bx8 H4.out.2.1
    obtain ⟨y0, y1, y2, y3, y4, y5, y6, y7⟩ := bx8 H4.out.2.2.2.1
    have fo := fz8 H4.out.2.2.2.1
    obtain ⟨W5, hW5⟩ : ∃ W5, w4.setCell ⟨BX, 7, none⟩ (.slice i1 (tckO g.outs g.day).list.length j1) = W5 := ⟨_, rfl⟩
    have kS : ∀ (W : World) (i : Nat) (x : Value), Below w1.heap.size w1 W → Below w1.heap.size w1 (W.setCell ⟨BX, i, none⟩ x) := fun W i x h => h.setCell hBg x
    have b4 : Below w1.heap.size w1 w4 := H3a.out.2.trans (H4.out.2.2.2.2.2.2.mono H3a.out.2.size)
    have H5 : Hid ((Below w.heap.size w W5 ∧ W5.heap[w.heap.size]? = some (.cells #[.string g.name, .int .i64 g.day, (.slice a0 g.ptns.length c0), (.slice a1 g.crss.length c1), (.slice a2 g.book.stocks.length c2), (.slice a3 g.book.lines.length c3), (.slice a4 g.dffs.length c4), (.slice a5 g.outs.length c5)] 42) ∧ W5.heap[w.heap.size + 1]? = some (.cells #[.string ⟨#[]⟩, .int .i64 0, .slice none 0 0, .slice none 0 0, .slice none 0 0, .slice none 0 0, .slice none 0 0, .slice none 0 0] 42) ∧ W5.heap[BX]? = some (.cells #[.string g.name, .int .i64 g.day, (.slice P0 g.ptns.length P1), (.slice C0 g.crss.length C1), (.slice S0 g.book.stocks.length S1), (.slice L0 g.book.lines.length L1), (.slice D0 g.dffs.length D1), (.slice i1 (tckO g.outs g.day).list.length j1)] 42) ∧ K W5 ∧ LOu d1 W5 (.slice i1 (tckO g.outs g.day).list.length j1) (tckO g.outs g.day).list) ∧ Below w1.heap.size w1 W5) := by
      rw [← hW5]
      have b5 := kS _ 7 (.slice i1 (tckO g.outs g.day).list.length j1) b4
      exact ⟨⟨H4.out.1.setCell (show w.heap.size ≤ BX by have := HNE.out.2.2; omega) _, (setNe _ (by have := HNE.out.2.2; omega)).trans H4.out.2.1, (setNe _ (by have := HNE.out.2.2; omega)).trans H4.out.2.2.1, st8_7 _ H4.out.2.2.2.1, HK.out.2.1 _ _ HK.out.1 b5, H4.out.2.2.2.2.2.1.of_block fun _ => setNe _ HNE.out.2.1⟩, b5⟩
    go_upto_region 5 with fail
    try rw [hW5]
    clear hW5 x0 x1 x2 x3 x4 x5 x6 x7 y0 y1 y2 y3 y4 y5 y6 y7 fo
    obtain ⟨x0, x1, x2, x3, x4, x5, x6, x7⟩ := bx8 H5.out.1.2.1
    obtain ⟨y0, y1, y2, y3, y4, y5, y6, y7⟩ := bx8 H5.out.1.2.2.2.1
    have fo := fz8 H5.out.1.2.2.2.1
    obtain ⟨W6, hW6⟩ : ∃ W6, W5.setCell ⟨BX, 1, none⟩ (.int .i64 (g.day + 1)) = W6 := ⟨_, rfl⟩
    have H6 : Hid (Below w.heap.size w W6 ∧ W6.heap[w.heap.size]? = some (.cells #[.string g.name, .int .i64 g.day, (.slice a0 g.ptns.length c0), (.slice a1 g.crss.length c1), (.slice a2 g.book.stocks.length c2), (.slice a3 g.book.lines.length c3), (.slice a4 g.dffs.length c4), (.slice a5 g.outs.length c5)] 42) ∧ W6.heap[w.heap.size + 1]? = some (.cells #[.string ⟨#[]⟩, .int .i64 0, .slice none 0 0, .slice none 0 0, .slice none 0 0, .slice none 0 0, .slice none 0 0, .slice none 0 0] 42) ∧ W6.heap[BX]? = some (.cells #[.string g.name, .int .i64 (g.day + 1), (.slice P0 g.ptns.length P1), (.slice C0 g.crss.length C1), (.slice S0 g.book.stocks.length S1), (.slice L0 g.book.lines.length L1), (.slice D0 g.dffs.length D1), (.slice i1 (tckO g.outs g.day).list.length j1)] 42) ∧ K W6 ∧ LOu d1 W6 (.slice i1 (tckO g.outs g.day).list.length j1) (tckO g.outs g.day).list) := by
      rw [← hW6]
      have b6 := kS _ 1 (.int .i64 (g.day + 1)) H5.out.2
      exact ⟨H5.out.1.1.setCell (show w.heap.size ≤ BX by have := HNE.out.2.2; omega) _, (setNe _ (by have := HNE.out.2.2; omega)).trans H5.out.1.2.1, (setNe _ (by have := HNE.out.2.2; omega)).trans H5.out.1.2.2.1, st8_1 _ H5.out.1.2.2.2.1, HK.out.2.1 _ _ HK.out.1 b6, H5.out.1.2.2.2.2.2.of_block fun _ => setNe _ HNE.out.2.1⟩
    go_upto_region 6 with fail
    try rw [hW6]
    clear hW6 x0 x1 x2 x3 x4 x5 x6 x7 y0 y1 y2 y3 y4 y5 y6 y7 fo
    obtain ⟨y0, y1, y2, y3, y4, y5, y6, y7⟩ := bx8 H6.out.2.2.2.1
    obtain ⟨r0, r1, r2, r3, r4, r5, r6, r7⟩ := bx8 H6.out.2.2.1
    have fr := fz8 H6.out.2.2.1
    go_wp2
    obtain ⟨f0, f1, f2, f3, f4, f5, f6, f7⟩ := bx8 (st8a (y0 := (.string g.name)) (y1 := (.int .i64 (g.day + 1))) (y2 := (.slice P0 g.ptns.length P1)) (y3 := (.slice C0 g.crss.length C1)) (y4 := (.slice S0 g.book.stocks.length S1)) (y5 := (.slice L0 g.book.lines.length L1)) (y6 := (.slice D0 g.dffs.length D1)) (y7 := (.slice i1 (tckO g.outs g.day).list.length j1)) H6.out.2.2.1)
    have stp : ∀ (W : World) (j : Nat) (x : Value), (Below w.heap.size w W ∧ (K W ∧ LOu d1 W (.slice i1 (tckO g.outs g.day).list.length j1) (tckO g.outs g.day).list)) → (Below w.heap.size w (W.setCell ⟨w.heap.size + 1, j, none⟩ x) ∧ (K (W.setCell ⟨w.heap.size + 1, j, none⟩ x) ∧ LOu d1 (W.setCell ⟨w.heap.size + 1, j, none⟩ x) (.slice i1 (tckO g.outs g.day).list.length j1) (tckO g.outs g.day).list)) := fun W j x ⟨m1, m2⟩ => ⟨m1.setCell (Nat.le_succ _) x, ⟨HK.out.2.2.1 _ _ _ _ m2.1 (by omega), m2.2.of_block fun _ => setNe _ (by have := HNE.out.1; omega)⟩⟩
    have hE := stp _ 7 (.slice i1 (tckO g.outs g.day).list.length j1) (stp _ 6 (.slice D0 g.dffs.length D1) (stp _ 5 (.slice L0 g.book.lines.length L1) (stp _ 4 (.slice S0 g.book.stocks.length S1) (stp _ 3 (.slice C0 g.crss.length C1) (stp _ 2 (.slice P0 g.ptns.length P1) (stp _ 1 (.int .i64 (g.day + 1)) (stp _ 0 (.string g.name) (⟨H6.out.1, H6.out.2.2.2.2⟩))))))))
    refine bodyPost_ret (v := .agg #[.string g.name, .int .i64 (g.day + 1), (.slice P0 g.ptns.length P1), (.slice C0 g.crss.length C1), (.slice S0 g.book.stocks.length S1), (.slice L0 g.book.lines.length L1), (.slice D0 g.dffs.length D1), (.slice i1 (tckO g.outs g.day).list.length j1)]) (by simp [results, Tryz.results20, go_sem, f0, f1, f2, f3, f4, f5, f6, f7]) rfl ?_
    rw [HN.out]
    have hR := HK.out.2.2.2 _ hE.2.1
    exact ⟨_, _, _, _, _, _, rfl, ⟨hR.nm, hR.pt, hR.cs, hR.bk, hR.df, hE.2.2.row⟩, hE.1⟩
end Go.Proofs.YtagajindaipaeaaGreat
