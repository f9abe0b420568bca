/- Texts of ours put together: GtK. -/
import Derived.Test.YtagajindaipaeaaGreatG28
import Derived.Test.YtagajindaipaeaaGreatG29
import Derived.Test.YtagajindaipaeaaGreatG34
import Derived.Test.YtagajindaipaeaaGreatG14
import Derived.Test.YtagajindaipaeaaGreatG40
import Derived.Test.YtagajindaipaeaaGreatG44
import Derived.Test.YtagajindaipaeaaGreatG45
import Derived.Defers
import Derived.Deep.RegionHeld3
namespace Go.Proofs.YtagajindaipaeaaGreat
open Go.ChangeShapes Go.WideShapes Go.ChangeAt Go.RowKit
open Go.MuLone
theorem bx10 {W : World} {b t : Nat} {x0 x1 x2 x3 x4 x5 x6 x7 x8 x9 : Value} (h : W.heap[b]? = some (.cells #[x0, x1, x2, x3, x4, x5, x6, x7, x8, x9] t)) : W.cell? ⟨b, 0, none⟩ = some x0 ∧ W.cell? ⟨b, 1, none⟩ = some x1 ∧ W.cell? ⟨b, 2, none⟩ = some x2 ∧ W.cell? ⟨b, 3, none⟩ = some x3 ∧ W.cell? ⟨b, 4, none⟩ = some x4 ∧ W.cell? ⟨b, 5, none⟩ = some x5 ∧ W.cell? ⟨b, 6, none⟩ = some x6 ∧ W.cell? ⟨b, 7, none⟩ = some x7 ∧ W.cell? ⟨b, 8, none⟩ = some x8 ∧ W.cell? ⟨b, 9, none⟩ = some x9 := by
  refine ⟨?_, ?_, ?_, ?_, ?_, ?_, ?_, ?_, ?_, ?_⟩ <;> simp [World.cell?, h]
theorem st10_0 {W : World} {b t : Nat} {x0 x1 x2 x3 x4 x5 x6 x7 x8 x9 : Value} (y : Value) (h : W.heap[b]? = some (.cells #[x0, x1, x2, x3, x4, x5, x6, x7, x8, x9] t)) : (W.setCell ⟨b, 0, none⟩ y).heap[b]? = some (.cells #[y, x1, x2, x3, x4, x5, x6, x7, x8, x9] t) := by
  simp [World.setCell, Array.getElem?_modify, h]
set_option maxHeartbeats 4000000 in
theorem keeperOf_any (g : Gat) (up uc us ul ud uo : Value) (w : World) (h : RGt w up uc us ul ud uo g) (hP : BdGt 1048576 g) :
    Calls Tryz.prog 41 #[.agg #[.string g.name, .int .i64 g.day, up, uc, us, ul, ud, uo]] w fun e w' => ∃ P0 P1 C0 C1 S0 S1 L0 L1 D0 D1 O0 O1 qs bc bs bl bd bo w2, e = .returned (.pointer (some ⟨w2.heap.size, 0, none⟩)) ∧ w' = w2.alloc (.cells #[.int .i32 0, .int .u32 0, .string g.name, .int .i64 g.day, (.slice P0 qs.length P1), (.slice C0 g.crss.length C1), (.slice S0 g.book.stocks.length S1), (.slice L0 g.book.lines.length L1), (.slice D0 g.dffs.length D1), (.slice O0 g.outs.length O1)] 136) ∧ OGt w.heap.size w2 (.slice P0 qs.length P1) (.slice C0 g.crss.length C1) (.slice S0 g.book.stocks.length S1) (.slice L0 g.book.lines.length L1) (.slice D0 g.dffs.length D1) (.slice O0 g.outs.length O1) g qs bc bs bl bd bo ∧ Below w.heap.size w w2 := by
  obtain ⟨a0, c0, a1, c1, a2, c2, a3, c3, a4, c4, a5, c5, rfl, rfl, rfl, rfl, rfl, rfl⟩ := h.val
  obtain ⟨W0, hW0⟩ : ∃ W0, w.alloc (.cells #[.string g.name, .int .i64 g.day, (.slice a0 g.ptns.length c0), (.slice a1 g.crss.length c1), (.slice a2 g.book.stocks.length c2), (.slice a3 g.book.lines.length c3), (.slice a4 g.dffs.length c4), (.slice a5 g.outs.length c5)] 42) = W0 := ⟨_, rfl⟩
  have hb0 : Below w.heap.size w W0 := by rw [← hW0]; exact (Below.refl _ _).alloc (Nat.le_refl _) _
  have hx0 : W0.heap[w.heap.size]? = some (.cells #[.string g.name, .int .i64 g.day, (.slice a0 g.ptns.length c0), (.slice a1 g.crss.length c1), (.slice a2 g.book.stocks.length c2), (.slice a3 g.book.lines.length c3), (.slice a4 g.dffs.length c4), (.slice a5 g.outs.length c5)] 42) := by rw [← hW0]; exact World.alloc_heap_new _ _
  have H0 : Hid (Below w.heap.size w W0 ∧ RGt W0 (.slice a0 g.ptns.length c0) (.slice a1 g.crss.length c1) (.slice a2 g.book.stocks.length c2) (.slice a3 g.book.lines.length c3) (.slice a4 g.dffs.length c4) (.slice a5 g.outs.length c5) g ∧ W0.heap[w.heap.size]? = some (.cells #[.string g.name, .int .i64 g.day, (.slice a0 g.ptns.length c0), (.slice a1 g.crss.length c1), (.slice a2 g.book.stocks.length c2), (.slice a3 g.book.lines.length c3), (.slice a4 g.dffs.length c4), (.slice a5 g.outs.length c5)] 42) ∧ BdGt 1048576 g) := ⟨hb0, h.below hb0, hx0, hP⟩
  clear h hb0 hx0 hP
  go_enter Tryz.func41, Tryz.ntmps41
  go_upto_region 1 with fail
  try rw [hW0]
  clear hW0
  obtain ⟨x0, x1, x2, x3, x4, x5, x6, x7⟩ := bx8 H0.out.2.2.1
  go_wp2_with fail
  refine (copyGt_any g _ _ _ _ _ _ _ H0.out.2.1 H0.out.2.2.2).mono ?_
  rintro e w2 ⟨P0, P1, C0, C1, S0, S1, L0, L1, D0, D1, O0, O1, qs, bc, bs, bl, bd, bo, rfl, hO, hb⟩
  have H2 : Hid (OGt w.heap.size w2 (.slice P0 qs.length P1) (.slice C0 g.crss.length C1) (.slice S0 g.book.stocks.length S1) (.slice L0 g.book.lines.length L1) (.slice D0 g.dffs.length D1) (.slice O0 g.outs.length O1) g qs bc bs bl bd bo ∧ Below w.heap.size w w2) := ⟨hO.down H0.out.1.size, H0.out.1.trans (hb.mono H0.out.1.size)⟩
  clear hO hb H0 x0 x1 x2 x3 x4 x5 x6 x7
  go_wp2
  go_ret
  exact ⟨_, _, _, _, _, _, _, _, _, _, _, _, _, bc, bs, bl, bd, bo, w2, rfl, rfl, H2.out.1, H2.out.2⟩
set_option maxRecDepth 20000 in
set_option maxHeartbeats 8000000 in
theorem tick_any (g : Gat) (P0 : Option Addr) (P1 : Nat) (C0 : Option Addr) (C1 : Nat) (S0 : Option Addr) (S1 : Nat) (L0 : Option Addr) (L1 : Nat) (D0 : Option Addr) (D1 : Nat) (O0 : Option Addr) (O1 : Nat) (qs : List (Ptn × Value)) (bo : Nat) (w2 : World) (hou : LOu bo w2 (.slice O0 g.outs.length O1) g.outs) (hz : ∀ c ∈ g.outs, c.partner.size ≤ 1048576 ∧ c.text.size ≤ 1048576) :
    Calls Tryz.prog 55 #[.pointer (some ⟨w2.heap.size, 0, none⟩)] (w2.alloc (.cells #[.int .i32 0, .int .u32 0, .string g.name, .int .i64 g.day, (.slice P0 qs.length P1), (.slice C0 g.crss.length C1), (.slice S0 g.book.stocks.length S1), (.slice L0 g.book.lines.length L1), (.slice D0 g.dffs.length D1), (.slice O0 g.outs.length O1)] 136)) fun e w' => AnsI w2 (tckO g.outs g.day) e w' := by
  obtain ⟨W1, hW1⟩ : ∃ W1, (w2.alloc (.cells #[.int .i32 0, .int .u32 0, .string g.name, .int .i64 g.day, (.slice P0 qs.length P1), (.slice C0 g.crss.length C1), (.slice S0 g.book.stocks.length S1), (.slice L0 g.book.lines.length L1), (.slice D0 g.dffs.length D1), (.slice O0 g.outs.length O1)] 136)).alloc (.cells #[.slice none 0 0, .slice none 0 0, .slice none 0 0, .int .i64 0] 54) = W1 := ⟨_, rfl⟩
  obtain ⟨k0, k1⟩ := fl_twoH w2 (.cells #[.int .i32 0, .int .u32 0, .string g.name, .int .i64 g.day, (.slice P0 qs.length P1), (.slice C0 g.crss.length C1), (.slice S0 g.book.stocks.length S1), (.slice L0 g.book.lines.length L1), (.slice D0 g.dffs.length D1), (.slice O0 g.outs.length O1)] 136) (.cells #[.slice none 0 0, .slice none 0 0, .slice none 0 0, .int .i64 0] 54)
  rw [hW1] at k0 k1
  have hb1 : Below w2.heap.size w2 W1 := by rw [← hW1]; exact ((Below.refl _ _).alloc (Nat.le_refl _) _).alloc (by simp) _
  have hs1 : W1.heap.size = w2.heap.size + 2 := by rw [← hW1]; simp
  have H1 : Hid (Below w2.heap.size w2 W1 ∧ W1.heap[w2.heap.size]? = some (.cells #[.int .i32 0, .int .u32 0, .string g.name, .int .i64 g.day, (.slice P0 qs.length P1), (.slice C0 g.crss.length C1), (.slice S0 g.book.stocks.length S1), (.slice L0 g.book.lines.length L1), (.slice D0 g.dffs.length D1), (.slice O0 g.outs.length O1)] 136) ∧ W1.heap[w2.heap.size + 1]? = some (.cells #[.slice none 0 0, .slice none 0 0, .slice none 0 0, .int .i64 0] 54) ∧ LOu bo W1 (.slice O0 g.outs.length O1) g.outs ∧ W1.heap.size = w2.heap.size + 2) := ⟨hb1, k0, k1, hou.below hb1, hs1⟩
  have HN : Hid (g.outs ≠ [] → bo < w2.heap.size) := fun h => hou.lt h
  have HZ : Hid (∀ c ∈ g.outs, c.partner.size ≤ 1048576 ∧ c.text.size ≤ 1048576) := hz
  clear hb1 hs1 hou hz k0 k1
  go_enter_defers Tryz.func55, Tryz.ntmps55
  go_upto_region 1 with fail
  try rw [hW1]
  clear hW1
  obtain ⟨x0, x1, x2, x3, x4, x5, x6, x7, x8, x9⟩ := bx10 H1.out.2.1
  have fz := fz8 H1.out.2.1
  go_upto_region 3 with (first | (go_at_call 89; refine (lock_free muLib ⟨w2.heap.size, 0, none⟩ _ x0 (fz 0)).mono ?_; rintro e w' ⟨rfl, rfl⟩))
  obtain ⟨W2, hW2⟩ : ∃ W2, W1.setCell ⟨w2.heap.size, 0, none⟩ (.int .i32 1) = W2 := ⟨_, rfl⟩
  have H2 : Hid (Below w2.heap.size w2 W2 ∧ W2.heap[w2.heap.size]? = some (.cells #[.int .i32 1, .int .u32 0, .string g.name, .int .i64 g.day, (.slice P0 qs.length P1), (.slice C0 g.crss.length C1), (.slice S0 g.book.stocks.length S1), (.slice L0 g.book.lines.length L1), (.slice D0 g.dffs.length D1), (.slice O0 g.outs.length O1)] 136) ∧ W2.heap[w2.heap.size + 1]? = some (.cells #[.slice none 0 0, .slice none 0 0, .slice none 0 0, .int .i64 0] 54) ∧ LOu bo W2 (.slice O0 g.outs.length O1) g.outs ∧ W2.heap.size = w2.heap.size + 2) := by
    rw [← hW2]
    exact ⟨H1.out.1.setCell (Nat.le_refl _) _, st10_0 _ H1.out.2.1, (setNe _ (by omega)).trans H1.out.2.2.1, H1.out.2.2.2.1.of_block fun hn => setNe _ (by have := HN.out hn; omega), by simpa using H1.out.2.2.2.2⟩
  try rw [hW2]
  clear hW2 x0 x1 x2 x3 x4 x5 x6 x7 x8 x9 fz H1
  have HC : Hid (∀ W, Below W2.heap.size W2 W → W.cell? ⟨w2.heap.size, 3, none⟩ = some (.int .i64 g.day) ∧ W.cell? ⟨w2.heap.size, 9, none⟩ = some (.slice O0 g.outs.length O1)) := fun W hW => by
    obtain ⟨_, _, _, e3, _, _, _, _, _, e9⟩ := bx10 ((hW.block _ (Array.getElem?_eq_some_iff.1 H2.out.2.1).1).trans H2.out.2.1)
    exact ⟨e3, e9⟩
  have HD : Hid (∀ W, Below W2.heap.size W2 W → W.heap[w2.heap.size]? = some (.cells #[.int .i32 1, .int .u32 0, .string g.name, .int .i64 g.day, (.slice P0 qs.length P1), (.slice C0 g.crss.length C1), (.slice S0 g.book.stocks.length S1), (.slice L0 g.book.lines.length L1), (.slice D0 g.dffs.length D1), (.slice O0 g.outs.length O1)] 136) ∧ W.heap[w2.heap.size + 1]? = some (.cells #[.slice none 0 0, .slice none 0 0, .slice none 0 0, .int .i64 0] 54)) := fun W hW => ⟨(hW.block _ (Array.getElem?_eq_some_iff.1 H2.out.2.1).1).trans H2.out.2.1, (hW.block _ (Array.getElem?_eq_some_iff.1 H2.out.2.2.1).1).trans H2.out.2.2.1⟩
  obtain ⟨y3, y9⟩ := HC.out W2 (Below.refl _ _)
  have QT : Hid (∀ W, Below W2.heap.size W2 W → Calls Tryz.prog 105 #[(.slice O0 g.outs.length O1), .int .i64 g.day] W fun e w' => AnsI W (tckO g.outs g.day) e w') := fun W hW => outboxTick_impl _ _ _ _ W (H2.out.2.2.2.1.below hW).row HZ.out
  obtain ⟨p, hp⟩ : ∃ p, p = tckO g.outs g.day := ⟨_, rfl⟩
  rw [← hp] at QT
  have HPP : Hid (p = tckO g.outs g.day) := hp
  clear hp
  go_region_held3 (fun W => W.cell? ⟨w2.heap.size, 3, none⟩ = some (.int .i64 g.day) ∧ W.cell? ⟨w2.heap.size, 9, none⟩ = some (.slice O0 g.outs.length O1)) (go_keep) (first | (go_at_call 105; refine (QT.out _ (by with_reducible first | exact Below.refl _ _ | exact (Below.refl _ _).drew)).mono ?_; rintro e w3 ⟨u, s, l, b1, b2, b3, rfl, h1, h2, h3, hL, hb3⟩; obtain ⟨i1, j1, i2, j2, i3, j3, rfl, rfl, rfl⟩ := hL.row.val; have b3' : Below W2.heap.size W2 w3 := (by with_reducible first | exact hb3 | exact undrewG hb3); obtain ⟨a3, a9⟩ := HC.out w3 b3'; obtain ⟨r0, r1, r2, r3⟩ := bx4 (HD.out w3 b3').2; have fr := fz8 (HD.out w3 b3').2; have H3 : Hid (W2.heap.size ≤ b1 ∧ W2.heap.size ≤ b2 ∧ W2.heap.size ≤ b3 ∧ LOo b1 b2 b3 w3 (.slice i1 p.list.length j1) (.slice i2 p.sent.length j2) (.slice i3 p.lost.length j3) p ∧ Below W2.heap.size W2 w3) := ⟨h1, h2, h3, hL, b3'⟩; clear h1 h2 h3 hL hb3 b3'; try dsimp only))
  rename_i hHeld
  clear hHeld
  have hu := H3.out
  have hD := HD.out w3 hu.2.2.2.2
  obtain ⟨x0, _⟩ := bx10 hD.1
  have fk := fz8 hD.1
  have hz2 := H2.out.2.2.2.2
  have hR4 := st4 (y0 := .slice i1 p.list.length j1) (y1 := .slice i2 p.sent.length j2) (y2 := .slice i3 p.lost.length j3) (y3 := .int .i64 p.code) hD.2
  go_wp2_with fail
  refine leaves_cons (f := 90) (args := #[.pointer (some ⟨w2.heap.size, 0, none⟩)]) (by simp) (by simp [go_sem]) ?_
  have ne : ∀ j, (⟨w2.heap.size + 1, j, none⟩ : Addr) ≠ ⟨w2.heap.size, 0, none⟩ := fun j e => by simp at e
  refine (unlock_deferred muLib ⟨w2.heap.size, 0, none⟩ .returning _ ?_ ?_).mono ?_
  · rw [World.cell?_setCell_other _ _ _ _ (ne 3), World.cell?_setCell_other _ _ _ _ (ne 2), World.cell?_setCell_other _ _ _ _ (ne 1), World.cell?_setCell_other _ _ _ _ (ne 0)]
    exact x0
  · simp [fk]
  rintro e u' w'' ⟨rfl, rfl, rfl⟩
  have hF : ((((((w3.setCell ⟨w2.heap.size + 1, 0, none⟩ (.slice i1 p.list.length j1)).setCell ⟨w2.heap.size + 1, 1, none⟩ (.slice i2 p.sent.length j2)).setCell ⟨w2.heap.size + 1, 2, none⟩ (.slice i3 p.lost.length j3)).setCell ⟨w2.heap.size + 1, 3, none⟩ (.int .i64 p.code)).setCell ⟨w2.heap.size, 0, none⟩ (.int .i32 0))).heap[w2.heap.size + 1]? = some (.cells #[.slice i1 p.list.length j1, .slice i2 p.sent.length j2, .slice i3 p.lost.length j3, .int .i64 p.code] 54) := (setNe _ (by omega)).trans hR4
  obtain ⟨f0, f1, f2, f3⟩ := bx4 hF
  have stp : ∀ (W : World) (B j : Nat) (x : Value), w2.heap.size ≤ B → B < w2.heap.size + 2 → (Below w2.heap.size w2 W ∧ LOo b1 b2 b3 W (.slice i1 p.list.length j1) (.slice i2 p.sent.length j2) (.slice i3 p.lost.length j3) p) → (Below w2.heap.size w2 (W.setCell ⟨B, j, none⟩ x) ∧ LOo b1 b2 b3 (W.setCell ⟨B, j, none⟩ x) (.slice i1 p.list.length j1) (.slice i2 p.sent.length j2) (.slice i3 p.lost.length j3) p) := fun W B j x g1 g2 ⟨m1, m2⟩ => ⟨m1.setCell g1 x, m2.li.of_block fun _ => setNe x (by omega), m2.se.of_block fun _ => setNe x (by omega), m2.lo.of_block fun _ => setNe x (by omega), m2.ne⟩
  have hE := stp _ w2.heap.size 0 (.int .i32 0) (by omega) (by omega) (stp _ (w2.heap.size + 1) 3 (.int .i64 p.code) (by omega) (by omega) (stp _ (w2.heap.size + 1) 2 (.slice i3 p.lost.length j3) (by omega) (by omega) (stp _ (w2.heap.size + 1) 1 (.slice i2 p.sent.length j2) (by omega) (by omega) (stp _ (w2.heap.size + 1) 0 (.slice i1 p.list.length j1) (by omega) (by omega) ⟨H2.out.1.trans (hu.2.2.2.2.mono H2.out.1.size), hu.2.2.2.1⟩))))
  refine ⟨.agg #[.slice i1 p.list.length j1, .slice i2 p.sent.length j2, .slice i3 p.lost.length j3, .int .i64 p.code], by simp [results, Tryz.results55, go_sem, f0, f1, f2, f3], ?_⟩
  obtain rfl : p = tckO g.outs g.day := HPP.out
  exact ⟨_, _, _, b1, b2, b3, rfl, by omega, by omega, by omega, hE.2, hE.1⟩
theorem ansI_mono {w w2 w' : World} {p : OOu} {e : Ending} (h : AnsI w2 p e w') (hb : Below w.heap.size w w2) : AnsI w p e w' := by
  obtain ⟨u, s, l, b1, b2, b3, he, h1, h2, h3, hL, hB⟩ := h
  have := hb.size
  exact ⟨u, s, l, b1, b2, b3, he, by omega, by omega, by omega, hL, hb.trans (hB.mono hb.size)⟩
/-- What GateDay tells. -/
noncomputable def dayO (g : Gat) : OOu := if gtB g = true then tckO g.outs g.day else errO 1
theorem dayO_no {g : Gat} (h : gtB g = false) : dayO g = errO 1 := by simp [dayO, h]
theorem dayO_yes {g : Gat} (h : gtB g = true) : dayO g = tckO g.outs g.day := by simp [dayO, h]
set_option maxHeartbeats 8000000 in
theorem gateDay_impl (g : Gat) (up uc us ul ud uo : Value) (w : World) (h : RGt w up uc us ul ud uo g) (hP : BdGt 1048576 g) :
    Calls Tryz.prog 16 #[.agg #[.string g.name, .int .i64 g.day, up, uc, us, ul, ud, uo]] w fun e w' => AnsI w (dayO g) e w' := by
  obtain ⟨a0, c0, a1, c1, a2, c2, a3, c3, a4, c4, a5, c5, rfl, rfl, rfl, rfl, rfl, rfl⟩ := h.val
  obtain ⟨W0, hW0⟩ : ∃ W0, (w.alloc (.cells #[.string g.name, .int .i64 g.day, (.slice a0 g.ptns.length c0), (.slice a1 g.crss.length c1), (.slice a2 g.book.stocks.length c2), (.slice a3 g.book.lines.length c3), (.slice a4 g.dffs.length c4), (.slice a5 g.outs.length c5)] 42)).alloc (.cells #[.slice none 0 0, .slice none 0 0, .slice none 0 0, .int .i64 0] 54) = W0 := ⟨_, rfl⟩
  have hb0 : Below w.heap.size w W0 := by rw [← hW0]; exact ((Below.refl _ _).alloc (Nat.le_refl _) _).alloc (by simp) _
  obtain ⟨k0, k1⟩ := fl_twoH w (.cells #[.string g.name, .int .i64 g.day, (.slice a0 g.ptns.length c0), (.slice a1 g.crss.length c1), (.slice a2 g.book.stocks.length c2), (.slice a3 g.book.lines.length c3), (.slice a4 g.dffs.length c4), (.slice a5 g.outs.length c5)] 42) (.cells #[.slice none 0 0, .slice none 0 0, .slice none 0 0, .int .i64 0] 54)
  rw [hW0] at k0 k1
  have hs0 : W0.heap.size = w.heap.size + 2 := by rw [← hW0]; simp
  have H0 : Hid (Below w.heap.size w W0 ∧ RGt W0 (.slice a0 g.ptns.length c0) (.slice a1 g.crss.length c1) (.slice a2 g.book.stocks.length c2) (.slice a3 g.book.lines.length c3) (.slice a4 g.dffs.length c4) (.slice a5 g.outs.length c5) g ∧ W0.heap[w.heap.size]? = some (.cells #[.string g.name, .int .i64 g.day, (.slice a0 g.ptns.length c0), (.slice a1 g.crss.length c1), (.slice a2 g.book.stocks.length c2), (.slice a3 g.book.lines.length c3), (.slice a4 g.dffs.length c4), (.slice a5 g.outs.length c5)] 42) ∧ W0.heap[w.heap.size + 1]? = some (.cells #[.slice none 0 0, .slice none 0 0, .slice none 0 0, .int .i64 0] 54) ∧ BdGt 1048576 g ∧ W0.heap.size = w.heap.size + 2) := ⟨hb0, h.below hb0, k0, k1, hP, hs0⟩
  clear h hb0 k0 k1 hP hs0
  have Q := fun W h => gateRight_impl g (.slice a0 g.ptns.length c0) (.slice a1 g.crss.length c1) (.slice a2 g.book.stocks.length c2) (.slice a3 g.book.lines.length c3) (.slice a4 g.dffs.length c4) (.slice a5 g.outs.length c5) W h
  go_enter Tryz.func16, Tryz.ntmps16
  go_upto_region 1 with fail
  try rw [hW0]
  clear hW0
  obtain ⟨x0, x1, x2, x3, x4, x5, x6, x7⟩ := bx8 H0.out.2.2.1
  obtain ⟨y, hy⟩ : ∃ y, y = gtB g := ⟨_, rfl⟩
  have HY : Hid (y = gtB g) := hy
  rw [← hy] at Q
  clear hy
  go_wp2_with fail
  refine (Q _ H0.out.2.1).mono ?_
  rintro e w1 ⟨rfl, hb⟩
  have hsz := hb.size
  have H1 : Hid (Below w.heap.size w w1 ∧ RGt w1 (.slice a0 g.ptns.length c0) (.slice a1 g.crss.length c1) (.slice a2 g.book.stocks.length c2) (.slice a3 g.book.lines.length c3) (.slice a4 g.dffs.length c4) (.slice a5 g.outs.length c5) g ∧ w1.heap[w.heap.size]? = some (.cells #[.string g.name, .int .i64 g.day, (.slice a0 g.ptns.length c0), (.slice a1 g.crss.length c1), (.slice a2 g.book.stocks.length c2), (.slice a3 g.book.lines.length c3), (.slice a4 g.dffs.length c4), (.slice a5 g.outs.length c5)] 42) ∧ w1.heap[w.heap.size + 1]? = some (.cells #[.slice none 0 0, .slice none 0 0, .slice none 0 0, .int .i64 0] 54) ∧ BdGt 1048576 g ∧ w.heap.size + 2 ≤ w1.heap.size) := ⟨H0.out.1.trans (hb.mono H0.out.1.size), H0.out.2.1.below hb, (hb.block _ (Array.getElem?_eq_some_iff.1 H0.out.2.2.1).1).trans H0.out.2.2.1, (hb.block _ (Array.getElem?_eq_some_iff.1 H0.out.2.2.2.1).1).trans H0.out.2.2.2.1, H0.out.2.2.2.2.1, by have := H0.out.2.2.2.2.2; omega⟩
  clear hb hsz x0 x1 x2 x3 x4 x5 x6 x7 H0 Q
  obtain ⟨x0, x1, x2, x3, x4, x5, x6, x7⟩ := bx8 H1.out.2.2.1
  cases y with
  | false =>
    obtain ⟨r0, r1, r2, r3⟩ := bx4 H1.out.2.2.2.1
    have fr := fz8 H1.out.2.2.2.1
    have HD : Hid (dayO g = errO 1) := dayO_no HY.out.symm
    go_wp2
    have hR4 := st4 (y0 := .slice none 0 0) (y1 := .slice none 0 0) (y2 := .slice none 0 0) (y3 := .int .i64 1) H1.out.2.2.2.1
    obtain ⟨f0, f1, f2, f3⟩ := bx4 hR4
    refine bodyPost_ret (v := .agg #[.slice none 0 0, .slice none 0 0, .slice none 0 0, .int .i64 1]) (by simp [results, Tryz.results16, go_sem, f0, f1, f2, f3]) rfl ?_
    rw [HD.out]
    exact ansI_err 1 ((((H1.out.1.setCell (Nat.le_succ _) _).setCell (Nat.le_succ _) _).setCell (Nat.le_succ _) _).setCell (Nat.le_succ _) _)
  | true =>
    go_wp2_with fail
    refine (keeperOf_any g _ _ _ _ _ _ _ H1.out.2.1 H1.out.2.2.2.2.1).mono ?_
    rintro e w3 ⟨P0, P1, C0, C1, S0, S1, L0, L1, D0, D1, O0, O1, qs, bc, bs, bl, bd, bo, w2, rfl, rfl, hO, hb⟩
    have QT := tick_any g P0 P1 C0 C1 S0 S1 L0 L1 D0 D1 O0 O1 qs bo w2 hO.ou (bdo H1.out.2.2.2.2.1).2
    have HD : Hid (dayO g = tckO g.outs g.day) := dayO_yes HY.out.symm
    have H2 : Hid (Below w.heap.size w w2 ∧ w2.heap[w.heap.size + 1]? = some (.cells #[.slice none 0 0, .slice none 0 0, .slice none 0 0, .int .i64 0] 54) ∧ w.heap.size + 2 ≤ w2.heap.size) := ⟨H1.out.1.trans (hb.mono H1.out.1.size), (hb.block _ (Array.getElem?_eq_some_iff.1 H1.out.2.2.2.1).1).trans H1.out.2.2.2.1, Nat.le_trans H1.out.2.2.2.2.2 hb.size⟩
    clear hO hb x0 x1 x2 x3 x4 x5 x6 x7 H1
    rw [← HD.out] at QT
    go_wp2_with fail
    refine QT.mono ?_
    rintro e w4 ⟨u, s, l, b1, b2, b3, rfl, h1, h2, h3, hL, hB⟩
    obtain ⟨i1, j1, i2, j2, i3, j3, rfl, rfl, rfl⟩ := hL.row.val
    have hx := (hB.block _ (Array.getElem?_eq_some_iff.1 H2.out.2.1).1).trans H2.out.2.1
    have H4 : Hid (Below w.heap.size w w4 ∧ w4.heap[w.heap.size + 1]? = some (.cells #[.slice none 0 0, .slice none 0 0, .slice none 0 0, .int .i64 0] 54) ∧ w.heap.size + 2 ≤ b1 ∧ w.heap.size + 2 ≤ b2 ∧ w.heap.size + 2 ≤ b3 ∧ LOo b1 b2 b3 w4 (.slice i1 (dayO g).list.length j1) (.slice i2 (dayO g).sent.length j2) (.slice i3 (dayO g).lost.length j3) (dayO g)) := ⟨H2.out.1.trans (hB.mono H2.out.1.size), hx, by have := H2.out.2.2; omega, by have := H2.out.2.2; omega, by have := H2.out.2.2; omega, hL⟩
    obtain ⟨r0, r1, r2, r3⟩ := bx4 hx
    have fr := fz8 hx
    clear hL hB hx h1 h2 h3 QT
    go_wp2
    obtain ⟨f0, f1, f2, f3⟩ := bx4 (st4 (y0 := .slice i1 (dayO g).list.length j1) (y1 := .slice i2 (dayO g).sent.length j2) (y2 := .slice i3 (dayO g).lost.length j3) (y3 := .int .i64 (dayO g).code) H4.out.2.1)
    have k1 := H4.out.2.2.1
    have k2 := H4.out.2.2.2.1
    have k3 := H4.out.2.2.2.2.1
    have stp : ∀ (W : World) (j : Nat) (x : Value), (Below w.heap.size w W ∧ LOo b1 b2 b3 W (.slice i1 (dayO g).list.length j1) (.slice i2 (dayO g).sent.length j2) (.slice i3 (dayO g).lost.length j3) (dayO g)) → (Below w.heap.size w (W.setCell ⟨w.heap.size + 1, j, none⟩ x) ∧ LOo b1 b2 b3 (W.setCell ⟨w.heap.size + 1, j, none⟩ x) (.slice i1 (dayO g).list.length j1) (.slice i2 (dayO g).sent.length j2) (.slice i3 (dayO g).lost.length j3) (dayO g)) := fun W j x ⟨m1, m2⟩ => ⟨m1.setCell (Nat.le_succ _) x, m2.li.of_block fun _ => setNe x (by omega), m2.se.of_block fun _ => setNe x (by omega), m2.lo.of_block fun _ => setNe x (by omega), m2.ne⟩
    have hE := stp _ 3 (.int .i64 (dayO g).code) (stp _ 2 (.slice i3 (dayO g).lost.length j3) (stp _ 1 (.slice i2 (dayO g).sent.length j2) (stp _ 0 (.slice i1 (dayO g).list.length j1) ⟨H4.out.1, H4.out.2.2.2.2.2⟩)))
    refine bodyPost_ret (v := .agg #[.slice i1 (dayO g).list.length j1, .slice i2 (dayO g).sent.length j2, .slice i3 (dayO g).lost.length j3, .int .i64 (dayO g).code]) (by simp [results, Tryz.results16, go_sem, f0, f1, f2, f3]) rfl ?_
    exact ⟨_, _, _, b1, b2, b3, rfl, by omega, by omega, by omega, hE.2, hE.1⟩
set_option maxHeartbeats 8000000 in
theorem gateDay_spec (g : Gat) (up uc us ul ud uo : Value) (w : World) (h : RGt w up uc us ul ud uo g) :
    Calls Tryz.prog 15 #[.agg #[.string g.name, .int .i64 g.day, up, uc, us, ul, ud, uo]] w fun e w' => AnsI w (dayO g) e w' := by
  obtain ⟨a0, c0, a1, c1, a2, c2, a3, c3, a4, c4, a5, c5, rfl, rfl, rfl, rfl, rfl, rfl⟩ := h.val
  obtain ⟨W0, hW0⟩ : ∃ W0, (w.alloc (.cells #[.string g.name, .int .i64 g.day, (.slice a0 g.ptns.length c0), (.slice a1 g.crss.length c1), (.slice a2 g.book.stocks.length c2), (.slice a3 g.book.lines.length c3), (.slice a4 g.dffs.length c4), (.slice a5 g.outs.length c5)] 42)).alloc (.cells #[.slice none 0 0, .slice none 0 0, .slice none 0 0, .int .i64 0] 54) = W0 := ⟨_, rfl⟩
  have hb0 : Below w.heap.size w W0 := by rw [← hW0]; exact ((Below.refl _ _).alloc (Nat.le_refl _) _).alloc (by simp) _
  obtain ⟨k0, k1⟩ := fl_twoH w (.cells #[.string g.name, .int .i64 g.day, (.slice a0 g.ptns.length c0), (.slice a1 g.crss.length c1), (.slice a2 g.book.stocks.length c2), (.slice a3 g.book.lines.length c3), (.slice a4 g.dffs.length c4), (.slice a5 g.outs.length c5)] 42) (.cells #[.slice none 0 0, .slice none 0 0, .slice none 0 0, .int .i64 0] 54)
  rw [hW0] at k0 k1
  have hs0 : W0.heap.size = w.heap.size + 2 := by rw [← hW0]; simp
  have H0 : Hid (Below w.heap.size w W0 ∧ RGt W0 (.slice a0 g.ptns.length c0) (.slice a1 g.crss.length c1) (.slice a2 g.book.stocks.length c2) (.slice a3 g.book.lines.length c3) (.slice a4 g.dffs.length c4) (.slice a5 g.outs.length c5) g ∧ W0.heap[w.heap.size]? = some (.cells #[.string g.name, .int .i64 g.day, (.slice a0 g.ptns.length c0), (.slice a1 g.crss.length c1), (.slice a2 g.book.stocks.length c2), (.slice a3 g.book.lines.length c3), (.slice a4 g.dffs.length c4), (.slice a5 g.outs.length c5)] 42) ∧ W0.heap[w.heap.size + 1]? = some (.cells #[.slice none 0 0, .slice none 0 0, .slice none 0 0, .int .i64 0] 54) ∧ W0.heap.size = w.heap.size + 2) := ⟨hb0, h.below hb0, k0, k1, hs0⟩
  clear h hb0 k0 k1 hs0
  have Q := fun W h => gateRight_spec g (.slice a0 g.ptns.length c0) (.slice a1 g.crss.length c1) (.slice a2 g.book.stocks.length c2) (.slice a3 g.book.lines.length c3) (.slice a4 g.dffs.length c4) (.slice a5 g.outs.length c5) W h
  go_enter Tryz.func15, Tryz.ntmps15
  go_upto_region 1 with fail
  try rw [hW0]
  clear hW0
  obtain ⟨x0, x1, x2, x3, x4, x5, x6, x7⟩ := bx8 H0.out.2.2.1
  obtain ⟨y, hy⟩ : ∃ y, y = gtB g := ⟨_, rfl⟩
  have HY : Hid (y = gtB g) := hy
  rw [← hy] at Q
  clear hy
  go_wp2_with fail
  refine (Q _ H0.out.2.1).mono ?_
  rintro e w1 ⟨rfl, hb⟩
  have hsz := hb.size
  have H1 : Hid (Below w.heap.size w w1 ∧ RGt w1 (.slice a0 g.ptns.length c0) (.slice a1 g.crss.length c1) (.slice a2 g.book.stocks.length c2) (.slice a3 g.book.lines.length c3) (.slice a4 g.dffs.length c4) (.slice a5 g.outs.length c5) g ∧ w1.heap[w.heap.size]? = some (.cells #[.string g.name, .int .i64 g.day, (.slice a0 g.ptns.length c0), (.slice a1 g.crss.length c1), (.slice a2 g.book.stocks.length c2), (.slice a3 g.book.lines.length c3), (.slice a4 g.dffs.length c4), (.slice a5 g.outs.length c5)] 42) ∧ w1.heap[w.heap.size + 1]? = some (.cells #[.slice none 0 0, .slice none 0 0, .slice none 0 0, .int .i64 0] 54) ∧ w.heap.size + 2 ≤ w1.heap.size) := ⟨H0.out.1.trans (hb.mono H0.out.1.size), H0.out.2.1.below hb, (hb.block _ (Array.getElem?_eq_some_iff.1 H0.out.2.2.1).1).trans H0.out.2.2.1, (hb.block _ (Array.getElem?_eq_some_iff.1 H0.out.2.2.2.1).1).trans H0.out.2.2.2.1, by have := H0.out.2.2.2.2; omega⟩
  clear hb hsz x0 x1 x2 x3 x4 x5 x6 x7 H0 Q
  obtain ⟨x0, x1, x2, x3, x4, x5, x6, x7⟩ := bx8 H1.out.2.2.1
  cases y with
  | false =>
    have HD : Hid (dayO g = errO 1) := dayO_no HY.out.symm
    go_wp2_with fail
    refine (wrong_any 1 _).mono ?_
    rintro e w2 ⟨rfl, hb⟩
    have hx := (hb.block _ (Array.getElem?_eq_some_iff.1 H1.out.2.2.2.1).1).trans H1.out.2.2.2.1
    have H2 : Hid (Below w.heap.size w w2 ∧ w2.heap[w.heap.size + 1]? = some (.cells #[.slice none 0 0, .slice none 0 0, .slice none 0 0, .int .i64 0] 54)) := ⟨H1.out.1.trans (hb.mono H1.out.1.size), hx⟩
    obtain ⟨r0, r1, r2, r3⟩ := bx4 hx
    have fr := fz8 hx
    clear hb hx x0 x1 x2 x3 x4 x5 x6 x7 H1
    go_wp2
    obtain ⟨f0, f1, f2, f3⟩ := bx4 (st4 (y0 := .slice none 0 0) (y1 := .slice none 0 0) (y2 := .slice none 0 0) (y3 := .int .i64 1) H2.out.2)
    refine bodyPost_ret (v := .agg #[.slice none 0 0, .slice none 0 0, .slice none 0 0, .int .i64 1]) (by simp [results, Tryz.results15, go_sem, f0, f1, f2, f3]) rfl ?_
    rw [HD.out]
    exact ansI_err 1 ((((H2.out.1.setCell (Nat.le_succ _) _).setCell (Nat.le_succ _) _).setCell (Nat.le_succ _) _).setCell (Nat.le_succ _) _)
  | true =>
    have QT := fun W h => outboxTick_specI (.slice a5 g.outs.length c5) g.outs g.day W h
    have HD : Hid (dayO g = tckO g.outs g.day) := dayO_yes HY.out.symm
    rw [← HD.out] at QT
    go_wp2_with fail
    refine (QT _ H1.out.2.1.ou).mono ?_
    rintro e w4 ⟨u, s, l, b1, b2, b3, rfl, h1, h2, h3, hL, hB⟩
    obtain ⟨i1, j1, i2, j2, i3, j3, rfl, rfl, rfl⟩ := hL.row.val
    have hx := (hB.block _ (Array.getElem?_eq_some_iff.1 H1.out.2.2.2.1).1).trans H1.out.2.2.2.1
    have H4 : Hid (Below w.heap.size w w4 ∧ w4.heap[w.heap.size + 1]? = some (.cells #[.slice none 0 0, .slice none 0 0, .slice none 0 0, .int .i64 0] 54) ∧ w.heap.size + 2 ≤ b1 ∧ w.heap.size + 2 ≤ b2 ∧ w.heap.size + 2 ≤ b3 ∧ LOo b1 b2 b3 w4 (.slice i1 (dayO g).list.length j1) (.slice i2 (dayO g).sent.length j2) (.slice i3 (dayO g).lost.length j3) (dayO g)) := ⟨H1.out.1.trans (hB.mono H1.out.1.size), hx, by have := H1.out.2.2.2.2; omega, by have := H1.out.2.2.2.2; omega, by have := H1.out.2.2.2.2; omega, hL⟩
    obtain ⟨r0, r1, r2, r3⟩ := bx4 hx
    have fr := fz8 hx
    clear hL hB hx h1 h2 h3 QT x0 x1 x2 x3 x4 x5 x6 x7 H1
    go_wp2
    obtain ⟨f0, f1, f2, f3⟩ := bx4 (st4 (y0 := .slice i1 (dayO g).list.length j1) (y1 := .slice i2 (dayO g).sent.length j2) (y2 := .slice i3 (dayO g).lost.length j3) (y3 := .int .i64 (dayO g).code) H4.out.2.1)
    have k1 := H4.out.2.2.1
    have k2 := H4.out.2.2.2.1
    have k3 := H4.out.2.2.2.2.1
    have stp : ∀ (W : World) (j : Nat) (x : Value), (Below w.heap.size w W ∧ LOo b1 b2 b3 W (.slice i1 (dayO g).list.length j1) (.slice i2 (dayO g).sent.length j2) (.slice i3 (dayO g).lost.length j3) (dayO g)) → (Below w.heap.size w (W.setCell ⟨w.heap.size + 1, j, none⟩ x) ∧ LOo b1 b2 b3 (W.setCell ⟨w.heap.size + 1, j, none⟩ x) (.slice i1 (dayO g).list.length j1) (.slice i2 (dayO g).sent.length j2) (.slice i3 (dayO g).lost.length j3) (dayO g)) := fun W j x ⟨m1, m2⟩ => ⟨m1.setCell (Nat.le_succ _) x, m2.li.of_block fun _ => setNe x (by omega), m2.se.of_block fun _ => setNe x (by omega), m2.lo.of_block fun _ => setNe x (by omega), m2.ne⟩
    have hE := stp _ 3 (.int .i64 (dayO g).code) (stp _ 2 (.slice i3 (dayO g).lost.length j3) (stp _ 1 (.slice i2 (dayO g).sent.length j2) (stp _ 0 (.slice i1 (dayO g).list.length j1) ⟨H4.out.1, H4.out.2.2.2.2.2⟩)))
    refine bodyPost_ret (v := .agg #[.slice i1 (dayO g).list.length j1, .slice i2 (dayO g).sent.length j2, .slice i3 (dayO g).lost.length j3, .int .i64 (dayO g).code]) (by simp [results, Tryz.results15, go_sem, f0, f1, f2, f3]) rfl ?_
    exact ⟨_, _, _, b1, b2, b3, rfl, by omega, by omega, by omega, hE.2, hE.1⟩
end Go.Proofs.YtagajindaipaeaaGreat
