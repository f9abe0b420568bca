/- Texts of ours put together: Adm. -/
import Derived.Test.YtkgkahlhekecmaaGreatG29
import Derived.Test.YtkgkahlhekecmaaGreatG30
import Derived.Defers
import Derived.Deep.RegionHeld3
import Derived.Deep.RegionLaw
namespace Go.Proofs.YtkgkahlhekecmaaGreat
open Go.ChangeShapes Go.WideShapes Go.ChangeAt Go.RowKit
open Go.MuLone
theorem st14 {W : World} {b t : Nat} {x0 x1 x2 x3 x4 x5 x6 x7 x8 x9 x10 x11 x12 x13 y0 y1 y2 y3 y4 y5 y6 y7 y8 y9 y10 y11 y12 y13 : Value} (h : W.heap[b]? = some (.cells #[x0, x1, x2, x3, x4, x5, x6, x7, x8, x9, x10, x11, x12, x13] t)) : ((((((((((((((W.setCell ⟨b, 0, none⟩ y0).setCell ⟨b, 1, none⟩ y1).setCell ⟨b, 2, none⟩ y2).setCell ⟨b, 3, none⟩ y3).setCell ⟨b, 4, none⟩ y4).setCell ⟨b, 5, none⟩ y5).setCell ⟨b, 6, none⟩ y6).setCell ⟨b, 7, none⟩ y7).setCell ⟨b, 8, none⟩ y8).setCell ⟨b, 9, none⟩ y9).setCell ⟨b, 10, none⟩ y10).setCell ⟨b, 11, none⟩ y11).setCell ⟨b, 12, none⟩ y12).setCell ⟨b, 13, none⟩ y13).heap[b]? = some (.cells #[y0, y1, y2, y3, y4, y5, y6, y7, y8, y9, y10, y11, y12, y13] t) := by
  simp [World.setCell, Array.getElem?_modify, h]
theorem st14g {W : World} {b t : Nat} {x0 x1 x2 x3 x4 x5 x6 x7 x8 x9 x10 x11 x12 x13 y0 y1 y2 y3 y4 y5 y6 y7 : Value} (h : W.heap[b]? = some (.cells #[x0, x1, x2, x3, x4, x5, x6, x7, x8, x9, x10, x11, x12, x13] t)) : ((((((((W.setCell ⟨b, 0, none⟩ y0).setCell ⟨b, 1, none⟩ y1).setCell ⟨b, 2, none⟩ y2).setCell ⟨b, 3, none⟩ y3).setCell ⟨b, 4, none⟩ y4).setCell ⟨b, 5, none⟩ y5).setCell ⟨b, 6, none⟩ y6).setCell ⟨b, 7, none⟩ y7).heap[b]? = some (.cells #[y0, y1, y2, y3, y4, y5, y6, y7, x8, x9, x10, x11, x12, x13] t) := by
  simp [World.setCell, Array.getElem?_modify, h]
theorem st10_4 {W : World} {b t : Nat} {x0 x1 x2 x3 x4 x5 x6 x7 x8 x9 : Value} (y : Value) (h : W.heap[b]? = some (.cells #[x0, x1, x2, x3, x4, x5, x6, x7, x8, x9] t)) : (W.setCell ⟨b, 4, none⟩ y).heap[b]? = some (.cells #[x0, x1, x2, x3, y, x5, x6, x7, x8, x9] t) := by
  simp [World.setCell, Array.getElem?_modify, h]
theorem setTy {W : World} {b t : Nat} {cs : Array Value} (j : Nat) (x : Value) (h : W.heap[b]? = some (.cells cs t)) : ∃ cs', (W.setCell ⟨b, j, none⟩ x).heap[b]? = some (.cells cs' t) := by
  simp [World.setCell, Array.getElem?_modify, h]
theorem own_neB {W : World} {base e s n B T : Nat} {v : Value} {xs : List Value} {cs : Array Value} (h : W.ownsRow base e s v n xs) (hB : W.heap[B]? = some (.cells cs T)) (hne : e ≠ T) : v.ownBlock ≠ some B := by
  rcases h.2 with ⟨rfl, _⟩ | ⟨g, cap, cur, rfl, _, hg, _⟩
  · simp [Value.ownBlock]
  · simp only [Value.ownBlock, ne_eq, Option.some.injEq]
    intro e
    subst e
    rw [hg] at hB
    simp at hB
    exact hne hB.2
theorem OwnP.set {base B T : Nat} {W : World} {v : Value} {qs : List (Ptn × Value)} {cs : Array Value} (h : OwnP base W v qs) (hB : W.heap[B]? = some (.cells cs T)) (h1 : 63 ≠ T) (h2 : 148 ≠ T) (i : Nat) (x : Value) : OwnP base (W.setCell ⟨B, i, none⟩ x) v qs :=
  ⟨own_set h.row (own_neB h.row hB h1) i x, fun q hq => own_set (h.sn q hq) (own_neB (h.sn q hq) hB h2) i x, h.ap⟩
/-- The gate's new partners, and all else as it was. -/
structure InvA (base : Nat) (w2 : World) (ob : Option Nat) (v : Value) (L : List (Ptn × Value)) (W : World) : Prop where
  ow : OwnP base W v L
  gr : w2.grownBy W ob
  ke : ∃ cs, W.heap[w2.heap.size]? = some (.cells cs 123)
  bo : ∃ cs, W.heap[w2.heap.size + 1]? = some (.cells cs 44)
theorem InvA.set {base : Nat} {w2 : World} {ob : Option Nat} {v : Value} {L : List (Ptn × Value)} {W : World} {B : Nat} (hB : B = w2.heap.size ∨ B = w2.heap.size + 1) (j : Nat) (x : Value) (h : InvA base w2 ob v L W) : InvA base w2 ob v L (W.setCell ⟨B, j, none⟩ x) := by
  have hge : w2.heap.size ≤ B := by omega
  have hgr : w2.grownBy (W.setCell ⟨B, j, none⟩ x) ob := ⟨h.gr.os, h.gr.tape, h.gr.output, by simpa using h.gr.size, fun k hk hne => (setNe x (by omega)).trans (h.gr.block k hk hne)⟩
  obtain ⟨c1, e1⟩ := h.ke
  obtain ⟨c2, e2⟩ := h.bo
  rcases hB with rfl | rfl
  · exact ⟨h.ow.set e1 (by decide) (by decide) j x, hgr, setTy j x e1, ⟨c2, (setNe x (by omega)).trans e2⟩⟩
  · exact ⟨h.ow.set e2 (by decide) (by decide) j x, hgr, ⟨c1, (setNe x (by omega)).trans e1⟩, setTy j x e2⟩
theorem InvA.drew {base : Nat} {w2 : World} {ob : Option Nat} {v : Value} {L : List (Ptn × Value)} {W : World} (h : InvA base w2 ob v L W) : InvA base w2 ob v L W.drew :=
  ⟨⟨h.ow.row, h.ow.sn, h.ow.ap⟩, ⟨h.gr.os, h.gr.tape, h.gr.output, h.gr.size, h.gr.block⟩, h.ke, h.bo⟩
/-- What the keeper's admit leaves. -/
def PostA (g : Gat) (t : ByteArray) (base : Nat) (w2 : World) (P0 : Option Addr) (P1 : Nat) (vc vs vl vd vo : Value) (qs : List (Ptn × Value)) (e : Ending) (w' : World) : Prop :=
  ((g.ptns[plcP g.ptns t]?).any (fun x => decide (cmpP x t = 0)) = true ∧ e = .returned (.agg #[.string ⟨#[]⟩, .int .i64 0, .slice none 0 0, .slice none 0 0, .slice none 0 0, .slice none 0 0, .slice none 0 0, .slice none 0 0, .string ⟨#[]⟩, .int .i64 0, .int .i64 0, .int .i64 0, .int .i64 0, .int .i64 11]) ∧ Below w2.heap.size w2 w') ∨
  ((g.ptns[plcP g.ptns t]?).any (fun x => decide (cmpP x t = 0)) = false ∧ g.ptns.length = 20 ∧ e = .returned (.agg #[.string ⟨#[]⟩, .int .i64 0, .slice none 0 0, .slice none 0 0, .slice none 0 0, .slice none 0 0, .slice none 0 0, .slice none 0 0, .string ⟨#[]⟩, .int .i64 0, .int .i64 0, .int .i64 0, .int .i64 0, .int .i64 12]) ∧ Below w2.heap.size w2 w') ∨
  ((g.ptns[plcP g.ptns t]?).any (fun x => decide (cmpP x t = 0)) = false ∧ g.ptns.length ≠ 20 ∧ ∃ A' C', e = .returned (.agg #[.string g.name, .int .i64 g.day, (.slice A' (qs.length + 1) C'), vc, vs, vl, vd, vo, .string ⟨#[]⟩, .int .i64 0, .int .i64 0, .int .i64 0, .int .i64 0, .int .i64 0]) ∧ OwnP base w' (.slice A' (qs.length + 1) C') (insQ qs (plcP g.ptns t) (newP t, .slice none 0 0)) ∧ w2.grownBy w' (Value.slice P0 qs.length P1).ownBlock)
set_option maxRecDepth 20000 in
set_option maxHeartbeats 8000000 in
theorem admit_any (g : Gat) (t : ByteArray) (P0 : Option Addr) (P1 : Nat) (C0 : Option Addr) (C1 : Nat) (S0 : Option Addr) (S1 : Nat) (L0 : Option Addr) (L1 : Nat) (D0 : Option Addr) (D1 : Nat) (O0 : Option Addr) (O1 : Nat) (qs : List (Ptn × Value)) (base : Nat) (w2 : World) (hpt : OwnP base w2 (.slice P0 qs.length P1) qs) (hqm : qs.map Prod.fst = g.ptns) (hbb : base ≤ w2.heap.size) (hri : RisP g.ptns) (hl : g.ptns.length ≤ 20) (hz : ∀ q ∈ qs, q.1.name.size ≤ 9223372036854775807 ∧ q.1.seen.length ≤ 9223372036854775807) :
    Calls Tryz.prog 32 #[.pointer (some ⟨w2.heap.size, 0, none⟩), .string t] (w2.alloc (.cells #[.int .i32 0, .int .u32 0, .string g.name, .int .i64 g.day, (.slice P0 qs.length P1), (.slice C0 g.crss.length C1), (.slice S0 g.book.stocks.length S1), (.slice L0 g.book.lines.length L1), (.slice D0 g.dffs.length D1), (.slice O0 g.outs.length O1)] 123)) fun e w' => PostA g t base w2 P0 P1 (.slice C0 g.crss.length C1) (.slice S0 g.book.stocks.length S1) (.slice L0 g.book.lines.length L1) (.slice D0 g.dffs.length D1) (.slice O0 g.outs.length O1) qs e w' := by
  obtain ⟨W1, hW1⟩ : ∃ W1, (w2.alloc (.cells #[.int .i32 0, .int .u32 0, .string g.name, .int .i64 g.day, (.slice P0 qs.length P1), (.slice C0 g.crss.length C1), (.slice S0 g.book.stocks.length S1), (.slice L0 g.book.lines.length L1), (.slice D0 g.dffs.length D1), (.slice O0 g.outs.length O1)] 123)).alloc (.cells #[.string ⟨#[]⟩, .int .i64 0, .slice none 0 0, .slice none 0 0, .slice none 0 0, .slice none 0 0, .slice none 0 0, .slice none 0 0, .string ⟨#[]⟩, .int .i64 0, .int .i64 0, .int .i64 0, .int .i64 0, .int .i64 0] 44) = W1 := ⟨_, rfl⟩
  obtain ⟨k0, k1⟩ := fl_twoH w2 (.cells #[.int .i32 0, .int .u32 0, .string g.name, .int .i64 g.day, (.slice P0 qs.length P1), (.slice C0 g.crss.length C1), (.slice S0 g.book.stocks.length S1), (.slice L0 g.book.lines.length L1), (.slice D0 g.dffs.length D1), (.slice O0 g.outs.length O1)] 123) (.cells #[.string ⟨#[]⟩, .int .i64 0, .slice none 0 0, .slice none 0 0, .slice none 0 0, .slice none 0 0, .slice none 0 0, .slice none 0 0, .string ⟨#[]⟩, .int .i64 0, .int .i64 0, .int .i64 0, .int .i64 0, .int .i64 0] 44)
  rw [hW1] at k0 k1
  have hlq : g.ptns.length = qs.length := by rw [← hqm]; simp
  have hb1 : Below w2.heap.size w2 W1 := by rw [← hW1]; exact ((Below.refl _ _).alloc (Nat.le_refl _) _).alloc (by simp) _
  have hs1 : W1.heap.size = w2.heap.size + 2 := by rw [← hW1]; simp
  have H1 : Hid (Below w2.heap.size w2 W1 ∧ W1.heap[w2.heap.size]? = some (.cells #[.int .i32 0, .int .u32 0, .string g.name, .int .i64 g.day, (.slice P0 qs.length P1), (.slice C0 g.crss.length C1), (.slice S0 g.book.stocks.length S1), (.slice L0 g.book.lines.length L1), (.slice D0 g.dffs.length D1), (.slice O0 g.outs.length O1)] 123) ∧ W1.heap[w2.heap.size + 1]? = some (.cells #[.string ⟨#[]⟩, .int .i64 0, .slice none 0 0, .slice none 0 0, .slice none 0 0, .slice none 0 0, .slice none 0 0, .slice none 0 0, .string ⟨#[]⟩, .int .i64 0, .int .i64 0, .int .i64 0, .int .i64 0, .int .i64 0] 44) ∧ W1.heap.size = w2.heap.size + 2) := ⟨hb1, k0, k1, hs1⟩
  have HP : Hid (OwnP base w2 (.slice P0 qs.length P1) qs ∧ qs.map Prod.fst = g.ptns ∧ base ≤ w2.heap.size ∧ RisP g.ptns ∧ g.ptns.length = qs.length ∧ ∀ q ∈ qs, q.1.name.size ≤ 9223372036854775807 ∧ q.1.seen.length ≤ 9223372036854775807) := ⟨hpt, hqm, hbb, hri, hlq, hz⟩
  rw [hlq] at hl
  clear hb1 hs1 k0 k1 hpt hqm hbb hri hz hlq
  go_enter_defers Tryz.func32, Tryz.ntmps32
  go_upto_region 1 with fail
  try rw [hW1]
  clear hW1
  obtain ⟨x0, x1, x2, x3, x4, x5, x6, x7, x8, x9⟩ := bx10 H1.out.2.1
  have fz := fz8 H1.out.2.1
  go_upto_region 3 with (first | (go_at_call 68; refine (lock_free muLib ⟨w2.heap.size, 0, none⟩ _ x0 (fz 0)).mono ?_; rintro e w' ⟨rfl, rfl⟩))
  obtain ⟨W2, hW2⟩ : ∃ W2, W1.setCell ⟨w2.heap.size, 0, none⟩ (.int .i32 1) = W2 := ⟨_, rfl⟩
  have H2 : Hid (Below w2.heap.size w2 W2 ∧ W2.heap[w2.heap.size]? = some (.cells #[.int .i32 1, .int .u32 0, .string g.name, .int .i64 g.day, (.slice P0 qs.length P1), (.slice C0 g.crss.length C1), (.slice S0 g.book.stocks.length S1), (.slice L0 g.book.lines.length L1), (.slice D0 g.dffs.length D1), (.slice O0 g.outs.length O1)] 123) ∧ W2.heap[w2.heap.size + 1]? = some (.cells #[.string ⟨#[]⟩, .int .i64 0, .slice none 0 0, .slice none 0 0, .slice none 0 0, .slice none 0 0, .slice none 0 0, .slice none 0 0, .string ⟨#[]⟩, .int .i64 0, .int .i64 0, .int .i64 0, .int .i64 0, .int .i64 0] 44) ∧ W2.heap.size = w2.heap.size + 2) := by
    rw [← hW2]
    exact ⟨H1.out.1.setCell (Nat.le_refl _) _, st10_0 _ H1.out.2.1, (setNe _ (by omega)).trans H1.out.2.2.1, by simpa using H1.out.2.2.2⟩
  try rw [hW2]
  clear hW2 x0 x1 x2 x3 x4 x5 x6 x7 x8 x9 fz H1
  have HD : Hid (∀ W, Below W2.heap.size W2 W → W.heap[w2.heap.size]? = some (.cells #[.int .i32 1, .int .u32 0, .string g.name, .int .i64 g.day, (.slice P0 qs.length P1), (.slice C0 g.crss.length C1), (.slice S0 g.book.stocks.length S1), (.slice L0 g.book.lines.length L1), (.slice D0 g.dffs.length D1), (.slice O0 g.outs.length O1)] 123) ∧ W.heap[w2.heap.size + 1]? = some (.cells #[.string ⟨#[]⟩, .int .i64 0, .slice none 0 0, .slice none 0 0, .slice none 0 0, .slice none 0 0, .slice none 0 0, .slice none 0 0, .string ⟨#[]⟩, .int .i64 0, .int .i64 0, .int .i64 0, .int .i64 0, .int .i64 0] 44) ∧ Below w2.heap.size w2 W ∧ OwnP base W (.slice P0 qs.length P1) qs ∧ w2.heap.size + 2 ≤ W.heap.size) := fun W hW => ⟨(hW.block _ (Array.getElem?_eq_some_iff.1 H2.out.2.1).1).trans H2.out.2.1, (hW.block _ (Array.getElem?_eq_some_iff.1 H2.out.2.2.1).1).trans H2.out.2.2.1, H2.out.1.trans (hW.mono H2.out.1.size), HP.out.1.below (H2.out.1.trans (hW.mono H2.out.1.size)), by have := hW.size; have := H2.out.2.2.2; omega⟩
  obtain ⟨x0, x1, x2, x3, x4, x5, x6, x7, x8, x9⟩ := bx10 H2.out.2.1
  have fz := fz8 H2.out.2.1
  have QP : Hid (∀ W, Below W2.heap.size W2 W → Calls Tryz.prog 70 #[(.slice P0 qs.length P1), .string t] W fun e w' => e = .returned (.tuple #[.int .i64 (plcP g.ptns t : Nat), .bool ((g.ptns[plcP g.ptns t]?).any fun x => decide (cmpP x t = 0))]) ∧ Below W.heap.size W w') := fun W hW => by
    have hr := (HD.out W hW).2.2.2.1.rows (by omega) HP.out.2.2.2.2.2
    rw [HP.out.2.1] at hr
    exact placeOf_any _ g.ptns t W hr (by have := HP.out.2.2.2.2.1; omega) HP.out.2.2.2.1
  have hpl : plcP g.ptns t ≤ qs.length := by rw [← HP.out.2.2.2.2.1]; exact List.countP_le_length
  obtain ⟨n, hn⟩ : ∃ n, n = plcP g.ptns t := ⟨_, rfl⟩
  obtain ⟨f, hf⟩ : ∃ f, f = ((g.ptns[plcP g.ptns t]?).any fun x => decide (cmpP x t = 0)) := ⟨_, rfl⟩
  rw [← hf, ← hn] at QP
  rw [← hn] at hpl
  have HV : Hid (n = plcP g.ptns t ∧ f = ((g.ptns[plcP g.ptns t]?).any fun x => decide (cmpP x t = 0))) := ⟨hn, hf⟩
  clear hn hf
  go_upto_region 4 with (first | (go_at_call 70; refine (QP.out _ (by with_reducible first | exact Below.refl _ _ | exact (Below.refl _ _).drew)).mono ?_; rintro e w3 ⟨rfl, hb3⟩))
  obtain ⟨z0, z1, zb, zo, zs⟩ := HD.out w3 hb3
  have H3 : Hid (w3.heap[w2.heap.size]? = some (.cells #[.int .i32 1, .int .u32 0, .string g.name, .int .i64 g.day, (.slice P0 qs.length P1), (.slice C0 g.crss.length C1), (.slice S0 g.book.stocks.length S1), (.slice L0 g.book.lines.length L1), (.slice D0 g.dffs.length D1), (.slice O0 g.outs.length O1)] 123) ∧ w3.heap[w2.heap.size + 1]? = some (.cells #[.string ⟨#[]⟩, .int .i64 0, .slice none 0 0, .slice none 0 0, .slice none 0 0, .slice none 0 0, .slice none 0 0, .slice none 0 0, .string ⟨#[]⟩, .int .i64 0, .int .i64 0, .int .i64 0, .int .i64 0, .int .i64 0] 44) ∧ Below w2.heap.size w2 w3 ∧ OwnP base w3 (.slice P0 qs.length P1) qs ∧ w2.heap.size + 2 ≤ w3.heap.size) := ⟨z0, z1, zb, zo, zs⟩
  clear z0 z1 zb zo zs hb3 QP HD H2 x0 x1 x2 x3 x4 x5 x6 x7 x8 x9 fz
  obtain ⟨x0, x1, x2, x3, x4, x5, x6, x7, x8, x9⟩ := bx10 H3.out.1
  have fz := fz8 H3.out.1
  cases f with
  | true =>
    obtain ⟨r0, r1, r2, r3, r4, r5, r6, r7, r8, r9, r10, r11, r12, r13⟩ := bx14 H3.out.2.1
    have fr := fz8 H3.out.2.1
    go_wp2_with fail
    have hR := st14 (y0 := .string ⟨#[]⟩) (y1 := .int .i64 0) (y2 := .slice none 0 0) (y3 := .slice none 0 0) (y4 := .slice none 0 0) (y5 := .slice none 0 0) (y6 := .slice none 0 0) (y7 := .slice none 0 0) (y8 := .string ⟨#[]⟩) (y9 := .int .i64 0) (y10 := .int .i64 0) (y11 := .int .i64 0) (y12 := .int .i64 0) (y13 := .int .i64 11) H3.out.2.1
    refine leaves_cons (f := 69) (args := #[.pointer (some ⟨w2.heap.size, 0, none⟩)]) (by simp) (by simp [go_sem]) ?_
    have ne : ∀ j, (⟨w2.heap.size + 1, j, none⟩ : Addr) ≠ ⟨w2.heap.size, 0, none⟩ := fun j e => by simp at e
    refine (unlock_deferred muLib ⟨w2.heap.size, 0, none⟩ .returning _ ?_ ?_).mono ?_
    · rw [World.cell?_setCell_other _ _ _ _ (ne 13), World.cell?_setCell_other _ _ _ _ (ne 12), World.cell?_setCell_other _ _ _ _ (ne 11), World.cell?_setCell_other _ _ _ _ (ne 10), World.cell?_setCell_other _ _ _ _ (ne 9), World.cell?_setCell_other _ _ _ _ (ne 8), World.cell?_setCell_other _ _ _ _ (ne 7), World.cell?_setCell_other _ _ _ _ (ne 6), World.cell?_setCell_other _ _ _ _ (ne 5), World.cell?_setCell_other _ _ _ _ (ne 4), World.cell?_setCell_other _ _ _ _ (ne 3), World.cell?_setCell_other _ _ _ _ (ne 2), World.cell?_setCell_other _ _ _ _ (ne 1), World.cell?_setCell_other _ _ _ _ (ne 0)]
      exact x0
    · simp [fz]
    rintro e u' w'' ⟨rfl, rfl, rfl⟩
    have hF := (setNe (i := 0) (.int .i32 0) (show w2.heap.size + 1 ≠ w2.heap.size by omega)).trans hR
    obtain ⟨f0, f1, f2, f3, f4, f5, f6, f7, f8, f9, f10, f11, f12, f13⟩ := bx14 hF
    refine ⟨.agg #[.string ⟨#[]⟩, .int .i64 0, .slice none 0 0, .slice none 0 0, .slice none 0 0, .slice none 0 0, .slice none 0 0, .slice none 0 0, .string ⟨#[]⟩, .int .i64 0, .int .i64 0, .int .i64 0, .int .i64 0, .int .i64 11], by simp [results, Tryz.results32, go_sem, f0, f1, f2, f3, f4, f5, f6, f7, f8, f9, f10, f11, f12, f13], ?_⟩
    refine .inl ⟨HV.out.2.symm, rfl, ?_⟩
    exact ((((((((((((((H3.out.2.2.1.setCell (Nat.le_succ _) _).setCell (Nat.le_succ _) _).setCell (Nat.le_succ _) _).setCell (Nat.le_succ _) _).setCell (Nat.le_succ _) _).setCell (Nat.le_succ _) _).setCell (Nat.le_succ _) _).setCell (Nat.le_succ _) _).setCell (Nat.le_succ _) _).setCell (Nat.le_succ _) _).setCell (Nat.le_succ _) _).setCell (Nat.le_succ _) _).setCell (Nat.le_succ _) _).setCell (Nat.le_succ _) _).setCell (Nat.le_refl _) _
  | false =>
    by_cases h20 : qs.length = 20
    · have h20' : (qs.length : Int) = 20 := by omega
      obtain ⟨r0, r1, r2, r3, r4, r5, r6, r7, r8, r9, r10, r11, r12, r13⟩ := bx14 H3.out.2.1
      have fr := fz8 H3.out.2.1
      go_wp2_with fail
      have hR := st14 (y0 := .string ⟨#[]⟩) (y1 := .int .i64 0) (y2 := .slice none 0 0) (y3 := .slice none 0 0) (y4 := .slice none 0 0) (y5 := .slice none 0 0) (y6 := .slice none 0 0) (y7 := .slice none 0 0) (y8 := .string ⟨#[]⟩) (y9 := .int .i64 0) (y10 := .int .i64 0) (y11 := .int .i64 0) (y12 := .int .i64 0) (y13 := .int .i64 12) H3.out.2.1
      refine leaves_cons (f := 69) (args := #[.pointer (some ⟨w2.heap.size, 0, none⟩)]) (by simp) (by simp [go_sem]) ?_
      have ne : ∀ j, (⟨w2.heap.size + 1, j, none⟩ : Addr) ≠ ⟨w2.heap.size, 0, none⟩ := fun j e => by simp at e
      refine (unlock_deferred muLib ⟨w2.heap.size, 0, none⟩ .returning _ ?_ ?_).mono ?_
      · rw [World.cell?_setCell_other _ _ _ _ (ne 13), World.cell?_setCell_other _ _ _ _ (ne 12), World.cell?_setCell_other _ _ _ _ (ne 11), World.cell?_setCell_other _ _ _ _ (ne 10), World.cell?_setCell_other _ _ _ _ (ne 9), World.cell?_setCell_other _ _ _ _ (ne 8), World.cell?_setCell_other _ _ _ _ (ne 7), World.cell?_setCell_other _ _ _ _ (ne 6), World.cell?_setCell_other _ _ _ _ (ne 5), World.cell?_setCell_other _ _ _ _ (ne 4), World.cell?_setCell_other _ _ _ _ (ne 3), World.cell?_setCell_other _ _ _ _ (ne 2), World.cell?_setCell_other _ _ _ _ (ne 1), World.cell?_setCell_other _ _ _ _ (ne 0)]
        exact x0
      · simp [fz]
      rintro e u' w'' ⟨rfl, rfl, rfl⟩
      have hF := (setNe (i := 0) (.int .i32 0) (show w2.heap.size + 1 ≠ w2.heap.size by omega)).trans hR
      obtain ⟨f0, f1, f2, f3, f4, f5, f6, f7, f8, f9, f10, f11, f12, f13⟩ := bx14 hF
      refine ⟨.agg #[.string ⟨#[]⟩, .int .i64 0, .slice none 0 0, .slice none 0 0, .slice none 0 0, .slice none 0 0, .slice none 0 0, .slice none 0 0, .string ⟨#[]⟩, .int .i64 0, .int .i64 0, .int .i64 0, .int .i64 0, .int .i64 12], by simp [results, Tryz.results32, go_sem, f0, f1, f2, f3, f4, f5, f6, f7, f8, f9, f10, f11, f12, f13], ?_⟩
      refine .inr (.inl ⟨HV.out.2.symm, by rw [HP.out.2.2.2.2.1]; exact h20, rfl, ?_⟩)
      exact ((((((((((((((H3.out.2.2.1.setCell (Nat.le_succ _) _).setCell (Nat.le_succ _) _).setCell (Nat.le_succ _) _).setCell (Nat.le_succ _) _).setCell (Nat.le_succ _) _).setCell (Nat.le_succ _) _).setCell (Nat.le_succ _) _).setCell (Nat.le_succ _) _).setCell (Nat.le_succ _) _).setCell (Nat.le_succ _) _).setCell (Nat.le_succ _) _).setCell (Nat.le_succ _) _).setCell (Nat.le_succ _) _).setCell (Nat.le_succ _) _).setCell (Nat.le_refl _) _
    have h20' : ¬ (qs.length : Int) = 20 := by omega
    go_upto_region 8 with fail
    have HK : Hid (∀ W, Below w3.heap.size w3 W → W.heap[w2.heap.size]? = some (.cells #[.int .i32 1, .int .u32 0, .string g.name, .int .i64 g.day, (.slice P0 qs.length P1), (.slice C0 g.crss.length C1), (.slice S0 g.book.stocks.length S1), (.slice L0 g.book.lines.length L1), (.slice D0 g.dffs.length D1), (.slice O0 g.outs.length O1)] 123) ∧ W.heap[w2.heap.size + 1]? = some (.cells #[.string ⟨#[]⟩, .int .i64 0, .slice none 0 0, .slice none 0 0, .slice none 0 0, .slice none 0 0, .slice none 0 0, .slice none 0 0, .string ⟨#[]⟩, .int .i64 0, .int .i64 0, .int .i64 0, .int .i64 0, .int .i64 0] 44) ∧ Below w2.heap.size w2 W ∧ OwnP base W (.slice P0 qs.length P1) qs ∧ w3.heap.size ≤ W.heap.size) := fun W hW => ⟨(hW.block _ (Array.getElem?_eq_some_iff.1 H3.out.1).1).trans H3.out.1, (hW.block _ (Array.getElem?_eq_some_iff.1 H3.out.2.1).1).trans H3.out.2.1, H3.out.2.2.1.trans (hW.mono H3.out.2.2.1.size), H3.out.2.2.2.1.below hW, hW.size⟩
    have HB : Hid (∀ k, w2.heap.size ≤ k → some k ≠ (Value.slice P0 qs.length P1).ownBlock) := fun k hk e => by have := (HP.out.1.row.lt k e.symm).2; omega
    have QN : Hid (∀ W, Below w3.heap.size w3 W → Calls Tryz.prog 72 #[.string t] W fun e w' => e = .returned (.agg #[.string (newP t).name, .int .i64 (newP t).low, .int .i64 (newP t).next, .slice none 0 0]) ∧ Below w3.heap.size w3 w') := fun W hW => (ptNew_impl t W).mono fun e w' h => ⟨h.1, hW.trans (h.2.mono hW.size)⟩
    have QI : Hid (∀ W c, Below w3.heap.size w3 W → w3.heap.size ≤ c → W.heap[c]? = some (.cells #[.string (newP t).name, .int .i64 (newP t).low, .int .i64 (newP t).next, .slice none 0 0] 63) → Calls Tryz.prog 71 #[(.slice P0 qs.length P1), .int .i64 (n : Int), .slice (some ⟨c, 0, none⟩) 1 1] W fun e w' => ∃ A' C', e = .returned (.slice A' (qs.length + 1) C') ∧ OwnP base w' (.slice A' (qs.length + 1) C') (insQ qs n (newP t, .slice none 0 0)) ∧ w2.grownBy w' (Value.slice P0 qs.length P1).ownBlock ∧ w'.heap[w2.heap.size]? = some (.cells #[.int .i32 1, .int .u32 0, .string g.name, .int .i64 g.day, (.slice P0 qs.length P1), (.slice C0 g.crss.length C1), (.slice S0 g.book.stocks.length S1), (.slice L0 g.book.lines.length L1), (.slice D0 g.dffs.length D1), (.slice O0 g.outs.length O1)] 123) ∧ w'.heap[w2.heap.size + 1]? = some (.cells #[.string ⟨#[]⟩, .int .i64 0, .slice none 0 0, .slice none 0 0, .slice none 0 0, .slice none 0 0, .slice none 0 0, .slice none 0 0, .string ⟨#[]⟩, .int .i64 0, .int .i64 0, .int .i64 0, .int .i64 0, .int .i64 0] 44) ∧ w2.heap.size + 2 ≤ w'.heap.size) := fun W c hW hcs hc => by
      obtain ⟨y0, y1, yb, yo, ys⟩ := HK.out W hW
      have h3 := H3.out.2.2.2.2
      have hnl : ([] : List Sn) = (newP t).seen := by unfold newP; split <;> rfl
      refine (insertP_any qs (newP t, .slice none 0 0) P0 c n P1 base W yo (by show W.ownsRow base 148 3 (.slice none 0 0) (newP t).seen.length (clSns (newP t).seen); rw [← hnl]; exact World.ownsRow_nil W base 148 3) (fun y _ g _ e => by simp [Value.ownBlock] at e) hc (fun e => HB.out c (by omega) e.symm) (by have := HP.out.2.2.1; omega) (by omega) hpl).mono ?_
      rintro e w' ⟨A', C', rfl, ho, hg⟩
      exact ⟨A', C', rfl, ho, ⟨hg.os.trans yb.os, hg.tape.trans yb.tape, hg.output.trans yb.output, Nat.le_trans yb.size hg.size, fun k hk hne => (hg.block k (Nat.lt_of_lt_of_le hk yb.size) hne).trans (yb.block k hk)⟩, (hg.block _ (by omega) (HB.out _ (by omega))).trans y0, (hg.block _ (by omega) (HB.out _ (by omega))).trans y1, by have := hg.size; omega⟩
    obtain ⟨ln, hln⟩ : ∃ x, x = (newP t).name := ⟨_, rfl⟩
    obtain ⟨ll, hll⟩ : ∃ x, x = (newP t).low := ⟨_, rfl⟩
    obtain ⟨lx, hlx⟩ : ∃ x, x = (newP t).next := ⟨_, rfl⟩
    rw [← hln, ← hll, ← hlx] at QI QN
    clear hln hll hlx
    refine wp_region_noPanic ?_
    go_region_with (first | (go_at_call 72; refine (QN.out _ (by with_reducible first | exact Below.refl _ _ | exact (Below.refl _ _).drew)).mono ?_; rintro e w4 ⟨rfl, hb4⟩; have H4 : Hid (Below w3.heap.size w3 w4) := hb4; obtain ⟨p0, p1, p2, p3, p4, p5, p6, p7, p8, p9⟩ := bx10 (HK.out w4 hb4).1; have pa : ∀ o, (w4.alloc o).cell? ⟨w2.heap.size, 4, none⟩ = some (.slice P0 qs.length P1) := (fun o => (World.cell?_alloc_lt _ _ _ (World.block_lt_of_cell? w4 _ p4)).trans p4); clear hb4) | (go_at_call 71; refine (QI.out _ _ (H4.out.alloc (HK.out _ H4.out).2.2.2.2 _) (HK.out _ H4.out).2.2.2.2 (World.alloc_heap_new _ _)).mono ?_; rintro e w5 ⟨A', C', rfl, ho5, hg5, hk5, hr5, hs5⟩; obtain ⟨b0, b1, b2, b3, b4, b5, b6, b7, b8, b9⟩ := bx10 hk5; have bf := fz8 hk5; have H5 : Hid (OwnP base w5 (.slice A' (qs.length + 1) C') (insQ qs n (newP t, .slice none 0 0)) ∧ w2.grownBy w5 (Value.slice P0 qs.length P1).ownBlock ∧ w5.heap[w2.heap.size]? = some (.cells #[.int .i32 1, .int .u32 0, .string g.name, .int .i64 g.day, (.slice P0 qs.length P1), (.slice C0 g.crss.length C1), (.slice S0 g.book.stocks.length S1), (.slice L0 g.book.lines.length L1), (.slice D0 g.dffs.length D1), (.slice O0 g.outs.length O1)] 123) ∧ w5.heap[w2.heap.size + 1]? = some (.cells #[.string ⟨#[]⟩, .int .i64 0, .slice none 0 0, .slice none 0 0, .slice none 0 0, .slice none 0 0, .slice none 0 0, .slice none 0 0, .string ⟨#[]⟩, .int .i64 0, .int .i64 0, .int .i64 0, .int .i64 0, .int .i64 0] 44) ∧ w2.heap.size + 2 ≤ w5.heap.size) := ⟨ho5, hg5, hk5, hr5, hs5⟩; clear ho5 hg5 hk5 hr5 hs5))
    all_goals (
      refine NoPanic.normal ?_
      obtain ⟨ho5, hg5, hk5, hr5, hs5⟩ := H5.out
      obtain ⟨W6, hW6⟩ : ∃ W6, w5.setCell ⟨w2.heap.size, 4, none⟩ (.slice A' (qs.length + 1) C') = W6 := ⟨_, rfl⟩
      have eK : W6.heap[w2.heap.size]? = some (.cells #[.int .i32 1, .int .u32 0, .string g.name, .int .i64 g.day, (.slice A' (qs.length + 1) C'), (.slice C0 g.crss.length C1), (.slice S0 g.book.stocks.length S1), (.slice L0 g.book.lines.length L1), (.slice D0 g.dffs.length D1), (.slice O0 g.outs.length O1)] 123) := by rw [← hW6]; exact st10_4 _ hk5
      have eR : W6.heap[w2.heap.size + 1]? = some (.cells #[.string ⟨#[]⟩, .int .i64 0, .slice none 0 0, .slice none 0 0, .slice none 0 0, .slice none 0 0, .slice none 0 0, .slice none 0 0, .string ⟨#[]⟩, .int .i64 0, .int .i64 0, .int .i64 0, .int .i64 0, .int .i64 0] 44) := by rw [← hW6]; exact (setNe _ (by omega)).trans hr5
      have H6 : Hid (InvA base w2 (Value.slice P0 qs.length P1).ownBlock (.slice A' (qs.length + 1) C') (insQ qs n (newP t, .slice none 0 0)) W6 ∧ W6.heap[w2.heap.size]? = some (.cells #[.int .i32 1, .int .u32 0, .string g.name, .int .i64 g.day, (.slice A' (qs.length + 1) C'), (.slice C0 g.crss.length C1), (.slice S0 g.book.stocks.length S1), (.slice L0 g.book.lines.length L1), (.slice D0 g.dffs.length D1), (.slice O0 g.outs.length O1)] 123) ∧ W6.heap[w2.heap.size + 1]? = some (.cells #[.string ⟨#[]⟩, .int .i64 0, .slice none 0 0, .slice none 0 0, .slice none 0 0, .slice none 0 0, .slice none 0 0, .slice none 0 0, .string ⟨#[]⟩, .int .i64 0, .int .i64 0, .int .i64 0, .int .i64 0, .int .i64 0] 44)) := ⟨by rw [← hW6]; exact InvA.set (.inl rfl) 4 _ ⟨ho5, hg5, ⟨_, hk5⟩, ⟨_, hr5⟩⟩, eK, eR⟩
      try rw [hW6]
      clear hW6 eK eR ho5 hg5 hk5 hr5 hs5 H5 b0 b1 b2 b3 b4 b5 b6 b7 b8 b9 bf p0 p1 p2 p3 p4 p5 p6 p7 p8 p9 pa H4 QN QI HK x0 x1 x2 x3 x4 x5 x6 x7 x8 x9 fz
      obtain ⟨x0, x1, x2, x3, x4, x5, x6, x7, x8, x9⟩ := bx10 H6.out.2.1
      have fz := fz8 H6.out.2.1
      obtain ⟨r0, r1, r2, r3, r4, r5, r6, r7, r8, r9, r10, r11, r12, r13⟩ := bx14 H6.out.2.2
      have fr := fz8 H6.out.2.2
      go_upto_region 9 with fail
      refine wp_region_noPanic ?_
      go_region_held3 (fun W => W.cell? ⟨w2.heap.size, 2, none⟩ = some (.string g.name) ∧ W.cell? ⟨w2.heap.size, 3, none⟩ = some (.int .i64 g.day) ∧ W.cell? ⟨w2.heap.size, 4, none⟩ = some ((.slice A' (qs.length + 1) C')) ∧ W.cell? ⟨w2.heap.size, 5, none⟩ = some ((.slice C0 g.crss.length C1)) ∧ W.cell? ⟨w2.heap.size, 6, none⟩ = some ((.slice S0 g.book.stocks.length S1)) ∧ W.cell? ⟨w2.heap.size, 7, none⟩ = some ((.slice L0 g.book.lines.length L1)) ∧ W.cell? ⟨w2.heap.size, 8, none⟩ = some ((.slice D0 g.dffs.length D1)) ∧ W.cell? ⟨w2.heap.size, 9, none⟩ = some ((.slice O0 g.outs.length O1))) (go_keep) (fail)
      refine NoPanic.normal ?_
      rename_i hHeld
      clear hHeld
      go_wp2_with fail
      have ne : ∀ j, (⟨w2.heap.size + 1, j, none⟩ : Addr) ≠ ⟨w2.heap.size, 0, none⟩ := fun j e => by simp at e
      have hR := st14g (y0 := .string g.name) (y1 := .int .i64 g.day) (y2 := (.slice A' (qs.length + 1) C')) (y3 := (.slice C0 g.crss.length C1)) (y4 := (.slice S0 g.book.stocks.length S1)) (y5 := (.slice L0 g.book.lines.length L1)) (y6 := (.slice D0 g.dffs.length D1)) (y7 := (.slice O0 g.outs.length O1)) (st14 (y0 := .string ⟨#[]⟩) (y1 := .int .i64 0) (y2 := .slice none 0 0) (y3 := .slice none 0 0) (y4 := .slice none 0 0) (y5 := .slice none 0 0) (y6 := .slice none 0 0) (y7 := .slice none 0 0) (y8 := .string ⟨#[]⟩) (y9 := .int .i64 0) (y10 := .int .i64 0) (y11 := .int .i64 0) (y12 := .int .i64 0) (y13 := .int .i64 0) H6.out.2.2)
      obtain ⟨W7, hW7⟩ : ∃ W7, ((((((((((((((((((((((W6.setCell ⟨w2.heap.size + 1, 0, none⟩ (.string ⟨#[]⟩)).setCell ⟨w2.heap.size + 1, 1, none⟩ (.int .i64 0)).setCell ⟨w2.heap.size + 1, 2, none⟩ (.slice none 0 0)).setCell ⟨w2.heap.size + 1, 3, none⟩ (.slice none 0 0)).setCell ⟨w2.heap.size + 1, 4, none⟩ (.slice none 0 0)).setCell ⟨w2.heap.size + 1, 5, none⟩ (.slice none 0 0)).setCell ⟨w2.heap.size + 1, 6, none⟩ (.slice none 0 0)).setCell ⟨w2.heap.size + 1, 7, none⟩ (.slice none 0 0)).setCell ⟨w2.heap.size + 1, 8, none⟩ (.string ⟨#[]⟩)).setCell ⟨w2.heap.size + 1, 9, none⟩ (.int .i64 0)).setCell ⟨w2.heap.size + 1, 10, none⟩ (.int .i64 0)).setCell ⟨w2.heap.size + 1, 11, none⟩ (.int .i64 0)).setCell ⟨w2.heap.size + 1, 12, none⟩ (.int .i64 0)).setCell ⟨w2.heap.size + 1, 13, none⟩ (.int .i64 0)).setCell ⟨w2.heap.size + 1, 0, none⟩ (.string g.name)).setCell ⟨w2.heap.size + 1, 1, none⟩ (.int .i64 g.day)).setCell ⟨w2.heap.size + 1, 2, none⟩ ((.slice A' (qs.length + 1) C'))).setCell ⟨w2.heap.size + 1, 3, none⟩ ((.slice C0 g.crss.length C1))).setCell ⟨w2.heap.size + 1, 4, none⟩ ((.slice S0 g.book.stocks.length S1))).setCell ⟨w2.heap.size + 1, 5, none⟩ ((.slice L0 g.book.lines.length L1))).setCell ⟨w2.heap.size + 1, 6, none⟩ ((.slice D0 g.dffs.length D1))).setCell ⟨w2.heap.size + 1, 7, none⟩ ((.slice O0 g.outs.length O1))) = W7 := ⟨_, rfl⟩
      have hX : W7.cell? ⟨w2.heap.size, 0, none⟩ = some (.int .i32 1) := by
        rw [← hW7, World.cell?_setCell_other _ _ _ _ (ne 7), World.cell?_setCell_other _ _ _ _ (ne 6), World.cell?_setCell_other _ _ _ _ (ne 5), World.cell?_setCell_other _ _ _ _ (ne 4), World.cell?_setCell_other _ _ _ _ (ne 3), World.cell?_setCell_other _ _ _ _ (ne 2), World.cell?_setCell_other _ _ _ _ (ne 1), World.cell?_setCell_other _ _ _ _ (ne 0), World.cell?_setCell_other _ _ _ _ (ne 13), World.cell?_setCell_other _ _ _ _ (ne 12), World.cell?_setCell_other _ _ _ _ (ne 11), World.cell?_setCell_other _ _ _ _ (ne 10), World.cell?_setCell_other _ _ _ _ (ne 9), World.cell?_setCell_other _ _ _ _ (ne 8), World.cell?_setCell_other _ _ _ _ (ne 7), World.cell?_setCell_other _ _ _ _ (ne 6), World.cell?_setCell_other _ _ _ _ (ne 5), World.cell?_setCell_other _ _ _ _ (ne 4), World.cell?_setCell_other _ _ _ _ (ne 3), World.cell?_setCell_other _ _ _ _ (ne 2), World.cell?_setCell_other _ _ _ _ (ne 1), World.cell?_setCell_other _ _ _ _ (ne 0)]
        exact x0
      have hI : InvA base w2 (Value.slice P0 qs.length P1).ownBlock (.slice A' (qs.length + 1) C') (insQ qs n (newP t, .slice none 0 0)) W7 := by rw [← hW7]; exact (InvA.set (.inr rfl) 7 _ (InvA.set (.inr rfl) 6 _ (InvA.set (.inr rfl) 5 _ (InvA.set (.inr rfl) 4 _ (InvA.set (.inr rfl) 3 _ (InvA.set (.inr rfl) 2 _ (InvA.set (.inr rfl) 1 _ (InvA.set (.inr rfl) 0 _ (InvA.set (.inr rfl) 13 _ (InvA.set (.inr rfl) 12 _ (InvA.set (.inr rfl) 11 _ (InvA.set (.inr rfl) 10 _ (InvA.set (.inr rfl) 9 _ (InvA.set (.inr rfl) 8 _ (InvA.set (.inr rfl) 7 _ (InvA.set (.inr rfl) 6 _ (InvA.set (.inr rfl) 5 _ (InvA.set (.inr rfl) 4 _ (InvA.set (.inr rfl) 3 _ (InvA.set (.inr rfl) 2 _ (InvA.set (.inr rfl) 1 _ (InvA.set (.inr rfl) 0 _ H6.out.1))))))))))))))))))))))
      replace hR : W7.heap[w2.heap.size + 1]? = some (.cells #[.string g.name, .int .i64 g.day, (.slice A' (qs.length + 1) C'), (.slice C0 g.crss.length C1), (.slice S0 g.book.stocks.length S1), (.slice L0 g.book.lines.length L1), (.slice D0 g.dffs.length D1), (.slice O0 g.outs.length O1), .string ⟨#[]⟩, .int .i64 0, .int .i64 0, .int .i64 0, .int .i64 0, .int .i64 0] 44) := by rw [← hW7]; exact hR
      rw [hW7]
      clear hW7
      obtain ⟨c7, hc7⟩ := hI.ke
      have fk := fz8 hc7
      refine leaves_cons (f := 69) (args := #[.pointer (some ⟨w2.heap.size, 0, none⟩)]) (by simp) (by simp [go_sem]) ?_
      refine (unlock_deferred muLib ⟨w2.heap.size, 0, none⟩ .returning W7.drew hX (fk 0)).mono ?_
      rintro e u' w'' ⟨rfl, rfl, rfl⟩
      obtain ⟨f0, f1, f2, f3, f4, f5, f6, f7, f8, f9, f10, f11, f12, f13⟩ := bx14 hR
      refine ⟨.agg #[.string g.name, .int .i64 g.day, (.slice A' (qs.length + 1) C'), (.slice C0 g.crss.length C1), (.slice S0 g.book.stocks.length S1), (.slice L0 g.book.lines.length L1), (.slice D0 g.dffs.length D1), (.slice O0 g.outs.length O1), .string ⟨#[]⟩, .int .i64 0, .int .i64 0, .int .i64 0, .int .i64 0, .int .i64 0], by simp [results, Tryz.results32, go_sem, f0, f1, f2, f3, f4, f5, f6, f7, f8, f9, f10, f11, f12, f13], ?_⟩
      have hE : InvA base w2 (Value.slice P0 qs.length P1).ownBlock (.slice A' (qs.length + 1) C') (insQ qs n (newP t, .slice none 0 0)) (W7.drew.setCell ⟨w2.heap.size, 0, none⟩ (.int .i32 0)) := InvA.set (.inl rfl) 0 _ hI.drew
      refine .inr (.inr ⟨HV.out.2.symm, by rw [HP.out.2.2.2.2.1]; exact h20, A', C', rfl, ?_, hE.gr⟩)
      rw [← HV.out.1]
      exact hE.ow
      )
end Go.Proofs.YtkgkahlhekecmaaGreat
