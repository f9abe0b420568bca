/- Texts of ours put together: GtC. -/
import Derived.Test.YtkgkahlhekecmaaGreatG20
import Derived.Test.YtkgkahlhekecmaaGreatG21
import Derived.Test.YtkgkahlhekecmaaGreatG25
import Derived.Test.YtkgkahlhekecmaaGreatG26
import Derived.Test.YtkgkahlhekecmaaGreatG01
import Derived.Deep.RegionHeld3
namespace Go.Proofs.YtkgkahlhekecmaaGreat
open Go.ChangeShapes Go.WideShapes Go.ChangeAt Go.RowKit
/-- A gate in memory of the call's own. -/
structure OGt (n : Nat) (W : World) (up uc us ul ud uo : Value) (g : Gat) (qs : List (Ptn × Value)) (bc bs bl bd bo : Nat) : Prop where
  nm : g.name.size ≤ 9223372036854775807
  qm : qs.map Prod.fst = g.ptns
  pt : OwnP n W up qs
  cs : LCs bc W uc g.crss
  st : LSt bs W us g.book.stocks
  ln : LOl bl W ul g.book.lines
  df : LDf bd W ud g.dffs
  ou : LOu bo W uo g.outs
  gc : n ≤ bc ∧ n ≤ bs ∧ n ≤ bl ∧ n ≤ bd ∧ n ≤ bo
theorem OGt.below {n : Nat} {W W' : World} {up uc us ul ud uo : Value} {g : Gat} {qs : List (Ptn × Value)} {bc bs bl bd bo : Nat} (h : OGt n W up uc us ul ud uo g qs bc bs bl bd bo) (hb : Below W.heap.size W W') : OGt n W' up uc us ul ud uo g qs bc bs bl bd bo :=
  ⟨h.nm, h.qm, h.pt.below hb, h.cs.below hb, h.st.below hb, h.ln.below hb, h.df.below hb, h.ou.below hb, h.gc⟩
theorem OGt.down {n m : Nat} {W : World} {up uc us ul ud uo : Value} {g : Gat} {qs : List (Ptn × Value)} {bc bs bl bd bo : Nat} (h : OGt n W up uc us ul ud uo g qs bc bs bl bd bo) (hm : m ≤ n) : OGt m W up uc us ul ud uo g qs bc bs bl bd bo :=
  ⟨h.nm, h.qm, h.pt.down hm, h.cs, h.st, h.ln, h.df, h.ou, by have := h.gc; omega⟩
theorem bdp {g : Gat} (h : BdGt 1048576 g) : g.ptns.length ≤ 1048576 ∧ ∀ p ∈ g.ptns, p.name.size ≤ 1048576 ∧ p.seen.length ≤ 1048576 := by
  refine ⟨h.2.1.1, fun p hp => ?_⟩
  obtain ⟨i, hi⟩ := List.getElem?_of_mem hp
  have := h.2.1.2 i p hi
  exact ⟨this.1, this.2⟩
theorem bdc {g : Gat} (h : BdGt 1048576 g) : g.crss.length ≤ 1048576 ∧ ∀ c ∈ g.crss, c.partner.size ≤ 1048576 ∧ c.theirs.size ≤ 1048576 ∧ c.own.size ≤ 1048576 := by
  refine ⟨h.2.2.1.1, fun p hp => ?_⟩
  obtain ⟨i, hi⟩ := List.getElem?_of_mem hp
  exact h.2.2.1.2 i p hi
theorem bdd {g : Gat} (h : BdGt 1048576 g) : g.dffs.length ≤ 1048576 ∧ ∀ c ∈ g.dffs, c.partner.size ≤ 1048576 ∧ c.ref.size ≤ 1048576 ∧ c.item.size ≤ 1048576 := by
  refine ⟨h.2.2.2.2.1.1, fun p hp => ?_⟩
  obtain ⟨i, hi⟩ := List.getElem?_of_mem hp
  exact h.2.2.2.2.1.2 i p hi
theorem bdo {g : Gat} (h : BdGt 1048576 g) : g.outs.length ≤ 1048576 ∧ ∀ c ∈ g.outs, c.partner.size ≤ 1048576 ∧ c.text.size ≤ 1048576 := by
  refine ⟨h.2.2.2.2.2.1, fun p hp => ?_⟩
  obtain ⟨i, hi⟩ := List.getElem?_of_mem hp
  exact h.2.2.2.2.2.2 i p hi
theorem OGt.row {n : Nat} {W : World} {up uc us ul ud uo : Value} {g : Gat} {qs : List (Ptn × Value)} {bc bs bl bd bo : Nat} (h : OGt n W up uc us ul ud uo g qs bc bs bl bd bo) (hP : BdGt 1048576 g) : RGt W up uc us ul ud uo g := by
  refine ⟨h.nm, ?_, h.cs.row, ⟨h.st.row, h.ln.row⟩, h.df.row, h.ou.row⟩
  have hb := bdp hP
  have hq := h.qm
  have hl := congrArg List.length hq
  rw [List.length_map] at hl
  have := h.pt.rows (by omega) (fun q hm => by
    have := hb.2 q.1 (by rw [← hq]; exact List.mem_map_of_mem hm)
    omega)
  rw [hq] at this
  exact this
theorem undrewG {a b : World} (h : Below a.drew.heap.size a.drew b) : Below a.heap.size a b := (Below.refl _ _).drew.trans h
theorem fl_twoH (w : World) (a b : Obj) : ((w.alloc a).alloc b).heap[w.heap.size]? = some a ∧ ((w.alloc a).alloc b).heap[w.heap.size + 1]? = some b := by
  have e : ((w.alloc a).alloc b).heap = (w.heap.push a).push b := rfl
  rw [e]
  simp only [Array.getElem?_push, Array.size_push]
  refine ⟨?_, ?_⟩
  · rw [if_neg (by omega), if_pos trivial]
  · rw [if_pos trivial]
set_option maxRecDepth 20000 in
set_option maxHeartbeats 8000000 in
theorem copyGt_any (g : Gat) (up uc us ul ud uo : Value) (w : World) (h : RGt w up uc us ul ud uo g) (hP : BdGt 1048576 g) :
    Calls Tryz.prog 67 #[.agg #[.string g.name, .int .i64 g.day, up, uc, us, ul, ud, uo]] w fun e w' => ∃ P0 P1 C0 C1 S0 S1 L0 L1 D0 D1 O0 O1 qs bc bs bl bd bo, e = .returned (.agg #[.string g.name, .int .i64 g.day, (.slice P0 qs.length P1), (.slice C0 g.crss.length C1), (.slice S0 g.book.stocks.length S1), (.slice L0 g.book.lines.length L1), (.slice D0 g.dffs.length D1), (.slice O0 g.outs.length O1)]) ∧ OGt w.heap.size w' (.slice P0 qs.length P1) (.slice C0 g.crss.length C1) (.slice S0 g.book.stocks.length S1) (.slice L0 g.book.lines.length L1) (.slice D0 g.dffs.length D1) (.slice O0 g.outs.length O1) g qs bc bs bl bd bo ∧ Below w.heap.size w w' := by
  obtain ⟨a0, c0, a1, c1, a2, c2, a3, c3, a4, c4, a5, c5, rfl, rfl, rfl, rfl, rfl, rfl⟩ := h.val
  have hnm := hP.1
  have HP1 : Hid (g.ptns.length ≤ 1048576 ∧ ∀ p ∈ g.ptns, p.name.size ≤ 1048576 ∧ p.seen.length ≤ 1048576) := bdp hP
  have HP2 : Hid (g.crss.length ≤ 1048576 ∧ ∀ c ∈ g.crss, c.partner.size ≤ 1048576 ∧ c.theirs.size ≤ 1048576 ∧ c.own.size ≤ 1048576) := bdc hP
  have HP3 : Hid (BdBk 1048576 g.book) := hP.2.2.2.1
  have HP4 : Hid (g.dffs.length ≤ 1048576 ∧ ∀ c ∈ g.dffs, c.partner.size ≤ 1048576 ∧ c.ref.size ≤ 1048576 ∧ c.item.size ≤ 1048576) := bdd hP
  have HP5 : Hid (g.outs.length ≤ 1048576 ∧ ∀ c ∈ g.outs, c.partner.size ≤ 1048576 ∧ c.text.size ≤ 1048576) := bdo hP
  obtain ⟨W1, hW1⟩ : ∃ W1, (w.alloc (.cells #[.string g.name, .int .i64 g.day, (.slice a0 g.ptns.length c0), (.slice a1 g.crss.length c1), (.slice a2 g.book.stocks.length c2), (.slice a3 g.book.lines.length c3), (.slice a4 g.dffs.length c4), (.slice a5 g.outs.length c5)] 42)).alloc (.cells #[.string ⟨#[]⟩, .int .i64 0, .slice none 0 0, .slice none 0 0, .slice none 0 0, .slice none 0 0, .slice none 0 0, .slice none 0 0] 42) = W1 := ⟨_, rfl⟩
  have hb1 : Below w.heap.size w W1 := by rw [← hW1]; exact ((Below.refl _ _).alloc (Nat.le_refl _) _).alloc (by simp) _
  obtain ⟨k0, k1⟩ := fl_twoH w (.cells #[.string g.name, .int .i64 g.day, (.slice a0 g.ptns.length c0), (.slice a1 g.crss.length c1), (.slice a2 g.book.stocks.length c2), (.slice a3 g.book.lines.length c3), (.slice a4 g.dffs.length c4), (.slice a5 g.outs.length c5)] 42) (.cells #[.string ⟨#[]⟩, .int .i64 0, .slice none 0 0, .slice none 0 0, .slice none 0 0, .slice none 0 0, .slice none 0 0, .slice none 0 0] 42)
  rw [hW1] at k0 k1
  have HC : Hid (∀ W, Below W1.heap.size W1 W → W.cell? ⟨w.heap.size, 0, none⟩ = some (.string g.name) ∧ W.cell? ⟨w.heap.size, 1, none⟩ = some (.int .i64 g.day) ∧ W.cell? ⟨w.heap.size, 2, none⟩ = some ((.slice a0 g.ptns.length c0)) ∧ W.cell? ⟨w.heap.size, 3, none⟩ = some ((.slice a1 g.crss.length c1)) ∧ W.cell? ⟨w.heap.size, 4, none⟩ = some ((.slice a2 g.book.stocks.length c2)) ∧ W.cell? ⟨w.heap.size, 5, none⟩ = some ((.slice a3 g.book.lines.length c3)) ∧ W.cell? ⟨w.heap.size, 6, none⟩ = some ((.slice a4 g.dffs.length c4)) ∧ W.cell? ⟨w.heap.size, 7, none⟩ = some ((.slice a5 g.outs.length c5))) := fun W hW => bx8 ((hW.block _ (Array.getElem?_eq_some_iff.1 k0).1).trans k0)
  have HD : Hid (∀ W, Below W1.heap.size W1 W → W.heap[w.heap.size + 1]? = some (.cells #[.string ⟨#[]⟩, .int .i64 0, .slice none 0 0, .slice none 0 0, .slice none 0 0, .slice none 0 0, .slice none 0 0, .slice none 0 0] 42)) := fun W hW => (hW.block _ (Array.getElem?_eq_some_iff.1 k1).1).trans k1
  have HF : Hid (∀ W, Below W1.heap.size W1 W → ∀ o, W.frozen? ⟨w.heap.size + 1, o, none⟩ = false) := fun W hW => fz8 (HD.out W hW)
  have HB : Hid (Below w.heap.size w W1) := hb1
  have HQpt : Hid (∀ W, Below W1.heap.size W1 W → RowPt W (.slice a0 g.ptns.length c0) g.ptns) := fun W hW => (h.pt.below hb1).below hW
  have HQcs : Hid (∀ W, Below W1.heap.size W1 W → RowCs W (.slice a1 g.crss.length c1) g.crss) := fun W hW => (h.cs.below hb1).below hW
  have HQbk : Hid (∀ W, Below W1.heap.size W1 W → RBk W (.slice a2 g.book.stocks.length c2) (.slice a3 g.book.lines.length c3) g.book) := fun W hW => (h.bk.below hb1).below hW
  have HQdf : Hid (∀ W, Below W1.heap.size W1 W → RowDf W (.slice a4 g.dffs.length c4) g.dffs) := fun W hW => (h.df.below hb1).below hW
  have HQou : Hid (∀ W, Below W1.heap.size W1 W → RowOu W (.slice a5 g.outs.length c5) g.outs) := fun W hW => (h.ou.below hb1).below hW
  have HZ : Hid (w.heap.size + 2 ≤ W1.heap.size) := by show w.heap.size + 2 ≤ W1.heap.size; rw [← hW1]; simp
  go_enter Tryz.func67, Tryz.ntmps67
  go_upto_region 1 with fail
  try rw [hW1]
  clear hW1 hb1 k0 k1 h hP
  obtain ⟨x0, x1, x2, x3, x4, x5, x6, x7⟩ := HC.out W1 (Below.refl _ _)
  go_region_held3 (fun W => W.cell? ⟨w.heap.size, 0, none⟩ = some (.string g.name) ∧ W.cell? ⟨w.heap.size, 1, none⟩ = some (.int .i64 g.day) ∧ W.cell? ⟨w.heap.size, 2, none⟩ = some ((.slice a0 g.ptns.length c0)) ∧ W.cell? ⟨w.heap.size, 3, none⟩ = some ((.slice a1 g.crss.length c1)) ∧ W.cell? ⟨w.heap.size, 4, none⟩ = some ((.slice a2 g.book.stocks.length c2)) ∧ W.cell? ⟨w.heap.size, 5, none⟩ = some ((.slice a3 g.book.lines.length c3)) ∧ W.cell? ⟨w.heap.size, 6, none⟩ = some ((.slice a4 g.dffs.length c4)) ∧ W.cell? ⟨w.heap.size, 7, none⟩ = some ((.slice a5 g.outs.length c5))) (go_keep) (first | (go_at_call_of 105 (Value.string g.name); refine (clone_any _ _ (by omega)).mono ?_; rintro e w1 ⟨rfl, hb⟩; have b1 : Below W1.heap.size W1 w1 := (by with_reducible first | exact hb | exact undrewG hb); skip; obtain ⟨y10, y11, y12, y13, y14, y15, y16, y17⟩ := HC.out w1 b1; clear hb; try dsimp only) | (go_at_call_of 106 (Value.slice a0 g.ptns.length c0); refine (copyPts_any _ g.ptns _ (by with_reducible first | exact HQpt.out _ b1 | exact HQpt.out _ b1.drew) HP1.out.1 HP1.out.2).mono ?_; rintro e w2 ⟨P0, P1, qs, rfl, hqm, hO, hb⟩; have c2b : Below w1.heap.size w1 w2 := (by with_reducible first | exact hb | exact undrewG hb); have b2 : Below W1.heap.size W1 w2 := b1.trans (c2b.mono b1.size); have H2 : Hid (qs.map Prod.fst = g.ptns ∧ OwnP W1.heap.size w2 (.slice P0 qs.length P1) qs) := ⟨hqm, hO.down b1.size⟩; clear hqm hO; obtain ⟨y20, y21, y22, y23, y24, y25, y26, y27⟩ := HC.out w2 b2; clear hb; try dsimp only) | (go_at_call_of 107 (Value.slice a1 g.crss.length c1); refine (copyCs_any _ g.crss _ (by with_reducible first | exact HQcs.out _ b2 | exact HQcs.out _ b2.drew) HP2.out.1 HP2.out.2).mono ?_; rintro e w3 ⟨v3, bc, rfl, hbc, hO, hb⟩; have c3b : Below w2.heap.size w2 w3 := (by with_reducible first | exact hb | exact undrewG hb); have b3 : Below W1.heap.size W1 w3 := b2.trans (c3b.mono b2.size); obtain ⟨C0, C1, rfl⟩ := hO.row.val; have H3 : Hid (W1.heap.size ≤ bc ∧ LCs bc w3 (.slice C0 g.crss.length C1) g.crss) := ⟨Nat.le_trans b2.size hbc, hO⟩; clear hbc hO; obtain ⟨y30, y31, y32, y33, y34, y35, y36, y37⟩ := HC.out w3 b3; clear hb; try dsimp only) | (go_at_call_of 108 (Value.agg #[(Value.slice a2 g.book.stocks.length c2), (Value.slice a3 g.book.lines.length c3)]); refine (copyOfBook_any g.book _ _ _ (by with_reducible first | exact HQbk.out _ b3 | exact HQbk.out _ b3.drew) HP3.out).mono ?_; rintro e w4 ⟨v4, v5, bs, bl, rfl, hbs, hbl, hO, hO2, _, hb⟩; have c4b : Below w3.heap.size w3 w4 := (by with_reducible first | exact hb | exact undrewG hb); have b4 : Below W1.heap.size W1 w4 := b3.trans (c4b.mono b3.size); obtain ⟨S0, S1, rfl⟩ := hO.row.val; obtain ⟨L0, L1, rfl⟩ := hO2.row.val; have H4 : Hid (W1.heap.size ≤ bs ∧ W1.heap.size ≤ bl ∧ LSt bs w4 (.slice S0 g.book.stocks.length S1) g.book.stocks ∧ LOl bl w4 (.slice L0 g.book.lines.length L1) g.book.lines) := ⟨Nat.le_trans b3.size hbs, Nat.le_trans b3.size hbl, hO, hO2⟩; clear hbs hbl hO hO2; obtain ⟨y40, y41, y42, y43, y44, y45, y46, y47⟩ := HC.out w4 b4; clear hb; try dsimp only) | (go_at_call_of 109 (Value.slice a4 g.dffs.length c4); refine (copyDfs_any _ g.dffs _ (by with_reducible first | exact HQdf.out _ b4 | exact HQdf.out _ b4.drew) HP4.out.1 HP4.out.2).mono ?_; rintro e w5 ⟨v6, bd, rfl, hbd, hO, hb⟩; have c5b : Below w4.heap.size w4 w5 := (by with_reducible first | exact hb | exact undrewG hb); have b5 : Below W1.heap.size W1 w5 := b4.trans (c5b.mono b4.size); obtain ⟨D0, D1, rfl⟩ := hO.row.val; have H5 : Hid (W1.heap.size ≤ bd ∧ LDf bd w5 (.slice D0 g.dffs.length D1) g.dffs) := ⟨Nat.le_trans b4.size hbd, hO⟩; clear hbd hO; obtain ⟨y50, y51, y52, y53, y54, y55, y56, y57⟩ := HC.out w5 b5; clear hb; try dsimp only) | (go_at_call_of 110 (Value.slice a5 g.outs.length c5); refine (copyOus_any _ g.outs _ (by with_reducible first | exact HQou.out _ b5 | exact HQou.out _ b5.drew) HP5.out.1 HP5.out.2).mono ?_; rintro e w6 ⟨v7, bo, rfl, hbo, hO, hb⟩; have c6b : Below w5.heap.size w5 w6 := (by with_reducible first | exact hb | exact undrewG hb); have b6 : Below W1.heap.size W1 w6 := b5.trans (c6b.mono b5.size); obtain ⟨O0, O1, rfl⟩ := hO.row.val; have H6 : Hid (W1.heap.size ≤ bo ∧ LOu bo w6 (.slice O0 g.outs.length O1) g.outs) := ⟨Nat.le_trans b5.size hbo, hO⟩; have hfr := HF.out w6 b6; obtain ⟨r0, r1, r2, r3, r4, r5, r6, r7⟩ := bx8 (HD.out w6 b6); clear hbo hO; obtain ⟨y60, y61, y62, y63, y64, y65, y66, y67⟩ := HC.out w6 b6; clear hb; try dsimp only))
  rename_i hHeld
  clear hHeld
  have c36 : Below w3.heap.size w3 w6 := (c4b.trans (c5b.mono c4b.size)).trans (c6b.mono (Nat.le_trans c4b.size c5b.size))
  have c26 : Below w2.heap.size w2 w6 := c3b.trans (c36.mono c3b.size)
  have c46 : Below w4.heap.size w4 w6 := c5b.trans (c6b.mono c5b.size)
  have HX : Hid (Below w.heap.size w w6 ∧ w6.heap[w.heap.size + 1]? = some (.cells #[.string ⟨#[]⟩, .int .i64 0, .slice none 0 0, .slice none 0 0, .slice none 0 0, .slice none 0 0, .slice none 0 0, .slice none 0 0] 42) ∧ OwnP W1.heap.size w6 (.slice P0 qs.length P1) qs ∧ LCs bc w6 (.slice C0 g.crss.length C1) g.crss ∧ LSt bs w6 (.slice S0 g.book.stocks.length S1) g.book.stocks ∧ LOl bl w6 (.slice L0 g.book.lines.length L1) g.book.lines ∧ LDf bd w6 (.slice D0 g.dffs.length D1) g.dffs ∧ LOu bo w6 (.slice O0 g.outs.length O1) g.outs) :=
    ⟨HB.out.trans (b6.mono HB.out.size), HD.out w6 b6, H2.out.2.below c26, H3.out.2.below c36, H4.out.2.2.1.below c46, H4.out.2.2.2.below c46, H5.out.2.below c6b, H6.out.2⟩
  clear b1 b2 b3 b4 b5 b6 c2b c3b c4b c5b c6b c26 c36 c46
  go_wp2
  have hz := HZ.out
  have h1 := H3.out.1
  have h2 := H4.out.1
  have h3 := H4.out.2.1
  have h4 := H5.out.1
  have h5 := H6.out.1
  have hF := HX.out
  have hs := fun (W : World) (j : Nat) (x : Value) (hW : Below w.heap.size w W ∧ OwnP W1.heap.size W (.slice P0 qs.length P1) qs ∧ LCs bc W (.slice C0 g.crss.length C1) g.crss ∧ LSt bs W (.slice S0 g.book.stocks.length S1) g.book.stocks ∧ LOl bl W (.slice L0 g.book.lines.length L1) g.book.lines ∧ LDf bd W (.slice D0 g.dffs.length D1) g.dffs ∧ LOu bo W (.slice O0 g.outs.length O1) g.outs) =>
    (⟨hW.1.setCell (Nat.le_succ _) x, ⟨own_set hW.2.1.row (fun e => by have := (hW.2.1.row.lt _ e).1; omega) j x, fun q hq => own_set (hW.2.1.sn q hq) (fun e => by have := ((hW.2.1.sn q hq).lt _ e).1; omega) j x, hW.2.1.ap⟩, hW.2.2.1.of_block (fun _ => setNe x (by omega)), hW.2.2.2.1.of_block (fun _ => setNe x (by omega)), hW.2.2.2.2.1.of_block (fun _ => setNe x (by omega)), hW.2.2.2.2.2.1.of_block (fun _ => setNe x (by omega)), hW.2.2.2.2.2.2.of_block (fun _ => setNe x (by omega))⟩ : Below w.heap.size w (W.setCell ⟨w.heap.size + 1, j, none⟩ x) ∧ OwnP W1.heap.size (W.setCell ⟨w.heap.size + 1, j, none⟩ x) (.slice P0 qs.length P1) qs ∧ LCs bc (W.setCell ⟨w.heap.size + 1, j, none⟩ x) (.slice C0 g.crss.length C1) g.crss ∧ LSt bs (W.setCell ⟨w.heap.size + 1, j, none⟩ x) (.slice S0 g.book.stocks.length S1) g.book.stocks ∧ LOl bl (W.setCell ⟨w.heap.size + 1, j, none⟩ x) (.slice L0 g.book.lines.length L1) g.book.lines ∧ LDf bd (W.setCell ⟨w.heap.size + 1, j, none⟩ x) (.slice D0 g.dffs.length D1) g.dffs ∧ LOu bo (W.setCell ⟨w.heap.size + 1, j, none⟩ x) (.slice O0 g.outs.length O1) g.outs)
  have hG := hs _ 7 (.slice O0 g.outs.length O1) (hs _ 6 (.slice D0 g.dffs.length D1) (hs _ 5 (.slice L0 g.book.lines.length L1) (hs _ 4 (.slice S0 g.book.stocks.length S1) (hs _ 3 (.slice C0 g.crss.length C1) (hs _ 2 (.slice P0 qs.length P1) (hs _ 1 (.int .i64 g.day) (hs _ 0 (.string g.name) ⟨hF.1, hF.2.2⟩)))))))
  exact bodyPost_ret (v := .agg #[.string g.name, .int .i64 g.day, (.slice P0 qs.length P1), (.slice C0 g.crss.length C1), (.slice S0 g.book.stocks.length S1), (.slice L0 g.book.lines.length L1), (.slice D0 g.dffs.length D1), (.slice O0 g.outs.length O1)]) (by simp [results, Tryz.results67, go_sem, r0, r1, r2, r3, r4, r5, r6, r7]) rfl ⟨_, _, _, _, _, _, _, _, _, _, _, _, qs, bc, bs, bl, bd, bo, rfl, ⟨by omega, H2.out.1, hG.2.1.down (by omega), hG.2.2.1, hG.2.2.2.1, hG.2.2.2.2.1, hG.2.2.2.2.2.1, hG.2.2.2.2.2.2, by omega, by omega, by omega, by omega, by omega⟩, hG.1⟩
end Go.Proofs.YtkgkahlhekecmaaGreat
