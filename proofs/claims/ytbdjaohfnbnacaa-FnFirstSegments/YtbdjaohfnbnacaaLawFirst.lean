/- FnFirstSegments returns true at every two lists of bytes and leaves them as they were: the first of drawn segments are read from the beginning of the text of all, as far as that is their own text; no condition. -/
import Derived.Test.YtbdjaohfnbnacaaDrawSegs
import Derived.Test.YtbdjaohfnbnacaaSegsBack
import Derived.Test.YtbdjaohfnbnacaaLwSegs
import Derived.Test.YtbdjaohfnbnacaaTextsGS
import Derived.Deep.CutBlock
import Derived.Deep.RegionHeld3
namespace Go.Proofs.Ytbdjaohfnbnacaa
open Go.ChangeShapes Go.WideShapes Go.ChangeAt Go.RowKit
open Go.Shelf
set_option linter.unusedVariables false
namespace fnFirstSegments
def IsRow (k : IntKind) (w : World) (a : Option Addr) (len cap : Nat) (zs : List Int) : Prop :=
  (a = none ∧ len = 0 ∧ cap = 0 ∧ zs = []) ∨
  ∃ x, a = some x ∧ len ≤ cap ∧ cap ≤ maxLen ∧ zs.length = cap ∧ (∀ i, i < zs.length → w.cell? (x.add i) = some (.int k (zs.getD i 0))) ∧ ∀ n ∈ zs, (Lit.int k n).wf = true
theorem IsRow.bytesAt {w : World} {a : Option Addr} {len cap : Nat} {zs : List Int} (h : IsRow .u8 w a len cap zs) : BytesAt w a len zs := by
  intro g
  rcases h with ⟨_, rfl, _, _⟩ | ⟨x, rfl, hl, _, hz, hc, _⟩
  · omega
  · obtain ⟨b, off, spot⟩ := x
    have h0 := hc 0 (by omega)
    have hspot : spot = none := by simpa [Addr.add] using World.cell?_spot h0
    subst hspot
    refine ⟨b, off, rfl, fun i hi => ?_⟩
    have hplain : (⟨b, off, none⟩ : Addr).add i = ⟨b, off + i, none⟩ := by unfold Addr.add; split <;> simp_all
    have := hc i (by omega)
    rw [hplain] at this
    simpa [List.getD] using this
theorem IsRow.len_le {w : World} {a : Option Addr} {len cap : Nat} {zs : List Int} (h : IsRow .u8 w a len cap zs) : len ≤ 9223372036854775807 := by
  rcases h with ⟨_, rfl, _, _⟩ | ⟨x, rfl, hl, hm, hz, hc, _⟩
  · omega
  · unfold maxLen at hm
    omega
theorem toList_ne0 {s t : ByteArray} (h : s ≠ t) : (s.toList == t.toList) = false ∧ (s.toList != t.toList) = true ∧ ¬ s.toList = t.toList := by
  have h0 : ¬ s.toList = t.toList := fun e => h (by rw [ByteArray.toList_eq, ByteArray.toList_eq] at e; exact ByteArray.ext (Array.toList_inj.1 e))
  exact ⟨by rw [beq_eq_false_iff_ne]; exact h0, by rw [bne_iff_ne]; exact h0, h0⟩
/-- What stands in the law: the syntax in S, the segments. -/
structure L1 (w W : World) (S : Nat) (a b c d : Int) (v : Value) (gs : List Seg) : Prop where
  bel : Below w.heap.size w W
  x : Box4 W S a b c d
  row : RowG W v gs
theorem L1.below {w W W' : World} {S : Nat} {a b c d : Int} {v : Value} {gs : List Seg} (h : L1 w W S a b c d v gs) (hb : Below W.heap.size W W') : L1 w W' S a b c d v gs :=
  ⟨h.bel.trans (hb.mono h.bel.size), h.x.keep (Keep.of_below (B := S + 1) hb) (by omega), h.row.below hb⟩
theorem isE_no {s : ByteArray} (h : s.size ≠ 0) : s.toList.isEmpty = false := by
  rw [List.isEmpty_eq_false_iff]
  intro e
  rw [ByteArray.toList_eq] at e
  exact h (by rw [bsz, e]; rfl)
theorem str_ne {s : ByteArray} (h : s.size ≠ 0) : s ≠ ⟨#[]⟩ := fun e => h (by rw [e]; rfl)
theorem news_of {W : World} {b o C : Nat} {gs : List Seg} (h : RowG W (.slice (some ⟨b, o, none⟩) gs.length C) gs) : ∃ ps : List (Value × List Value), ps.length = gs.length ∧ ∀ (i : Nat) (g : Seg) (p : Value × List Value), gs[i]? = some g → ps[i]? = some p → W.cell? ⟨b, o + i * 2, none⟩ = some (.string g.1) ∧ W.cell? ⟨b, o + i * 2 + 1, none⟩ = some p.1 ∧ RowE W p.1 g.2 := by
  rcases Nat.eq_zero_or_pos gs.length with h0 | h0
  · refine ⟨[], by simp [h0], fun i g p _ hp => by simp at hp⟩
  · obtain ⟨a, cap, e, hc⟩ := h.shape
    obtain ⟨b', o', ea, hcell⟩ := hc (fun e => by rw [e] at h0; simp at h0)
    rw [ea] at e
    simp only [Value.slice.injEq, Option.some.injEq, Addr.mk.injEq] at e
    obtain ⟨⟨rfl, rfl, _⟩, _⟩ := e
    have hch : ∀ i : Nat, ∃ u : Value, ∀ g, gs[i]? = some g → W.cell? ⟨b, o + i * 2, none⟩ = some (.string g.1) ∧ W.cell? ⟨b, o + i * 2 + 1, none⟩ = some u ∧ RowE W u g.2 := fun i => by
      rcases Nat.lt_or_ge i gs.length with hi | hi
      · obtain ⟨h1, u, h2, h3⟩ := hcell i _ (List.getElem?_eq_getElem hi)
        refine ⟨u, fun g hg => ?_⟩
        rw [List.getElem?_eq_getElem hi] at hg
        cases hg
        exact ⟨h1, h2, h3⟩
      · exact ⟨undef, fun g hg => by rw [List.getElem?_eq_none hi] at hg; cases hg⟩
    obtain ⟨f, hf⟩ := Classical.axiomOfChoice hch
    refine ⟨(List.range gs.length).map fun i => (f i, []), by simp, fun i g p hg hp => ?_⟩
    have hi := (List.getElem?_eq_some_iff.1 hg).1
    simp [hi] at hp
    subst hp
    exact hf i g hg
theorem cellsL_len {gs : List Seg} {ps : List (Value × List Value)} (h : ps.length = gs.length) : (cellsL gs ps).length = gs.length * 2 := by
  induction gs generalizing ps with
  | nil => simp [cellsL]
  | cons g gs ih =>
    cases ps with
    | nil => simp at h
    | cons p ps =>
      have e : cellsL (g :: gs) (p :: ps) = .string g.1 :: p.1 :: cellsL gs ps := by simp [cellsL]
      rw [e]
      simp at h
      simp [ih h]
      omega
theorem cellsL_all {gs : List Seg} {ps : List (Value × List Value)} (h : ps.length = gs.length) {P : Nat → Value → Prop} (h1 : ∀ (i : Nat) (g : Seg) (p : Value × List Value), gs[i]? = some g → ps[i]? = some p → P (i * 2) (.string g.1) ∧ P (i * 2 + 1) p.1) : ∀ j u, (cellsL gs ps)[j]? = some u → P j u := by
  intro j u hu
  have hj := (List.getElem?_eq_some_iff.1 hu).1
  rw [cellsL_len h] at hj
  have hi : j / 2 < gs.length := by omega
  have hg : gs[j / 2]? = some gs[j / 2] := List.getElem?_eq_getElem hi
  have hp : ps[j / 2]? = some (ps[j / 2]'(by omega)) := List.getElem?_eq_getElem _
  obtain ⟨c1, c2⟩ := cellsL_get hg hp
  obtain ⟨p1, p2⟩ := h1 _ _ _ hg hp
  rcases Nat.mod_two_eq_zero_or_one j with q | q
  · have e : j / 2 * 2 = j := by omega
    rw [e] at c1 p1
    rw [c1] at hu
    cases hu
    exact p1
  · have e : j / 2 * 2 + 1 = j := by omega
    rw [e] at c2 p2
    rw [c2] at hu
    cases hu
    exact p2
/-- The copy of the first segments: whatever the order, a list of its own that reads as they do. -/
theorem step_first {ops : Array Oper} {o : Oper} {a : Act} {K : Act → World → Prop} {Q : Exit → Act → World → Prop} {E : Prop} {w W : World} {b o0 k C : Nat} {ks : List Seg} (hgd : o.guard = none) (s x : Operand)
    (ho : o.op = .call { callee := .builtin .append, args := #[s, x], argTypes := #[25, 25] })
    (hs : a.eval s = .slice (some ⟨w.heap.size, 0, none⟩) 0 0) (hx : a.eval x = .slice (some ⟨b, o0, none⟩) k C) (hW : Below w.heap.size w W ∧ W.heap[w.heap.size]? = some (.cells #[] 44))
    (hR : RowG w (.slice (some ⟨b, o0, none⟩) k C) ks) (hk : ks.length = k) (hk2 : k ≤ 201)
    (h : ∀ A C' w', RowG w' (.slice A k C') ks → Below w.heap.size w w' → K (a.put o.dst (.slice A k C')) w') :
    if Region.wanted o (yielded ops a.tmps) = true then Oper.wp Try.prog o a W K Q else E := by
  subst hk
  have hw : Region.wanted o (yielded ops a.tmps) = true := by simp [Region.wanted, hgd]
  rw [if_pos hw]
  obtain ⟨i0, hi, hz0, hz1, hz2⟩ := info_parts infoSg
  obtain ⟨ps, hpl, hps⟩ := news_of (hR.below hW.1)
  have hr := hR.below hW.1
  have hadd : ∀ j, (⟨b, o0, none⟩ : Addr).add j = ⟨b, o0 + j, none⟩ := fun j => by unfold Addr.add; split <;> simp_all
  have hlt : w.heap.size < W.heap.size := (Array.getElem?_eq_some_iff.1 hW.2).1
  refine wp_append_own W s x 25 ho w.heap.size 44 i0 (.agg #[.string ⟨#[]⟩, .slice none 0 0]) 2 40 Try.underlying25 hi hz0 hz1 hz2 rfl (by decide) _ 0 [] hs ⟨rfl, .inr ⟨w.heap.size, 0, #[], rfl, Nat.le_refl _, hW.2, Nat.le_refl _, Nat.zero_le _, rfl, rfl⟩⟩ ⟨b, o0, none⟩ ks.length C (cellsL ks ps) hx (cellsL_len hpl) ?_ ?_ (by unfold maxLen; omega) (by omega) (by omega) ?_
  · refine cellsL_all hpl fun i g p hg hp => ?_
    obtain ⟨q1, q2, _⟩ := hps i g p hg hp
    rw [hadd, hadd]
    exact ⟨q1, q2⟩
  · intro u hu
    obtain ⟨j, hj⟩ := List.mem_iff_getElem?.1 hu
    refine cellsL_all (P := fun _ u => u.oneCell' = true) hpl (fun i g p hg hp => ?_) j u hj
    obtain ⟨_, _, q3⟩ := hps i g p hg hp
    obtain ⟨A, c, e⟩ := q3.val
    rw [e]
    exact ⟨by simp [Value.oneCell'], by simp [Value.oneCell']⟩
  · intro v' w' hown hgrow _
    simp only [Nat.zero_add, List.nil_append] at hown
    obtain ⟨A, C', rfl⟩ : ∃ A C', v' = .slice A ks.length C' := by
      rcases hown.2 with ⟨rfl, h0⟩ | ⟨g, cap, cur, rfl, _⟩
      · exact ⟨none, 0, by rw [h0]⟩
      · exact ⟨_, _, rfl⟩
    have hb : Below w.heap.size W w' := ⟨hgrow.os, hgrow.tape, hgrow.output, hgrow.size, fun k hk => hgrow.block k (by omega) (by simp [Value.ownBlock]; omega)⟩
    have hbw : Below w.heap.size w w' := hW.1.trans hb
    refine h A C' w' ?_ hbw
    have hr' := hR.below hbw
    refine ⟨⟨_, _, rfl, fun hn => ?_⟩, hR.len, hR.sizes⟩
    rcases hown.2 with ⟨_, h0⟩ | ⟨g, cap, cur, e, _⟩
    · exact absurd (List.length_eq_zero_iff.1 h0) hn
    · simp only [Value.slice.injEq] at e
      obtain ⟨rfl, _, rfl⟩ := e
      refine ⟨g, 0, rfl, fun i e hi => ?_⟩
      have hilt := (List.getElem?_eq_some_iff.1 hi).1
      have hv : ps[i]? = some (ps[i]'(by omega)) := List.getElem?_eq_getElem _
      obtain ⟨g1, g2⟩ := cellsL_get hi hv
      have h1 := hown.cells (g := g) rfl _ _ g1
      have h2 := hown.cells (g := g) rfl _ _ g2
      have e1 : ∀ i, (⟨g, 0, none⟩ : Addr).add i = ⟨g, 0 + i, none⟩ := fun i => by unfold Addr.add; split <;> simp_all
      rw [e1] at h1 h2
      obtain ⟨b2, o2, c2, g', u', ee, hg', _, hu', hre, _⟩ := hr'.at hilt
      simp only [Value.slice.injEq, Option.some.injEq, Addr.mk.injEq] at ee
      obtain ⟨⟨rfl, rfl, _⟩, _⟩ := ee
      rw [hi] at hg'
      cases hg'
      obtain ⟨_, q2, q3⟩ := hps i e _ hi hv
      have q2' : w.cell? ⟨b, o0 + i * 2 + 1, none⟩ = some (ps[i]'(by omega)).1 := by
        obtain ⟨b3, o3, c3, g3, u3, e3, hg3, _, hu3, _, _⟩ := hR.at hilt
        simp only [Value.slice.injEq, Option.some.injEq, Addr.mk.injEq] at e3
        obtain ⟨⟨rfl, rfl, _⟩, _⟩ := e3
        have := (hW.1.cell (p := ⟨b, o0 + i * 2 + 1, none⟩) (cell_lt hu3)).trans hu3
        rw [q2] at this
        rw [hu3, ← this]
      have hu2 := (hbw.cell (p := ⟨b, o0 + i * 2 + 1, none⟩) (cell_lt q2')).trans q2'
      rw [hu'] at hu2
      cases hu2
      exact ⟨h1, _, h2, hre⟩
/-- The first byte of a list. -/
def ByteOne (w : World) (a : Option Addr) (len : Nat) : Prop := len ≠ 0 → ∃ b off n, a = some ⟨b, off, none⟩ ∧ w.cell? ⟨b, off, none⟩ = some (.int .u8 n) ∧ 0 ≤ n ∧ n ≤ 255
theorem IsRow.one {w : World} {a : Option Addr} {len cap : Nat} {zs : List Int} (h : IsRow .u8 w a len cap zs) : ByteOne w a len := by
  intro g
  rcases h with ⟨_, rfl, _, _⟩ | ⟨x, rfl, hl, _, hz, hc, hw⟩
  · omega
  · obtain ⟨b, off, spot⟩ := x
    have h0 := hc 0 (by omega)
    have hspot : spot = none := by simpa [Addr.add] using World.cell?_spot h0
    subst hspot
    have hplain : (⟨b, off, none⟩ : Addr).add 0 = ⟨b, off, none⟩ := by unfold Addr.add; split <;> simp_all
    rw [hplain] at h0
    refine ⟨b, off, _, rfl, h0, ?_⟩
    have hm : zs.getD 0 0 ∈ zs := by
      rw [List.getD_eq_getElem?_getD, List.getElem?_eq_getElem (by omega), Option.getD_some]
      exact List.getElem_mem _
    have := hw _ hm
    simp only [Lit.wf, Bool.and_eq_true, decide_eq_true_eq] at this
    exact this
theorem ByteOne.below {w w' : World} {a : Option Addr} {len : Nat} (h : ByteOne w a len) (hb : Below w.heap.size w w') : ByteOne w' a len := by
  intro g
  obtain ⟨b, off, n, e, hc, hn⟩ := h g
  exact ⟨b, off, n, e, (hb.cell (p := ⟨b, off, none⟩) (cell_lt hc)).trans hc, hn⟩
set_option maxHeartbeats 2000000 in
theorem lwAt_any (a : Option Addr) (len cap : Nat) (most : Int) (w : World) (hl : len ≤ 1048576) (hr : ByteOne w a len) (hm : 1 < most) (hm2 : most ≤ 1000) :
    Calls Try.prog 10 #[.slice a len cap, .int .i64 0, .int .i64 most] w fun e w' => ∃ k : Int, e = .returned (.int .i64 k) ∧ 0 ≤ k ∧ k < most ∧ Below w.heap.size w w' := by
  have hm' : ¬ most ≤ 1 := by omega
  by_cases h0 : len = 0
  · subst h0
    go_enter Try.func10, Try.ntmps10
    go_wp2
    go_ret
    exact ⟨_, rfl, by omega, by omega, Below.refl _ _⟩
  · obtain ⟨b, off, n, rfl, hc, hn0, hn1⟩ := hr h0
    have h1 : ((len : Int) == 0) = false := by rw [beq_eq_false_iff_ne]; omega
    have h2 : (0 : Int) < (len : Int) := by omega
    have h3 : ¬ most = 0 := by omega
    clear hr
    go_enter Try.func10, Try.ntmps10
    go_wp2
    go_ret
    exact ⟨_, rfl, Int.emod_nonneg n (by omega), Int.emod_lt_of_pos n (by omega), Below.refl _ _⟩
set_option maxRecDepth 20000 in
set_option maxHeartbeats 4000000 in
theorem walk (a0 : Option Addr) (len0 cap0 : Nat) (z0 : List Int) (a1 : Option Addr) (len1 cap1 : Nat) (z1 : List Int) (w : World) (w0 : IsRow .u8 w a0 len0 cap0 z0) (w1 : IsRow .u8 w a1 len1 cap1 z1) :
    Calls Try.prog 4 #[.slice a0 len0 cap0, .slice a1 len1 cap1] w fun e w' => e = .returned (.bool true) ∧ Below w.heap.size w w' := by
  have hl0 := w0.len_le
  have hl1 := w1.len_le
  have HR : Hid (BytesAt w a0 len0 z0 ∧ ByteOne w a1 len1) := ⟨w0.bytesAt, w1.one⟩
  clear w0 w1
  by_cases hg : 1048576 < len0
  · have hg' : (1048576 : Int) < (len0 : Int) := by omega
    clear HR
    go_enter Try.func4, Try.ntmps4
    go_wp2
    go_ret
    exact ⟨rfl, Below.refl _ _⟩
  have hg' : (len0 : Int) ≤ 1048576 := by omega
  by_cases hh : 1048576 < len1
  · have hh' : (1048576 : Int) < (len1 : Int) := by omega
    clear HR
    go_enter Try.func4, Try.ntmps4
    go_wp2
    go_ret
    exact ⟨rfl, Below.refl _ _⟩
  have hh' : (len1 : Int) ≤ 1048576 := by omega
  go_enter Try.func4, Try.ntmps4
  go_wp2_with fail
  refine (drawSegmentsText_any a0 len0 cap0 z0 _ (by omega) HR.out.1).mono ?_
  rintro e w1 ⟨a, b, c, d, v, gs, rfl, hgl, ⟨Av, Cv, rfl, hcap⟩, hrow, hbd, hb1⟩
  have hs1 := hb1.size
  have b2 : Below w1.heap.size w1 (w1.alloc (.cells #[.int .i64 a, .int .i64 b, .int .i64 c, .int .i64 d] 24)) := (Below.refl _ _).alloc (Nat.le_refl _) _
  have hW : L1 w (w1.alloc (.cells #[.int .i64 a, .int .i64 b, .int .i64 c, .int .i64 d] 24)) w1.heap.size a b c d (.slice Av gs.length Cv) gs := ⟨hb1.trans (b2.mono hs1), Box4.new w1 24 a b c d, hrow.below b2⟩
  have HB : Hid (BdG 1048576 gs) := hbd
  have x0 := hW.x.c0
  have x1 := hW.x.c1
  have x2 := hW.x.c2
  have x3 := hW.x.c3
  clear hrow hbd hb1 b2
  go_wp2_with fail
  refine (texts_spec a b c d _ gs _ hW.row HB.out).mono ?_
  rintro e w2 ⟨rfl, hb2⟩
  have h2 := hW.below hb2
  clear hb2 hW x0 x1 x2 x3
  have x0 := h2.x.c0
  have x1 := h2.x.c1
  have x2 := h2.x.c2
  have x3 := h2.x.c3
  obtain ⟨T, hT⟩ : ∃ T, textsG a b c d gs = T := ⟨_, rfl⟩
  have HT : Hid (textsG a b c d gs = T) := hT
  rw [hT]
  clear hT
  by_cases hz : T.size = 0
  · obtain rfl : T = ⟨#[]⟩ := by
      apply ByteArray.ext
      apply Array.eq_empty_of_size_eq_zero
      exact hz
    have HL : Hid (Below w.heap.size w w2) := h2.bel
    clear h2
    go_wp2
    go_ret
    exact ⟨rfl, HL.out⟩
  · obtain ⟨n1, n2, n3⟩ := toList_ne0 (str_ne hz)
    have n4 : T.toList.isEmpty = false := isE_no hz
    have hok : okGs a b c d gs := textsG_ok (by rw [HT.out]; exact hz)
    have hpos : 0 < gs.length := by
      rcases Nat.eq_zero_or_pos gs.length with q | q
      · exfalso
        apply hz
        rw [← HT.out, textsG_yes hok, q]
        rfl
      · exact q
    have HO : Hid (okGs a b c d gs) := hok
    clear hok
    go_wp2_with fail
    refine (lwAt_any a1 len1 cap1 _ _ (by omega) (HR.out.2.below h2.bel) (by omega) (by omega)).mono ?_
    rintro e w3 ⟨kk, rfl, hk0, hk1, hb3⟩
    obtain ⟨k, rfl⟩ : ∃ k : Nat, kk = (k : Int) := ⟨kk.toNat, by omega⟩
    have h3 := h2.below hb3
    clear hb3 h2 x0 x1 x2 x3
    have x0 := h3.x.c0
    have x1 := h3.x.c1
    have x2 := h3.x.c2
    have x3 := h3.x.c3
    obtain ⟨bA, oA, hAv⟩ : ∃ bA oA, Av = some ⟨bA, oA, none⟩ := by
      obtain ⟨b', o', c', g', u', e', _⟩ := h3.row.at hpos
      simp only [Value.slice.injEq] at e'
      exact ⟨_, _, e'.1⟩
    subst hAv
    have hkl : k ≤ gs.length := by omega
    have hkc : (k : Int) ≤ (Cv : Int) := by omega
    have hkL : (gs.take k).length = k := by rw [List.length_take]; omega
    have HK : Hid (RowG w3 (.slice (some ⟨bA, oA, none⟩) k Cv) (gs.take k) ∧ BdG 1048576 (gs.take k)) := ⟨h3.row.take k Cv hkl, HB.out.take k⟩
    have hA3 := h3.below ((Below.refl _ w3).alloc (Nat.le_refl _) (.cells #[] 44))
    have xa0 := hA3.x.c0
    have xa1 := hA3.x.c1
    have xa2 := hA3.x.c2
    have xa3 := hA3.x.c3
    clear hA3
    go_wp2_with fail
    go_region_law (first | (refine step_first (w := w3) (ks := gs.take k) (by rfl) _ _ (by rfl) (by rfl) (by rfl) (by first | exact ⟨(Below.refl _ _).alloc (Nat.le_refl _) _, World.alloc_heap_new _ _⟩ | exact ⟨((Below.refl _ _).alloc (Nat.le_refl _) _).drew, World.alloc_heap_new _ _⟩ | exact ⟨((Below.refl _ _).drew).alloc (Nat.le_refl _) _, World.alloc_heap_new _ _⟩) HK.out.1 hkL (by omega) ?_; intro A4 C4 w4 r4 hb4; have h4 := h3.below hb4; have y0 := h4.x.c0; have y1 := h4.x.c1; have y2 := h4.x.c2; have y3 := h4.x.c3; have H4 : Hid (L1 w w4 w1.heap.size a b c d (.slice (some ⟨bA, oA, none⟩) gs.length Cv) gs ∧ RowG w4 (.slice A4 k C4) (gs.take k)) := ⟨h4, r4⟩; clear h4 r4 hb4) | (go_simp; go_at_call 7; refine (texts_impl a b c d _ (gs.take k) _ (H4.out.2.below (by first | exact Below.refl _ _ | exact (Below.refl _ _).drew)) HK.out.2).mono ?_; rintro e w5 ⟨rfl, hb5⟩; have h5 : L1 w w5 w1.heap.size a b c d (.slice (some ⟨bA, oA, none⟩) gs.length Cv) gs := (H4.out.1.below (by first | exact hb5 | exact (Below.refl _ _).drew.trans hb5)); have HH5 : Hid (L1 w w5 w1.heap.size a b c d (.slice (some ⟨bA, oA, none⟩) gs.length Cv) gs) := h5; clear hb5 h5; try dsimp only))
    all_goals
      obtain ⟨f1, f2⟩ := texts_first HO.out k hkl
      have hrd := rds_back (okGs_take HO.out k hkl)
      rw [HT.out] at f1 f2
      obtain ⟨P, hP⟩ : ∃ P, textsG a b c d (gs.take k) = P := ⟨_, rfl⟩
      rw [hP] at f1 f2 hrd
      rw [hP]
      have q1 : ¬ (T.size : Int) < (P.size : Int) := by omega
      have q2 : (P.size : Int) ≤ (T.size : Int) := by omega
      have q3 : ((T.extract 0 P.size).toList != P.toList) = false := by rw [f2]; simp
      have q4 : ((T.extract 0 P.size).toList == P.toList) = true := by rw [f2]; simp
      have HRD : Hid (rdsR a b c d P = (0, 0, 0, gs.take k)) := hrd
      have HOk : Hid (okGs a b c d (gs.take k)) := okGs_take HO.out k hkl
      have z0 := HH5.out.x.c0
      have z1 := HH5.out.x.c1
      have z2 := HH5.out.x.c2
      have z3 := HH5.out.x.c3
      clear hP f1 f2 hrd HK H4
      go_wp2_with fail
      refine (segsRead_any a b c d P _).mono ?_
      rintro e w6 ⟨v6, ps6, rfl, hO6, hb6⟩
      rw [HRD.out] at hO6 ⊢
      obtain ⟨A6, C6, hv6⟩ := hO6.slice
      subst hv6
      have r6 := hO6.rowR HOk.out.2.2.1 HOk.out.2.1
      rw [hkL] at r6 ⊢
      have h6 := HH5.out.below hb6
      have b7 : Below w6.heap.size w6 (w6.alloc (.cells #[.slice A6 k C6, .int .i64 0, .int .i64 0, .int .i64 0] 30)) := (Below.refl _ _).alloc (Nat.le_refl _) _
      have h7 := h6.below b7
      have r7 := r6.below b7
      have s7 : RowG (w6.alloc (.cells #[.slice A6 k C6, .int .i64 0, .int .i64 0, .int .i64 0] 30)) (.slice (some ⟨bA, oA, none⟩) k Cv) (gs.take k) := h7.row.take k Cv hkl
      have y0 : (w6.alloc (.cells #[.slice A6 k C6, .int .i64 0, .int .i64 0, .int .i64 0] 30)).cell? ⟨w6.heap.size, 0, none⟩ = some (.slice A6 k C6) := by simp [go_sem]
      have y3 : (w6.alloc (.cells #[.slice A6 k C6, .int .i64 0, .int .i64 0, .int .i64 0] 30)).cell? ⟨w6.heap.size, 3, none⟩ = some (.int .i64 0) := by simp [go_sem]
      have HF : Hid (Below w.heap.size w (w6.alloc (.cells #[.slice A6 k C6, .int .i64 0, .int .i64 0, .int .i64 0] 30)) ∧ RowG (w6.alloc (.cells #[.slice A6 k C6, .int .i64 0, .int .i64 0, .int .i64 0] 30)) (.slice A6 k C6) (gs.take k) ∧ RowG (w6.alloc (.cells #[.slice A6 k C6, .int .i64 0, .int .i64 0, .int .i64 0] 30)) (.slice (some ⟨bA, oA, none⟩) k Cv) (gs.take k)) := ⟨h7.bel, r7, s7⟩
      clear hO6 r6 h6 h7 r7 s7 hb6 b7 z0 z1 z2 z3 HH5 h3 x0 x1 x2 x3 xa0 xa1 xa2 xa3
      dsimp only
      go_wp2_with fail
      generalize hW7 : (w6.alloc (.cells #[.slice A6 k C6, .int .i64 0, .int .i64 0, .int .i64 0] 30)) = W7 at *
      clear hW7
      have hlt7 := cell_lt y0
      go_region_held3 (fun W => W.cell? ⟨w6.heap.size, 0, none⟩ = some (.slice A6 k C6) ∧ W.cell? ⟨w6.heap.size, 3, none⟩ = some (.int .i64 0)) (go_keep) (first | (go_at_call 9; refine (lwSegs_any _ _ (gs.take k) _ (HF.out.2.1.below (Below.refl _ _).drew) (HF.out.2.2.below (Below.refl _ _).drew)).mono ?_; rintro e w8 ⟨rfl, hb8⟩; have u0 := (hb8.cell (p := ⟨w6.heap.size, 0, none⟩) hlt7).trans y0; have u3 := (hb8.cell (p := ⟨w6.heap.size, 3, none⟩) hlt7).trans y3))
      have HE : Hid (Below w.heap.size w w8) := HF.out.1.drew.trans (hb8.mono HF.out.1.size)
      clear hb8
      rename_i hHeld
      clear hHeld
      go_wp2
      go_ret
      exact ⟨rfl, HE.out⟩
theorem own : ownKnob Try.prog.godebug = none := by kernel_rfl
theorem laidOut : laidOutB Try.prog = true := by kernel_rfl
set_option maxRecDepth 100000 in
theorem lifted (os : Os) (started : os.Started) (H : Type) (enc : TypeId × Value → H) :
    ReturnsInHanded {} Try.checked os 4 .any (Rows.fnFirstSegmentsSpec.pre6 enc Try.prog Try.f4 Rows.fnFirstSegmentsRow.domain false) (Rows.fnFirstSegmentsSpec.post enc Try.prog Try.f4 false true false false) := by
  refine returnsInHanded_of_change (C := Try.checked) own started (by kernel_rfl) Try.func4
    (ChangeSpec.witness6 (enc := enc) (C := Try.checked) false ⟨#[], #[.slice none 0 0, .slice none 0 0], []⟩ 8 (by kernel_rfl) (by kernel_rfl) (by kernel_rfl) (by kernel_rfl)) ?_
  intro W base args ds gs before hval0 hW hcnd _
  have hval : ∀ (j : Nat) t v, Try.f4.params[j]? = some t → args[j]? = some v → Value.okWide Try.prog W .any base t v := hval0
  have hW' := hW
  obtain ⟨p, q, hA0, hV, rfl, hfz, hnd⟩ := hW
  have hA : DataW.TrodAll enc Try.prog W 0 (fun _ => true) true Try.f4.params.toList args.toList ds p := hA0
  rw [Try.params4] at hA hval
  obtain ⟨v0, vs0, d0, ds0, p0, q0, hargs, rfl, rfl, h0, r0⟩ := trodAll_cons hA
  obtain ⟨v1, vs1, d1, ds1, p1, q1, rfl, rfl, rfl, h1, r1⟩ := trodAll_cons r0
  obtain ⟨rfl, rfl, rfl⟩ := trodAll_nil r1
  obtain rfl : args = #[v0, v1] := by cases args; simp_all
  obtain ⟨rfl, rfl⟩ := trodVars_none hV
  obtain ⟨a0, len0, cap0, rfl⟩ := okWide_slice Try.underlying22 (hval 0 22 v0 rfl rfl)
  have k0 := h0
  have lt0 : ∀ x ∈ p0, x.block < W.heap.size := by obtain ⟨m, hm⟩ := k0; exact DataW.trod_lt m _ _ _ hm
  obtain ⟨z0, w0⟩ : ∃ zs, IsRow .u8 W a0 len0 cap0 zs := by
    obtain ⟨fuel, hf⟩ := h0
    rcases open_ints Try.underlying22 Try.underlying5 (by kernel_rfl) hf with ⟨hcs, _⟩ | ⟨x, l, c, zs, hcs, _, hl, hm, hz, _, hcell, hwz⟩
    · simp [Value.cells] at hcs
      obtain ⟨rfl, rfl, rfl⟩ := hcs
      exact ⟨[], .inl ⟨rfl, rfl, rfl, rfl⟩⟩
    · simp [Value.cells] at hcs
      obtain ⟨rfl, rfl, rfl⟩ := hcs
      exact ⟨zs, .inr ⟨_, rfl, hl, hm, by simpa using hz, hcell, hwz⟩⟩
  obtain ⟨a1, len1, cap1, rfl⟩ := okWide_slice Try.underlying22 (hval 1 22 v1 rfl rfl)
  have k1 := h1
  have lt1 : ∀ x ∈ p1, x.block < W.heap.size := by obtain ⟨m, hm⟩ := k1; exact DataW.trod_lt m _ _ _ hm
  obtain ⟨z1, w1⟩ : ∃ zs, IsRow .u8 W a1 len1 cap1 zs := by
    obtain ⟨fuel, hf⟩ := h1
    rcases open_ints Try.underlying22 Try.underlying5 (by kernel_rfl) hf with ⟨hcs, _⟩ | ⟨x, l, c, zs, hcs, _, hl, hm, hz, _, hcell, hwz⟩
    · simp [Value.cells] at hcs
      obtain ⟨rfl, rfl, rfl⟩ := hcs
      exact ⟨[], .inl ⟨rfl, rfl, rfl, rfl⟩⟩
    · simp [Value.cells] at hcs
      obtain ⟨rfl, rfl, rfl⟩ := hcs
      exact ⟨zs, .inr ⟨_, rfl, hl, hm, by simpa using hz, hcell, hwz⟩⟩
  clear hA0 hval0
  refine (walk a0 len0 cap0 z0 a1 len1 cap1 z1 W w0 w1).mono fun e W' ⟨he, bel⟩ => ?_
  subst he
  exact ⟨_, rfl, _, _, _, [], _, [], hW', trodAll_mk1 (shut_bool Try.underlying4 _), (trodAll_cons_mk (Below.trod laidOut (by kernel_rfl) (of_decide_eq_true (by kernel_rfl)) k0 bel lt0) (trodAll_cons_mk (Below.trod laidOut (by kernel_rfl) (of_decide_eq_true (by kernel_rfl)) k1 bel lt1) trodAll_mk0)), rfl, bel.frame _, fun h => by cases h⟩
theorem over : Rows.fnFirstSegmentsRow.holds Try.pinned (OpenSpec.ofChange Rows.fnFirstSegmentsSpec) :=
  OpenClaim.holds_of_wide 4 Try.f4 rfl rfl rfl rfl rfl rfl rfl ⟨rfl, rfl, rfl, rfl, rfl⟩ rfl rfl rfl rfl rfl (by kernel_rfl) Try.func4 (by kernel_rfl)
    (of_decide_eq_true (by kernel_rfl)) (by unfold Func.isWrapper; first | (rw [if_pos (by decide +kernel)]; kernel_rfl) | (rw [if_neg (by decide +kernel)]; exact ⟨rfl, rfl⟩))
    (fun os started H enc _ => lifted os started H enc)
end fnFirstSegments
theorem fnFirstSegments_holds : Rows.FnFirstSegmentsSaid := fnFirstSegments.over
#print axioms fnFirstSegments_holds
end Go.Proofs.Ytbdjaohfnbnacaa
