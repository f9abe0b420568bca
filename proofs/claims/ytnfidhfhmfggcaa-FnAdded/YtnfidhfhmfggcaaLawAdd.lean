/- FnAdded returns true at every text and leaves it as it was: a drawn line that is added to a right list is found at its place, and all others are there; no condition. -/
import Derived.Test.YtnfidhfhmfggcaaLnM
import Derived.Test.YtnfidhfhmfggcaaInsE
import Derived.Test.YtnfidhfhmfggcaaInsF
import Derived.Test.YtnfidhfhmfggcaaLnG
import Derived.Test.YtnfidhfhmfggcaaLnB
import Derived.Test.YtnfidhfhmfggcaaAppZOl
import Derived.Laws.StructEq
import Derived.Deep.RegionHeld3
import Derived.Deep.RegionLaw
import Derived.Deep.Cut
import Derived.Deep.CutRange
import Derived.Deep.DeepMust
namespace Go.Proofs.Ytnfidhfhmfggcaa
open Go.ChangeShapes Go.WideShapes Go.ChangeAt Go.RowKit
set_option linter.unusedVariables false
namespace fnAdded
def IsRow (k : IntKind) (w : World) (a : Option Addr) (len cap : Nat) (zs : List Int) : Prop :=
  (a = none ∧ len = 0 ∧ cap = 0 ∧ zs = []) ∨
  ∃ x, a = some x ∧ len ≤ cap ∧ cap ≤ maxLen ∧ zs.length = cap ∧ (∀ i, i < zs.length → w.cell? (x.add i) = some (.int k (zs.getD i 0))) ∧ ∀ n ∈ zs, (Lit.int k n).wf = true
theorem IsRow.bytesAt {w : World} {a : Option Addr} {len cap : Nat} {zs : List Int} (h : IsRow .u8 w a len cap zs) : BytesAt w a len zs := by
  intro g
  rcases h with ⟨_, rfl, _, _⟩ | ⟨x, rfl, hl, _, hz, hc, _⟩
  · omega
  · obtain ⟨b, off, spot⟩ := x
    have h0 := hc 0 (by omega)
    have hspot : spot = none := by simpa [Addr.add] using World.cell?_spot h0
    subst hspot
    refine ⟨b, off, rfl, fun i hi => ?_⟩
    have hplain : (⟨b, off, none⟩ : Addr).add i = ⟨b, off + i, none⟩ := by unfold Addr.add; split <;> simp_all
    have := hc i (by omega)
    rw [hplain] at this
    simpa [List.getD] using this
theorem IsRow.len_le {w : World} {a : Option Addr} {len cap : Nat} {zs : List Int} (h : IsRow .u8 w a len cap zs) : len ≤ 9223372036854775807 := by
  rcases h with ⟨_, rfl, _, _⟩ | ⟨x, rfl, hl, hm, hz, hc, _⟩
  · omega
  · unfold maxLen at hm
    omega
theorem und {a b : World} (h : Below a.drew.heap.size a.drew b) : Below a.heap.size a b := (Below.refl _ _).drew.trans h
theorem olnUnder : Try.prog.underlying 24 = some (.struct (Try.prog.fieldsOf 24)) := by kernel_rfl
theorem run_neq_oln (l : OLn) (w : World) : (binOp .neq 24 (.agg #[.string l.partner, .string l.ref, .int .i64 l.no, .string l.item, .int .i64 l.ordered, .int .i64 l.sent, .int .i64 l.got, .int .i64 l.cut]) (.agg #[.string l.partner, .string l.ref, .int .i64 l.no, .string l.item, .int .i64 l.ordered, .int .i64 l.sent, .int .i64 l.got, .int .i64 l.cut])).run Try.prog w = .ok (.bool false) w := by
  have hF : Try.prog.fieldsOf 24 = (match Try.prog.underlying 24 with | some (.struct fs) => fs | _ => #[]) := rfl
  rw [Try.underlying24] at hF
  rw [run_neq_struct, run_equalIn_struct _ _ _ _ _ olnUnder (by kernel_rfl), hF]
  simp [go_sem, Op.eqFields]
theorem addT_right {rs : List OLn} (h : RightL rs) (l : OLn) : RightL (addT rs l) := by
  by_cases h2 : RightL (insT rs (plcL rs l) l)
  · rw [addT_yes h h2]
    exact h2
  · have := h.len
    rw [addT_no (by omega) fun ⟨_, h3⟩ => h2 h3]
    exact h
theorem find_at {L : List OLn} (h : RightL L) {k : Nat} {g : OLn} (hg : L[k]? = some g) : findT L g.partner g.ref g.no = (k : Int) := by
  have hl := h.len
  have hok := h.ok g (List.mem_of_getElem? hg)
  have h1 := nameB_sizes hok.p
  have h2 := nameB_sizes hok.r
  exact findT_of (.inr ⟨⟨by omega, by omega, by omega⟩, .inr ⟨h, .inl ⟨k, g, hg, rfl, rfl⟩⟩⟩)
/-- The drawn line in its box, the drawn list. -/
structure SA (P : Nat) (l : OLn) (lv : Value) (rs : List OLn) (w W : World) : Prop where
  bel : Below w.heap.size w W
  box : W.heap[P]? = some (.cells #[.string l.partner, .string l.ref, .int .i64 l.no, .string l.item, .int .i64 l.ordered, .int .i64 l.sent, .int .i64 l.got, .int .i64 l.cut] 24)
  row : RowOl W lv rs
theorem SA.below {P : Nat} {l : OLn} {lv : Value} {rs : List OLn} {w W W' : World} (h : SA P l lv rs w W) (hb : Below W.heap.size W W') : SA P l lv rs w W' := ⟨h.bel.trans (hb.mono h.bel.size), (hb.block _ (Array.getElem?_eq_some_iff.1 h.box).1).trans h.box, h.row.below hb⟩
theorem smBZ {l : OLn} (h : SmL l) : l.partner.size ≤ 1048576 ∧ l.ref.size ≤ 1048576 ∧ l.item.size ≤ 1048576 := by
  obtain ⟨h1, h2, h3⟩ := h
  omega
set_option maxRecDepth 100000 in
set_option maxHeartbeats 8000000 in
theorem walk (a0 : Option Addr) (len0 cap0 : Nat) (z0 : List Int) (w : World) (w0 : IsRow .u8 w a0 len0 cap0 z0) :
    Calls Try.prog 4 #[.slice a0 len0 cap0] w fun e w' => e = .returned (.bool true) ∧ Below w.heap.size w w' := by
  have hl0 := w0.len_le
  have HR : Hid (BytesAt w a0 len0 z0) := w0.bytesAt
  clear w0
  by_cases hg : 1048576 < len0
  · have hg' : (1048576 : Int) < (len0 : Int) := by omega
    clear HR
    go_enter Try.func4, Try.ntmps4
    go_wp2
    go_ret
    exact ⟨rfl, Below.refl _ _⟩
  have hg' : (len0 : Int) ≤ 1048576 := by omega
  go_enter Try.func4, Try.ntmps4
  go_wp2_with fail
  refine (drawLinesAdd_any a0 len0 cap0 z0 _ (by omega) HR.out).mono ?_
  rintro e w1 ⟨ad, C, rs, l, rfl, hr, hsm, hlen, hsl, hb1⟩
  obtain ⟨W1, hW1⟩ : ∃ W1, w1.alloc (.cells #[.string l.partner, .string l.ref, .int .i64 l.no, .string l.item, .int .i64 l.ordered, .int .i64 l.sent, .int .i64 l.got, .int .i64 l.cut] 24) = W1 := ⟨_, rfl⟩
  have ha1 : Below w1.heap.size w1 W1 := by rw [← hW1]; exact (Below.refl _ _).alloc (Nat.le_refl _) _
  have hx1 : W1.heap[w1.heap.size]? = some (.cells #[.string l.partner, .string l.ref, .int .i64 l.no, .string l.item, .int .i64 l.ordered, .int .i64 l.sent, .int .i64 l.got, .int .i64 l.cut] 24) := by rw [← hW1]; exact World.alloc_heap_new _ _
  obtain ⟨P, hP⟩ : ∃ P, P = w1.heap.size := ⟨_, rfl⟩
  rw [← hP] at hx1
  have H1 : Hid (SA P l (.slice (some ad) rs.length C) rs w W1) := ⟨hb1.trans (ha1.mono hb1.size), hx1, hr.below ha1⟩
  have HS : Hid ((∀ g ∈ rs, SmL g) ∧ SmL l) := ⟨hsm, hsl⟩
  have HW : Hid (w1.alloc (.cells #[.string l.partner, .string l.ref, .int .i64 l.no, .string l.item, .int .i64 l.ordered, .int .i64 l.sent, .int .i64 l.got, .int .i64 l.cut] 24) = W1 ∧ P = w1.heap.size) := ⟨hW1, hP⟩
  clear hr hsm hb1 HR hW1 hP ha1 hx1 hsl
  go_upto_region 4 with fail
  try rw [HW.out.1]
  try rw [← HW.out.2]
  clear HW
  have hal := addT_len rs l
  have HA : Hid (∃ aL, addT rs l = aL ∧ (RightL rs → RightL aL) ∧ (∀ g ∈ aL, SmL g) ∧ aL.length ≤ 251) := ⟨_, rfl, fun h => addT_right h l, fun g hg => by
    rcases addT_mem hg with rfl | hg
    · exact HS.out.2
    · exact HS.out.1 g hg, by omega⟩
  obtain ⟨aL, haL, hRA, hSA, hLA⟩ := HA.out
  have QS : Hid (∀ W, RowOl W (.slice (some ad) rs.length C) rs → Calls Try.prog 13 #[.slice (some ad) rs.length C, .agg #[.string l.partner, .string l.ref, .int .i64 l.no, .string l.item, .int .i64 l.ordered, .int .i64 l.sent, .int .i64 l.got, .int .i64 l.cut]] W fun e w' => ∃ ad' C', e = .returned (.slice (some ad') aL.length C') ∧ RowOl w' (.slice (some ad') aL.length C') aL ∧ Below W.heap.size W w') := fun W hW => by rw [← haL]; exact linesAdd_spec ad C rs l W hW (SmL.max HS.out.2)
  have QI : Hid (∀ W (ad2 : Addr) C2, RowOl W (.slice (some ad2) rs.length C2) rs → Calls Try.prog 14 #[.slice (some ad2) rs.length C2, .agg #[.string l.partner, .string l.ref, .int .i64 l.no, .string l.item, .int .i64 l.ordered, .int .i64 l.sent, .int .i64 l.got, .int .i64 l.cut]] W fun e w' => ∃ u b, e = .returned u ∧ W.heap.size ≤ b ∧ LOl b w' u aL ∧ Below W.heap.size W w') := fun W ad2 C2 hW => by rw [← haL]; exact linesAdd_impl ad2 C2 rs l W hW (fun c hc => smBZ (HS.out.1 c hc)) (smBZ HS.out.2)
  have HN : Hid ((RightL rs → RightL aL) ∧ ∀ g ∈ aL, SmL g) := ⟨hRA, hSA⟩
  clear haL hRA hSA HA hal
  obtain ⟨c0, c1, c2, c3, c4, c5, c6, c7⟩ := box8 H1.out.box
  go_wp2_with fail
  refine (QS.out _ H1.out.row).mono ?_
  rintro e w2 ⟨ad5, C5, rfl, hr5, hb5⟩
  have H2 : Hid (SA P l (.slice (some ad) rs.length C) rs w w2 ∧ RowOl w2 (.slice (some ad5) aL.length C5) aL) := ⟨H1.out.below hb5, hr5⟩
  clear hr5 hb5 H1 QS c0 c1 c2 c3 c4 c5 c6 c7
  go_upto_region 5 with fail
  obtain ⟨c0, c1, c2, c3, c4, c5, c6, c7⟩ := box8 H2.out.1.box
  have HB2 : Hid (∀ W, Below w2.heap.size w2 W → W.cell? ⟨P, 0, none⟩ = some (.string l.partner) ∧ W.cell? ⟨P, 1, none⟩ = some (.string l.ref) ∧ W.cell? ⟨P, 2, none⟩ = some (.int .i64 l.no) ∧ W.cell? ⟨P, 3, none⟩ = some (.string l.item) ∧ W.cell? ⟨P, 4, none⟩ = some (.int .i64 l.ordered) ∧ W.cell? ⟨P, 5, none⟩ = some (.int .i64 l.sent) ∧ W.cell? ⟨P, 6, none⟩ = some (.int .i64 l.got) ∧ W.cell? ⟨P, 7, none⟩ = some (.int .i64 l.cut)) := fun W hW => box8 (H2.out.1.below hW).box
  have ha3 : Below w2.heap.size w2 (w2.alloc (.cells #[] 24)) := (Below.refl _ _).alloc (Nat.le_refl _) _
  have hown := own0Ol w2 (Nat.le_refl w2.heap.size)
  have hrow := (H2.out.1.below ha3).row
  obtain ⟨e0, e1, e2, e3, e4, e5, e6, e7⟩ := HB2.out _ ha3
  have HA3 : Hid (Below w2.heap.size w2 (w2.alloc (.cells #[] 24))) := ha3
  clear ha3
  go_region_held3 (fun W => W.cell? ⟨P, 0, none⟩ = some (.string l.partner) ∧ W.cell? ⟨P, 1, none⟩ = some (.string l.ref) ∧ W.cell? ⟨P, 2, none⟩ = some (.int .i64 l.no) ∧ W.cell? ⟨P, 3, none⟩ = some (.string l.item) ∧ W.cell? ⟨P, 4, none⟩ = some (.int .i64 l.ordered) ∧ W.cell? ⟨P, 5, none⟩ = some (.int .i64 l.sent) ∧ W.cell? ⟨P, 6, none⟩ = some (.int .i64 l.got) ∧ W.cell? ⟨P, 7, none⟩ = some (.int .i64 l.cut)) (go_keep) (first | (go_at_call 14; refine (QI.out _ _ _ hr3).mono ?_; rintro e w4 ⟨u, b, rfl, hbb, hL, hb4⟩; obtain ⟨A2, C2, rfl⟩ := hL.row.val; have b4 := b3.trans (hb4.mono b3.size); obtain ⟨g0, g1, g2, g3, g4, g5, g6, g7⟩ := HB2.out w4 b4; clear hb4; try dsimp only) | (refine step_copyOl (by rfl) _ _ (by rfl) (by rfl) (by rfl) hown.drew (hrow.below (Below.refl _ _).drew) (by omega) (by simp) ?_; intro A3 C3 w3 hr3 hA3 hb3; obtain ⟨ad3, rfl, _⟩ := hA3; have b3 := HA3.out.drew.trans hb3; obtain ⟨f0, f1, f2, f3, f4, f5, f6, f7⟩ := HB2.out w3 b3; clear hb3; try dsimp only) | fail)
  rename_i hHeld
  clear hHeld
  have H4 : Hid (SA P l (.slice (some ad) rs.length C) rs w w4 ∧ RowOl w4 (.slice (some ad5) aL.length C5) aL ∧ RowOl w4 (.slice A2 aL.length C2) aL) := ⟨H2.out.1.below b4, H2.out.2.below b4, hL.row⟩
  clear hL hbb b4 b3 hr3 H2 HB2 HA3 hrow hown c0 c1 c2 c3 c4 c5 c6 c7 e0 e1 e2 e3 e4 e5 e6 e7 f0 f1 f2 f3 f4 f5 f6 f7 g0 g1 g2 g3 g4 g5 g6 g7 QI
  go_wp2_with fail
  refine (linesRight_spec _ rs _ H4.out.1.row).mono ?_
  rintro e w5 ⟨rfl, hb5⟩
  have H5 : Hid (Below w.heap.size w w5 ∧ RowOl w5 (.slice (some ad5) aL.length C5) aL ∧ RowOl w5 (.slice A2 aL.length C2) aL) := ⟨(H4.out.1.below hb5).bel, H4.out.2.1.below hb5, H4.out.2.2.below hb5⟩
  clear hb5 H4
  cases hrb : lnsB rs
  · clear hrb
    go_wp2
    go_ret
    exact ⟨by first | rfl | simp, H5.out.1⟩
  have HRA : Hid (RightL aL) := HN.out.1 (lnsB_iff.1 hrb)
  clear hrb
  go_wp2_with fail
  go_loopw [7] (fun i wr => ∃ k : Nat, i = .int .i64 (k : Int) ∧ k ≤ aL.length ∧ Below w5.heap.size w5 wr) (fun i _ => aL.length - (RowKit.intOf i).toNat)
  case atStart => exact ⟨0, rfl, by omega, Below.refl _ _⟩
  case round =>
    obtain ⟨k, rfl, hk, hb⟩ := hrel
    have HI : Hid (Below w.heap.size w wr ∧ RowOl wr (.slice (some ad5) aL.length C5) aL ∧ RowOl wr (.slice A2 aL.length C2) aL ∧ Below w5.heap.size w5 wr) := ⟨H5.out.1.trans (hb.mono H5.out.1.size), H5.out.2.1.below hb, H5.out.2.2.below hb, hb⟩
    clear hb
    by_cases hlt : k < aL.length
    · have hlt' : (k : Int) < (aL.length : Int) := by omega
      obtain ⟨b, o, cap', x, e, hs, hat1, _⟩ := HI.out.2.2.1.at hlt
      obtain ⟨b', o', cap'', x', e', hs', hat2, _⟩ := HI.out.2.1.at hlt
      simp only [Value.slice.injEq, Option.some.injEq, true_and] at e e'
      obtain ⟨rfl, rfl⟩ := e
      obtain ⟨rfl, rfl⟩ := e'
      obtain rfl : x = x' := by rw [hs] at hs'; exact Option.some.inj hs'
      have hxs := HN.out.2 x (List.mem_of_getElem? hs)
      have hx1 : x.partner.size ≤ 9223372036854775807 := (SmL.max hxs).1
      have hx2 : x.ref.size ≤ 9223372036854775807 := (SmL.max hxs).2.1
      have QF : Hid (∀ v W, RowOl W v aL → Calls Try.prog 16 #[v, .string x.partner, .string x.ref, .int .i64 x.no] W fun e w' => e = .returned (.int .i64 (k : Int)) ∧ Below W.heap.size W w') := fun v W hW => by
        have := lineFind_impl v aL x.partner x.ref x.no W hW hx1 hx2
        rw [find_at HRA.out hs] at this
        exact this
      have HK : Hid (∀ W, Below wr.heap.size wr W → (W.cell? ⟨b, o + k * 8, none⟩ = some (.string x.partner) ∧ W.cell? ⟨b, o + k * 8 + 1, none⟩ = some (.string x.ref) ∧ W.cell? ⟨b, o + k * 8 + 2, none⟩ = some (.int .i64 x.no) ∧ W.cell? ⟨b, o + k * 8 + 3, none⟩ = some (.string x.item) ∧ W.cell? ⟨b, o + k * 8 + 4, none⟩ = some (.int .i64 x.ordered) ∧ W.cell? ⟨b, o + k * 8 + 5, none⟩ = some (.int .i64 x.sent) ∧ W.cell? ⟨b, o + k * 8 + 6, none⟩ = some (.int .i64 x.got) ∧ W.cell? ⟨b, o + k * 8 + 7, none⟩ = some (.int .i64 x.cut)) ∧ W.cell? ⟨b', o' + k * 8, none⟩ = some (.string x.partner) ∧ W.cell? ⟨b', o' + k * 8 + 1, none⟩ = some (.string x.ref) ∧ W.cell? ⟨b', o' + k * 8 + 2, none⟩ = some (.int .i64 x.no) ∧ W.cell? ⟨b', o' + k * 8 + 3, none⟩ = some (.string x.item) ∧ W.cell? ⟨b', o' + k * 8 + 4, none⟩ = some (.int .i64 x.ordered) ∧ W.cell? ⟨b', o' + k * 8 + 5, none⟩ = some (.int .i64 x.sent) ∧ W.cell? ⟨b', o' + k * 8 + 6, none⟩ = some (.int .i64 x.got) ∧ W.cell? ⟨b', o' + k * 8 + 7, none⟩ = some (.int .i64 x.cut)) := fun W hW => by
        obtain ⟨p0, p1, p2, p3, p4, p5, p6, p7⟩ := hat1.below hW
        obtain ⟨q0, q1, q2, q3, q4, q5, q6, q7⟩ := hat2.below hW
        exact ⟨⟨p0, p1, p2, p3, p4, p5, p6, p7⟩, q0, q1, q2, q3, q4, q5, q6, q7⟩
      have hnq := run_neq_oln x
      clear hs hs' hat1 hat2 hxs
      go_upto_region 11 with fail
      obtain ⟨⟨p0, p1, p2, p3, p4, p5, p6, p7⟩, q0, q1, q2, q3, q4, q5, q6, q7⟩ := HK.out wr (Below.refl _ _)
      have ha10 : Below wr.heap.size wr (wr.alloc (.cells #[] 24)) := (Below.refl _ _).alloc (Nat.le_refl _) _
      have hown := own0Ol wr (Nat.le_refl wr.heap.size)
      have hrow := HI.out.2.2.1.below ha10
      obtain ⟨⟨pe0, pe1, pe2, pe3, pe4, pe5, pe6, pe7⟩, qe0, qe1, qe2, qe3, qe4, qe5, qe6, qe7⟩ := HK.out _ ha10
      have HA10 : Hid (Below wr.heap.size wr (wr.alloc (.cells #[] 24))) := ha10
      clear ha10
      go_region_held3 (fun W => (W.cell? ⟨b, o + k * 8, none⟩ = some (.string x.partner) ∧ W.cell? ⟨b, o + k * 8 + 1, none⟩ = some (.string x.ref) ∧ W.cell? ⟨b, o + k * 8 + 2, none⟩ = some (.int .i64 x.no) ∧ W.cell? ⟨b, o + k * 8 + 3, none⟩ = some (.string x.item) ∧ W.cell? ⟨b, o + k * 8 + 4, none⟩ = some (.int .i64 x.ordered) ∧ W.cell? ⟨b, o + k * 8 + 5, none⟩ = some (.int .i64 x.sent) ∧ W.cell? ⟨b, o + k * 8 + 6, none⟩ = some (.int .i64 x.got) ∧ W.cell? ⟨b, o + k * 8 + 7, none⟩ = some (.int .i64 x.cut)) ∧ W.cell? ⟨b', o' + k * 8, none⟩ = some (.string x.partner) ∧ W.cell? ⟨b', o' + k * 8 + 1, none⟩ = some (.string x.ref) ∧ W.cell? ⟨b', o' + k * 8 + 2, none⟩ = some (.int .i64 x.no) ∧ W.cell? ⟨b', o' + k * 8 + 3, none⟩ = some (.string x.item) ∧ W.cell? ⟨b', o' + k * 8 + 4, none⟩ = some (.int .i64 x.ordered) ∧ W.cell? ⟨b', o' + k * 8 + 5, none⟩ = some (.int .i64 x.sent) ∧ W.cell? ⟨b', o' + k * 8 + 6, none⟩ = some (.int .i64 x.got) ∧ W.cell? ⟨b', o' + k * 8 + 7, none⟩ = some (.int .i64 x.cut)) (go_keep) (first | (go_at_call 16; refine (QF.out _ _ hr10).mono ?_; rintro e w11 ⟨rfl, hb11⟩; have b11 := b10.trans (hb11.mono b10.size); obtain ⟨⟨pg0, pg1, pg2, pg3, pg4, pg5, pg6, pg7⟩, qg0, qg1, qg2, qg3, qg4, qg5, qg6, qg7⟩ := HK.out w11 b11; clear hb11; try dsimp only) | (refine step_copyOl (by rfl) _ _ (by rfl) (by rfl) (by rfl) hown.drew (hrow.below (Below.refl _ _).drew) (by omega) (by simp) ?_; intro A10 C10 w10 hr10 hA10 hb10; have b10 := HA10.out.drew.trans hb10; obtain ⟨⟨pf0, pf1, pf2, pf3, pf4, pf5, pf6, pf7⟩, qf0, qf1, qf2, qf3, qf4, qf5, qf6, qf7⟩ := HK.out w10 b10; clear hb10; try dsimp only) | fail)
      rename_i hHeld
      clear hHeld
      have HR11 : Hid (Below w5.heap.size w5 w11) := HI.out.2.2.2.trans (b11.mono HI.out.2.2.2.size)
      clear b10 b11 hr10
      go_wp2
      go_roundw
      case rel => exact ⟨k + 1, by go_num, by omega, HR11.out⟩
      case measure => simp [RowKit.intOf]; omega
    · obtain rfl : k = aL.length := by omega
      have ha7 : Below wr.heap.size wr (wr.alloc (.cells #[] 24)) := (Below.refl _ _).alloc (Nat.le_refl _) _
      have hown := own0Ol wr (Nat.le_refl wr.heap.size)
      have hrow := HI.out.2.2.1.below ha7
      have HA7 : Hid (Below wr.heap.size wr (wr.alloc (.cells #[] 24))) := ha7
      clear ha7
      go_wp2_with (first | (at_builtin; refine wpList_copyOl (by rfl) _ _ rfl rfl rfl hown hrow (by omega) (by simp) ?_; intro A7 C7 w7 hr7 hA7 hb7) | fail)
      have b7 : Below wr.heap.size wr w7 := HA7.out.trans hb7
      have H7 : Hid (Below w.heap.size w w7 ∧ RowOl w7 (.slice A7 aL.length C7) aL) := ⟨HI.out.1.trans (b7.mono HI.out.1.size), hr7⟩
      have QR := linesRight_impl (.slice A7 aL.length C7) aL w7 hr7
      rw [lnsB_yes HRA.out] at QR
      clear hb7 hr7 b7 hown hrow
      refine QR.mono ?_
      rintro e w8 ⟨rfl, hb8⟩
      have H8 : Hid (Below w.heap.size w w8) := H7.out.1.trans (hb8.mono H7.out.1.size)
      clear hb8 QR
      go_wp2
      go_ret
      exact ⟨rfl, H8.out⟩
theorem own : ownKnob Try.prog.godebug = none := by kernel_rfl
theorem laidOut : laidOutB Try.prog = true := by kernel_rfl
set_option maxRecDepth 100000 in
theorem lifted (os : Os) (started : os.Started) (H : Type) (enc : TypeId × Value → H) :
    ReturnsInHanded {} Try.checked os 4 .any (Rows.fnAddedSpec.pre6 enc Try.prog Try.f4 Rows.fnAddedRow.domain false) (Rows.fnAddedSpec.post enc Try.prog Try.f4 false true false false) := by
  refine returnsInHanded_of_change (C := Try.checked) own started (by kernel_rfl) Try.func4
    (ChangeSpec.witness6 (enc := enc) (C := Try.checked) false ⟨#[], #[.slice none 0 0], []⟩ 8 (by kernel_rfl) (by kernel_rfl) (by kernel_rfl) (by kernel_rfl)) ?_
  intro W base args ds gs before hval0 hW hcnd _
  have hval : ∀ (j : Nat) t v, Try.f4.params[j]? = some t → args[j]? = some v → Value.okWide Try.prog W .any base t v := hval0
  have hW' := hW
  obtain ⟨p, q, hA0, hV, rfl, hfz, hnd⟩ := hW
  have hA : DataW.TrodAll enc Try.prog W 0 (fun _ => true) true Try.f4.params.toList args.toList ds p := hA0
  rw [Try.params4] at hA hval
  obtain ⟨v0, vs0, d0, ds0, p0, q0, hargs, rfl, rfl, h0, r0⟩ := trodAll_cons hA
  obtain ⟨rfl, rfl, rfl⟩ := trodAll_nil r0
  obtain rfl : args = #[v0] := by cases args; simp_all
  obtain ⟨rfl, rfl⟩ := trodVars_none hV
  obtain ⟨a0, len0, cap0, rfl⟩ := okWide_slice Try.underlying22 (hval 0 22 v0 rfl rfl)
  have k0 := h0
  have lt0 : ∀ x ∈ p0, x.block < W.heap.size := by obtain ⟨m, hm⟩ := k0; exact DataW.trod_lt m _ _ _ hm
  obtain ⟨z0, w0⟩ : ∃ zs, IsRow .u8 W a0 len0 cap0 zs := by
    obtain ⟨fuel, hf⟩ := h0
    rcases open_ints Try.underlying22 Try.underlying5 (by kernel_rfl) hf with ⟨hcs, _⟩ | ⟨x, l, c, zs, hcs, _, hl, hm, hz, _, hcell, hwz⟩
    · simp [Value.cells] at hcs
      obtain ⟨rfl, rfl, rfl⟩ := hcs
      exact ⟨[], .inl ⟨rfl, rfl, rfl, rfl⟩⟩
    · simp [Value.cells] at hcs
      obtain ⟨rfl, rfl, rfl⟩ := hcs
      exact ⟨zs, .inr ⟨_, rfl, hl, hm, by simpa using hz, hcell, hwz⟩⟩
  clear hA0 hval0
  refine (walk a0 len0 cap0 z0 W w0).mono fun e W' ⟨he, bel⟩ => ?_
  subst he
  exact ⟨_, rfl, _, _, _, [], _, [], hW', trodAll_mk1 (shut_bool Try.underlying4 _), (trodAll_cons_mk (Below.trod laidOut (by kernel_rfl) (of_decide_eq_true (by kernel_rfl)) k0 bel lt0) trodAll_mk0), rfl, bel.frame _, fun h => by cases h⟩
theorem over : Rows.fnAddedRow.holds Try.pinned (OpenSpec.ofChange Rows.fnAddedSpec) :=
  OpenClaim.holds_of_wide 4 Try.f4 rfl rfl rfl rfl rfl rfl rfl ⟨rfl, rfl, rfl, rfl, rfl⟩ rfl rfl rfl rfl rfl (by kernel_rfl) Try.func4 (by kernel_rfl)
    (of_decide_eq_true (by kernel_rfl)) (by unfold Func.isWrapper; first | (rw [if_pos (by decide +kernel)]; kernel_rfl) | (rw [if_neg (by decide +kernel)]; exact ⟨rfl, rfl⟩))
    (fun os started H enc _ => lifted os started H enc)
end fnAdded
theorem fnAdded_holds : Rows.FnAddedSaid := fnAdded.over
#print axioms fnAdded_holds
end Go.Proofs.Ytnfidhfhmfggcaa
