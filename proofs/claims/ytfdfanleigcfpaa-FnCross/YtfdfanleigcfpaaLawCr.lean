/- FnCross returns true at every text and leaves it as it was: a drawn cross that is put is found by its partner's name and by our own, one that is dropped is found no more; no condition. -/
import Derived.Test.YtfdfanleigcfpaaCrF
import Derived.Test.YtfdfanleigcfpaaCrL
import Derived.Test.YtfdfanleigcfpaaLwCs
import Derived.Test.YtfdfanleigcfpaaPutX
import Derived.Test.YtfdfanleigcfpaaItR
import Derived.Test.YtfdfanleigcfpaaItQ
import Derived.Test.YtfdfanleigcfpaaAppZCs
import Derived.Deep.RegionHeld3
import Derived.Deep.RegionLaw
import Derived.Deep.Cut
import Derived.Deep.CutRange
import Derived.Deep.DeepMust
namespace Go.Proofs.Ytfdfanleigcfpaa
open Go.ChangeShapes Go.WideShapes Go.ChangeAt Go.RowKit
set_option linter.unusedVariables false
namespace fnCross
def IsRow (k : IntKind) (w : World) (a : Option Addr) (len cap : Nat) (zs : List Int) : Prop :=
  (a = none ∧ len = 0 ∧ cap = 0 ∧ zs = []) ∨
  ∃ x, a = some x ∧ len ≤ cap ∧ cap ≤ maxLen ∧ zs.length = cap ∧ (∀ i, i < zs.length → w.cell? (x.add i) = some (.int k (zs.getD i 0))) ∧ ∀ n ∈ zs, (Lit.int k n).wf = true
theorem IsRow.bytesAt {w : World} {a : Option Addr} {len cap : Nat} {zs : List Int} (h : IsRow .u8 w a len cap zs) : BytesAt w a len zs := by
  intro g
  rcases h with ⟨_, rfl, _, _⟩ | ⟨x, rfl, hl, _, hz, hc, _⟩
  · omega
  · obtain ⟨b, off, spot⟩ := x
    have h0 := hc 0 (by omega)
    have hspot : spot = none := by simpa [Addr.add] using World.cell?_spot h0
    subst hspot
    refine ⟨b, off, rfl, fun i hi => ?_⟩
    have hplain : (⟨b, off, none⟩ : Addr).add i = ⟨b, off + i, none⟩ := by unfold Addr.add; split <;> simp_all
    have := hc i (by omega)
    rw [hplain] at this
    simpa [List.getD] using this
theorem IsRow.len_le {w : World} {a : Option Addr} {len cap : Nat} {zs : List Int} (h : IsRow .u8 w a len cap zs) : len ≤ 9223372036854775807 := by
  rcases h with ⟨_, rfl, _, _⟩ | ⟨x, rfl, hl, hm, hz, hc, _⟩
  · omega
  · unfold maxLen at hm
    omega
theorem box3 {W : World} {b t : Nat} {x0 x1 x2 : Value} (h : W.heap[b]? = some (.cells #[x0, x1, x2] t)) : W.cell? ⟨b, 0, none⟩ = some x0 ∧ W.cell? ⟨b, 1, none⟩ = some x1 ∧ W.cell? ⟨b, 2, none⟩ = some x2 := by
  refine ⟨?_, ?_, ?_⟩ <;> simp [World.cell?, h]
theorem und {a b : World} (h : Below a.drew.heap.size a.drew b) : Below a.heap.size a b := (Below.refl _ _).drew.trans h
/-- The drawn cross in its box, the drawn list. -/
structure SC (P : Nat) (c : Crs) (lv : Value) (rs : List Crs) (w W : World) : Prop where
  bel : Below w.heap.size w W
  box : W.heap[P]? = some (.cells #[.string c.partner, .string c.theirs, .string c.own] 25)
  row : RowCs W lv rs
theorem SC.below {P : Nat} {c : Crs} {lv : Value} {rs : List Crs} {w W W' : World} (h : SC P c lv rs w W) (hb : Below W.heap.size W W') : SC P c lv rs w W' := ⟨h.bel.trans (hb.mono h.bel.size), (hb.block _ (Array.getElem?_eq_some_iff.1 h.box).1).trans h.box, h.row.below hb⟩
theorem putT_sm {rs : List Crs} {c : Crs} (h : ∀ g ∈ rs, SmC g) (hc : SmC c) : ∀ g ∈ putT rs c, SmC g := fun g hg => by
  rcases putT_mem g hg with rfl | hg
  · exact hc
  · exact h g hg
theorem SmC.bd {c : Crs} (h : SmC c) : BdC c := by
  obtain ⟨h1, h2, h3⟩ := h
  unfold BdC
  omega
theorem dropT_mem {rs : List Crs} {p t : ByteArray} : ∀ x ∈ dropT rs p t, x ∈ rs := fun x hx => by
  unfold dropT at hx
  split at hx
  · cases hx
  · split at hx
    · exact (offK_sub _ _).subset hx
    · exact hx
theorem dropT_len (rs : List Crs) (p t : ByteArray) : (dropT rs p t).length ≤ rs.length := by
  unfold dropT
  split
  · simp
  · split
    · exact (offK_sub _ _).length_le
    · exact Nat.le_refl _
set_option maxRecDepth 100000 in
set_option maxHeartbeats 4000000 in
theorem walk (a0 : Option Addr) (len0 cap0 : Nat) (z0 : List Int) (w : World) (w0 : IsRow .u8 w a0 len0 cap0 z0) :
    Calls Try.prog 3 #[.slice a0 len0 cap0] w fun e w' => e = .returned (.bool true) ∧ Below w.heap.size w w' := by
  have hl0 := w0.len_le
  have HR : Hid (BytesAt w a0 len0 z0) := w0.bytesAt
  clear w0
  by_cases hg : 1048576 < len0
  · have hg' : (1048576 : Int) < (len0 : Int) := by omega
    clear HR
    go_enter Try.func3, Try.ntmps3
    go_wp2
    go_ret
    exact ⟨rfl, Below.refl _ _⟩
  have hg' : (len0 : Int) ≤ 1048576 := by omega
  go_enter Try.func3, Try.ntmps3
  go_wp2_with fail
  refine (drawCrossPut_any a0 len0 cap0 z0 _ (by omega) HR.out).mono ?_
  rintro e w1 ⟨ad, C, rs, c, rfl, hr, hsm, hlen, hc, hb1⟩
  obtain ⟨W1, hW1⟩ : ∃ W1, w1.alloc (.cells #[.string c.partner, .string c.theirs, .string c.own] 25) = W1 := ⟨_, rfl⟩
  have ha1 : Below w1.heap.size w1 W1 := by rw [← hW1]; exact (Below.refl _ _).alloc (Nat.le_refl _) _
  have hx1 : W1.heap[w1.heap.size]? = some (.cells #[.string c.partner, .string c.theirs, .string c.own] 25) := by rw [← hW1]; exact World.alloc_heap_new _ _
  obtain ⟨P, hP⟩ : ∃ P, P = w1.heap.size := ⟨_, rfl⟩
  rw [← hP] at hx1
  have H1 : Hid (SC P c (.slice (some ad) rs.length C) rs w W1) := ⟨hb1.trans (ha1.mono hb1.size), hx1, hr.below ha1⟩
  have HS : Hid ((∀ g ∈ rs, SmC g) ∧ SmC c) := ⟨hsm, hc⟩
  have HW : Hid (w1.alloc (.cells #[.string c.partner, .string c.theirs, .string c.own] 25) = W1 ∧ P = w1.heap.size) := ⟨hW1, hP⟩
  clear hr hsm hb1 HR hW1 hP ha1 hx1 hc
  go_upto_region 4 with fail
  try rw [HW.out.1]
  try rw [← HW.out.2]
  clear HW
  go_wp2_with fail
  refine (crossRight_spec _ rs _ H1.out.row).mono ?_
  rintro e w2 ⟨rfl, hb2⟩
  have H2 : Hid (SC P c (.slice (some ad) rs.length C) rs w w2) := H1.out.below hb2
  clear hb2 H1
  cases hrb : rightB rs
  · go_wp2
    go_ret
    exact ⟨rfl, H2.out.bel⟩
  have HRC : Hid (RightC rs) := rightB_iff.1 hrb
  clear hrb
  go_upto_region 6 with fail
  obtain ⟨c0, c1, c2⟩ := box3 H2.out.box
  have HB2 : Hid (∀ W, Below w2.heap.size w2 W → W.cell? ⟨P, 0, none⟩ = some (.string c.partner) ∧ W.cell? ⟨P, 1, none⟩ = some (.string c.theirs) ∧ W.cell? ⟨P, 2, none⟩ = some (.string c.own)) := fun W hW => box3 (H2.out.below hW).box
  have ha3 : Below w2.heap.size w2 (w2.alloc (.cells #[] 25)) := (Below.refl _ _).alloc (Nat.le_refl _) _
  have hown := own0Cs w2 (Nat.le_refl w2.heap.size)
  have hrow := (H2.out.below ha3).row
  obtain ⟨e0, e1, e2⟩ := HB2.out _ ha3
  have HA3 : Hid (Below w2.heap.size w2 (w2.alloc (.cells #[] 25))) := ha3
  clear ha3
  go_region_held3 (fun W => W.cell? ⟨P, 0, none⟩ = some (.string c.partner) ∧ W.cell? ⟨P, 1, none⟩ = some (.string c.theirs) ∧ W.cell? ⟨P, 2, none⟩ = some (.string c.own)) (go_keep) (first | (go_at_call 6; go_must (refine (crossPut_impl _ rs c _ hr3 (fun d hd => SmC.bd (HS.out.1 d hd)) (SmC.bd HS.out.2)).mono ?_); rintro e w4 ⟨u, b, rfl, hbb, hL, hb4⟩; obtain ⟨A2, C2, rfl⟩ := hL.row.val; have b4 := b3.trans (hb4.mono b3.size); obtain ⟨g0, g1, g2⟩ := HB2.out w4 b4; clear hb4; try dsimp only) | (refine step_copyCs (by rfl) _ _ (by rfl) (by rfl) (by rfl) hown.drew (hrow.below (Below.refl _ _).drew) (by omega) (by simp) ?_; intro A3 C3 w3 hr3 hA3 hb3; have b3 := HA3.out.drew.trans hb3; obtain ⟨f0, f1, f2⟩ := HB2.out w3 b3; clear hb3; try dsimp only) | fail)
  rename_i hHeld
  clear hHeld
  have H4 : Hid (SC P c (.slice (some ad) rs.length C) rs w w4) := H2.out.below b4
  have hpl := putT_len rs c
  have HP : Hid (∃ nx, putT rs c = nx ∧ RightC nx ∧ (∀ g ∈ nx, SmC g) ∧ nx.length ≤ 251) := ⟨_, rfl, putT_right HRC.out c, putT_sm HS.out.1 HS.out.2, by omega⟩
  obtain ⟨nx, hnx, hrn, hsn, hln⟩ := HP.out
  have QS : Hid (∀ W, RowCs W (.slice (some ad) rs.length C) rs → Calls Try.prog 7 #[.slice (some ad) rs.length C, .agg #[.string c.partner, .string c.theirs, .string c.own]] W fun e w' => ∃ u, e = .returned u ∧ RowCs w' u nx ∧ Below W.heap.size W w') := fun W hW => by rw [← hnx]; exact crossPut_spec rs ad C c W hW (SmC.max HS.out.2)
  have N4 : Hid (RowCs w4 (.slice A2 nx.length C2) nx) := by rw [← hnx]; exact hL.row
  have HN : Hid (RightC nx ∧ ∀ g ∈ nx, SmC g) := ⟨hrn, hsn⟩
  rw [hnx]
  clear hnx hrn hsn HP hpl hL hbb b4 hr3 b3 H2 HB2 HA3 hrow hown c0 c1 c2 e0 e1 e2 f0 f1 f2 g0 g1 g2
  obtain ⟨c0, c1, c2⟩ := box3 H4.out.box
  go_wp2_with fail
  refine (QS.out _ H4.out.row).mono ?_
  rintro e w5 ⟨u3, rfl, hr5, hb5⟩
  have H5 : Hid (SC P c (.slice (some ad) rs.length C) rs w w5 ∧ RowCs w5 (.slice A2 nx.length C2) nx ∧ RowCs w5 u3 nx) := ⟨H4.out.below hb5, N4.out.below hb5, hr5⟩
  clear hb5 hr5 H4 N4 c0 c1 c2 QS
  go_wp2_with fail
  refine (lwCrosses_any nx _ _ _ H5.out.2.1 H5.out.2.2).mono ?_
  rintro e w6 ⟨rfl, hb6⟩
  have H6 : Hid (SC P c (.slice (some ad) rs.length C) rs w w6 ∧ RowCs w6 (.slice A2 nx.length C2) nx) := ⟨H5.out.1.below hb6, H5.out.2.1.below hb6⟩
  clear hb6 H5
  have ha7 : Below w6.heap.size w6 (w6.alloc (.cells #[] 25)) := (Below.refl _ _).alloc (Nat.le_refl _) _
  have hown := own0Cs w6 (Nat.le_refl w6.heap.size)
  have hrow := H6.out.2.below ha7
  go_wp2_with (first | (at_builtin; refine wpList_copyCs (by rfl) _ _ rfl rfl rfl hown hrow (by omega) (by simp) ?_; intro A7 C7 w7 hr7 hA7 hb7) | fail)
  have H7 : Hid (SC P c (.slice (some ad) rs.length C) rs w w7 ∧ RowCs w7 (.slice A2 nx.length C2) nx ∧ RowCs w7 (.slice A7 nx.length C7) nx) := ⟨H6.out.1.below (ha7.trans hb7), H6.out.2.below (ha7.trans hb7), hr7⟩
  clear hb7 hr7 H6 hown hrow ha7
  have QR := crossRight_impl (.slice A7 nx.length C7) nx w7 H7.out.2.2
  rw [rightB_yes HN.out.1] at QR
  refine QR.mono ?_
  rintro e w8 ⟨rfl, hb8⟩
  have H8 : Hid (SC P c (.slice (some ad) rs.length C) rs w w8 ∧ RowCs w8 (.slice A2 nx.length C2) nx) := ⟨H7.out.1.below hb8, H7.out.2.1.below hb8⟩
  clear hb8 H7 QR
  go_wp2_with fail
  go_loopw [7] (fun i wr => ∃ k : Nat, i = .int .i64 (k : Int) ∧ k ≤ nx.length ∧ Below w8.heap.size w8 wr) (fun i _ => nx.length - (intOf i).toNat)
  case atStart => exact ⟨0, rfl, by omega, Below.refl _ _⟩
  case round =>
    obtain ⟨k, rfl, hk, hb⟩ := hrel
    have HI : Hid (SC P c (.slice (some ad) rs.length C) rs w wr ∧ RowCs wr (.slice A2 nx.length C2) nx ∧ Below w8.heap.size w8 wr) := ⟨H8.out.1.below hb, H8.out.2.below hb, hb⟩
    clear hb
    by_cases hlt : k < nx.length
    · have hlt' : (k : Int) < (nx.length : Int) := by omega
      obtain ⟨b, o, cap', x, e, hs, ⟨q0, q1, q2⟩, _⟩ := HI.out.2.1.at hlt
      simp only [Value.slice.injEq, true_and] at e
      obtain ⟨rfl, rfl⟩ := e
      have hxm : x ∈ nx := List.mem_of_getElem? hs
      have hxs := HN.out.2 x hxm
      have hx1 : x.partner.size ≤ 9223372036854775807 := (SmC.max hxs).1
      have hx2 : x.theirs.size ≤ 9223372036854775807 := (SmC.max hxs).2.1
      have hx3 : x.own.size ≤ 9223372036854775807 := (SmC.max hxs).2.2
      have QO : Hid (∀ v W, RowCs W v nx → Calls Try.prog 10 #[v, .string x.partner, .string x.theirs] W fun e w' => e = .returned (.string x.own) ∧ Below W.heap.size W w') := fun v W hW => by
        have := crossOwn_impl v nx x.partner x.theirs W hW hx1 hx2
        rw [HN.out.1.own_back hxm] at this
        exact this
      have QT : Hid (∀ v W, RowCs W v nx → Calls Try.prog 11 #[v, .string x.partner, .string x.own] W fun e w' => e = .returned (.string x.theirs) ∧ Below W.heap.size W w') := fun v W hW => by
        have := crossTheirs_impl v nx x.partner x.own W hW hx1 hx3
        rw [HN.out.1.their_back hxm] at this
        exact this
      clear hs hxm hxs
      obtain ⟨W9, hW9⟩ : ∃ W9, wr.alloc (.cells #[.string x.partner, .string x.theirs, .string x.own] 25) = W9 := ⟨_, rfl⟩
      have ha9 : Below wr.heap.size wr W9 := by rw [← hW9]; exact (Below.refl _ _).alloc (Nat.le_refl _) _
      have hx9 : W9.heap[wr.heap.size]? = some (.cells #[.string x.partner, .string x.theirs, .string x.own] 25) := by rw [← hW9]; exact World.alloc_heap_new _ _
      obtain ⟨X, hX⟩ : ∃ X, X = wr.heap.size := ⟨_, rfl⟩
      rw [← hX] at hx9
      have HW9 : Hid (wr.alloc (.cells #[.string x.partner, .string x.theirs, .string x.own] 25) = W9 ∧ X = wr.heap.size) := ⟨hW9, hX⟩
      have H9 : Hid (Below w8.heap.size w8 W9 ∧ RowCs W9 (.slice (some ⟨b, o, none⟩) nx.length C2) nx) := ⟨HI.out.2.2.trans (ha9.mono HI.out.2.2.size), HI.out.2.1.below ha9⟩
      have HB9 : Hid (∀ W, Below W9.heap.size W9 W → W.cell? ⟨X, 0, none⟩ = some (.string x.partner) ∧ W.cell? ⟨X, 1, none⟩ = some (.string x.theirs) ∧ W.cell? ⟨X, 2, none⟩ = some (.string x.own)) := fun W hW => box3 ((hW.block _ (Array.getElem?_eq_some_iff.1 hx9).1).trans hx9)
      clear hW9 hX ha9 hx9
      go_upto_region 14 with fail
      try rw [HW9.out.1]
      try rw [← HW9.out.2]
      clear HW9 q0 q1 q2
      obtain ⟨c0, c1, c2⟩ := HB9.out W9 (Below.refl _ _)
      have ha10 : Below W9.heap.size W9 (W9.alloc (.cells #[] 25)) := (Below.refl _ _).alloc (Nat.le_refl _) _
      have hown := own0Cs W9 (Nat.le_refl W9.heap.size)
      have hrow := H9.out.2.below ha10
      obtain ⟨e0, e1, e2⟩ := HB9.out _ ha10
      have HA10 : Hid (Below W9.heap.size W9 (W9.alloc (.cells #[] 25))) := ha10
      clear ha10
      go_region_held3 (fun W => W.cell? ⟨X, 0, none⟩ = some (.string x.partner) ∧ W.cell? ⟨X, 1, none⟩ = some (.string x.theirs) ∧ W.cell? ⟨X, 2, none⟩ = some (.string x.own)) (go_keep) (first | (go_at_call 10; refine (QO.out _ _ hr10).mono ?_; rintro e w11 ⟨rfl, hb11⟩; have b11 := b10.trans (hb11.mono b10.size); obtain ⟨g0, g1, g2⟩ := HB9.out w11 b11; have ha12 := b11.alloc b11.size (.cells #[] 25); obtain ⟨j0, j1, j2⟩ := HB9.out _ ha12; clear hb11; try dsimp only) | (go_at_call 11; refine (QT.out _ _ hr12).mono ?_; rintro e w13 ⟨rfl, hb13⟩; have b13 := b12.trans (hb13.mono b12.size); obtain ⟨n0, n1, n2⟩ := HB9.out w13 b13; clear hb13; try dsimp only) | (refine step_copyCs (by rfl) _ _ (by rfl) (by rfl) (by rfl) (own0Cs w11 (Nat.le_refl w11.heap.size)) (H9.out.2.below ha12) (by omega) (by simp) ?_; intro A12 C12 w12 hr12 hA12 hb12; have b12 := b11.trans ((((Below.refl _ w11).alloc (Nat.le_refl _) (.cells #[] 25)).trans hb12).mono b11.size); obtain ⟨l0, l1, l2⟩ := HB9.out w12 b12; clear hb12; try dsimp only) | (refine step_copyCs (by rfl) _ _ (by rfl) (by rfl) (by rfl) hown.drew (hrow.below (Below.refl _ _).drew) (by omega) (by simp) ?_; intro A10 C10 w10 hr10 hA10 hb10; have b10 := HA10.out.drew.trans hb10; obtain ⟨f0, f1, f2⟩ := HB9.out w10 b10; clear hb10; try dsimp only) | fail)
      all_goals rename_i hHeld
      all_goals clear hHeld
      have HR13 : Hid (Below w8.heap.size w8 w13) := H9.out.1.trans (b13.mono H9.out.1.size)
      clear b10 b11 b12 b13 ha12 hr10 hr12
      go_wp2
      go_roundw
      case rel => exact ⟨k + 1, by go_num, by omega, HR13.out⟩
      case measure => simp [intOf]; omega
    · obtain rfl : k = nx.length := by omega
      go_upto_region 16 with fail
      obtain ⟨c0, c1, c2⟩ := box3 HI.out.1.box
      have hcs := SmC.max HS.out.2
      have hcp : c.partner.size ≤ 9223372036854775807 := hcs.1
      have hct : c.theirs.size ≤ 9223372036854775807 := hcs.2.1
      have HBR : Hid (∀ W, Below wr.heap.size wr W → W.cell? ⟨P, 0, none⟩ = some (.string c.partner) ∧ W.cell? ⟨P, 1, none⟩ = some (.string c.theirs) ∧ W.cell? ⟨P, 2, none⟩ = some (.string c.own)) := fun W hW => box3 (HI.out.1.below hW).box
      have ha14 : Below wr.heap.size wr (wr.alloc (.cells #[] 25)) := (Below.refl _ _).alloc (Nat.le_refl _) _
      have hown := own0Cs wr (Nat.le_refl wr.heap.size)
      have hrow := HI.out.2.1.below ha14
      obtain ⟨e0, e1, e2⟩ := HBR.out _ ha14
      have HA14 : Hid (Below wr.heap.size wr (wr.alloc (.cells #[] 25))) := ha14
      clear ha14 hcs
      go_region_held3 (fun W => W.cell? ⟨P, 0, none⟩ = some (.string c.partner) ∧ W.cell? ⟨P, 1, none⟩ = some (.string c.theirs) ∧ W.cell? ⟨P, 2, none⟩ = some (.string c.own)) (go_keep) (first | (go_at_call 12; refine (crossDrop_impl _ nx c.partner c.theirs _ hr14 (fun d hd => SmC.bd (HN.out.2 d hd)) hcp hct).mono ?_; rintro e w15 ⟨u, bb, rfl, hbb, hL, hb15⟩; obtain ⟨A5, C5, rfl⟩ := hL.row.val; have b15 := b14.trans (hb15.mono b14.size); obtain ⟨g0, g1, g2⟩ := HBR.out w15 b15; clear hb15; try dsimp only) | (refine step_copyCs (by rfl) _ _ (by rfl) (by rfl) (by rfl) hown.drew (hrow.below (Below.refl _ _).drew) (by omega) (by simp) ?_; intro A14 C14 w14 hr14 hA14 hb14; have b14 := HA14.out.drew.trans hb14; obtain ⟨f0, f1, f2⟩ := HBR.out w14 b14; clear hb14; try dsimp only) | fail)
      rename_i hHeld
      clear hHeld
      have hgl := dropT_len nx c.partner c.theirs
      have HGO : Hid (∃ gn, dropT nx c.partner c.theirs = gn ∧ ownT gn c.partner c.theirs = c.theirs ∧ gn.length ≤ 251) := ⟨_, rfl, gone_own HN.out.1 (by have := HS.out.2.1; omega) (by have := HS.out.2.2.1; omega), by omega⟩
      obtain ⟨gn, hgn, hgo, hgl2⟩ := HGO.out
      have H15 : Hid (SC P c (.slice (some ad) rs.length C) rs w w15 ∧ RowCs w15 (.slice A5 gn.length C5) gn) := ⟨HI.out.1.below b15, by rw [← hgn]; exact hL.row⟩
      have QE : Hid (∀ v W, RowCs W v gn → Calls Try.prog 10 #[v, .string c.partner, .string c.theirs] W fun e w' => e = .returned (.string c.theirs) ∧ Below W.heap.size W w') := fun v W hW => by
        have := crossOwn_impl v gn c.partner c.theirs W hW hcp hct
        rw [hgo] at this
        exact this
      rw [hgn]
      clear hgn hgo HGO hgl hL hbb b15 b14 hr14 HBR HA14 hrow hown c0 c1 c2 e0 e1 e2 f0 f1 f2 g0 g1 g2
      go_upto_region 17 with fail
      obtain ⟨c0, c1, c2⟩ := box3 H15.out.1.box
      have HBR : Hid (∀ W, Below w15.heap.size w15 W → W.cell? ⟨P, 0, none⟩ = some (.string c.partner) ∧ W.cell? ⟨P, 1, none⟩ = some (.string c.theirs) ∧ W.cell? ⟨P, 2, none⟩ = some (.string c.own)) := fun W hW => box3 (H15.out.1.below hW).box
      have ha16 : Below w15.heap.size w15 (w15.alloc (.cells #[] 25)) := (Below.refl _ _).alloc (Nat.le_refl _) _
      have hown := own0Cs w15 (Nat.le_refl w15.heap.size)
      have hrow := H15.out.2.below ha16
      obtain ⟨e0, e1, e2⟩ := HBR.out _ ha16
      have HA16 : Hid (Below w15.heap.size w15 (w15.alloc (.cells #[] 25))) := ha16
      clear ha16
      go_region_held3 (fun W => W.cell? ⟨P, 0, none⟩ = some (.string c.partner) ∧ W.cell? ⟨P, 1, none⟩ = some (.string c.theirs) ∧ W.cell? ⟨P, 2, none⟩ = some (.string c.own)) (go_keep) (first | (go_at_call 10; refine (QE.out _ _ hr16).mono ?_; rintro e w17 ⟨rfl, hb17⟩; have b17 := b16.trans (hb17.mono b16.size); obtain ⟨g0, g1, g2⟩ := HBR.out w17 b17; clear hb17; try dsimp only) | (refine step_copyCs (by rfl) _ _ (by rfl) (by rfl) (by rfl) hown.drew (hrow.below (Below.refl _ _).drew) (by omega) (by simp) ?_; intro A16 C16 w16 hr16 hA16 hb16; have b16 := HA16.out.drew.trans hb16; obtain ⟨f0, f1, f2⟩ := HBR.out w16 b16; clear hb16; try dsimp only) | fail)
      rename_i hHeld
      clear hHeld
      have HF : Hid (Below w.heap.size w w17) := (H15.out.1.below b17).bel
      clear b16 b17 hr16
      go_wp2
      go_ret
      exact ⟨by first | rfl | simp, HF.out⟩
theorem own : ownKnob Try.prog.godebug = none := by kernel_rfl
theorem laidOut : laidOutB Try.prog = true := by kernel_rfl
set_option maxRecDepth 100000 in
theorem lifted (os : Os) (started : os.Started) (H : Type) (enc : TypeId × Value → H) :
    ReturnsInHanded {} Try.checked os 3 .any (Rows.fnCrossSpec.pre6 enc Try.prog Try.f3 Rows.fnCrossRow.domain false) (Rows.fnCrossSpec.post enc Try.prog Try.f3 false true false false) := by
  refine returnsInHanded_of_change (C := Try.checked) own started (by kernel_rfl) Try.func3
    (ChangeSpec.witness6 (enc := enc) (C := Try.checked) false ⟨#[], #[.slice none 0 0], []⟩ 8 (by kernel_rfl) (by kernel_rfl) (by kernel_rfl) (by kernel_rfl)) ?_
  intro W base args ds gs before hval0 hW hcnd _
  have hval : ∀ (j : Nat) t v, Try.f3.params[j]? = some t → args[j]? = some v → Value.okWide Try.prog W .any base t v := hval0
  have hW' := hW
  obtain ⟨p, q, hA0, hV, rfl, hfz, hnd⟩ := hW
  have hA : DataW.TrodAll enc Try.prog W 0 (fun _ => true) true Try.f3.params.toList args.toList ds p := hA0
  rw [Try.params3] at hA hval
  obtain ⟨v0, vs0, d0, ds0, p0, q0, hargs, rfl, rfl, h0, r0⟩ := trodAll_cons hA
  obtain ⟨rfl, rfl, rfl⟩ := trodAll_nil r0
  obtain rfl : args = #[v0] := by cases args; simp_all
  obtain ⟨rfl, rfl⟩ := trodVars_none hV
  obtain ⟨a0, len0, cap0, rfl⟩ := okWide_slice Try.underlying22 (hval 0 22 v0 rfl rfl)
  have k0 := h0
  have lt0 : ∀ x ∈ p0, x.block < W.heap.size := by obtain ⟨m, hm⟩ := k0; exact DataW.trod_lt m _ _ _ hm
  obtain ⟨z0, w0⟩ : ∃ zs, IsRow .u8 W a0 len0 cap0 zs := by
    obtain ⟨fuel, hf⟩ := h0
    rcases open_ints Try.underlying22 Try.underlying5 (by kernel_rfl) hf with ⟨hcs, _⟩ | ⟨x, l, c, zs, hcs, _, hl, hm, hz, _, hcell, hwz⟩
    · simp [Value.cells] at hcs
      obtain ⟨rfl, rfl, rfl⟩ := hcs
      exact ⟨[], .inl ⟨rfl, rfl, rfl, rfl⟩⟩
    · simp [Value.cells] at hcs
      obtain ⟨rfl, rfl, rfl⟩ := hcs
      exact ⟨zs, .inr ⟨_, rfl, hl, hm, by simpa using hz, hcell, hwz⟩⟩
  clear hA0 hval0
  refine (walk a0 len0 cap0 z0 W w0).mono fun e W' ⟨he, bel⟩ => ?_
  subst he
  exact ⟨_, rfl, _, _, _, [], _, [], hW', trodAll_mk1 (shut_bool Try.underlying4 _), (trodAll_cons_mk (Below.trod laidOut (by kernel_rfl) (of_decide_eq_true (by kernel_rfl)) k0 bel lt0) trodAll_mk0), rfl, bel.frame _, fun h => by cases h⟩
theorem over : Rows.fnCrossRow.holds Try.pinned (OpenSpec.ofChange Rows.fnCrossSpec) :=
  OpenClaim.holds_of_wide 3 Try.f3 rfl rfl rfl rfl rfl rfl rfl ⟨rfl, rfl, rfl, rfl, rfl⟩ rfl rfl rfl rfl rfl (by kernel_rfl) Try.func3 (by kernel_rfl)
    (of_decide_eq_true (by kernel_rfl)) (by unfold Func.isWrapper; first | (rw [if_pos (by decide +kernel)]; kernel_rfl) | (rw [if_neg (by decide +kernel)]; exact ⟨rfl, rfl⟩))
    (fun os started H enc _ => lifted os started H enc)
end fnCross
theorem fnCross_holds : Rows.FnCrossSaid := fnCross.over
#print axioms fnCross_holds
end Go.Proofs.Ytfdfanleigcfpaa
